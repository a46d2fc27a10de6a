/-
  Make of package dist and of the reference.
-/
import Derived.Test.YtofanopnibbaeaaGreatDoorZ10
namespace Go.Proofs.YtofanopnibbaeaaGreatDoor
open Go.RowKit NV Go.Maps Go.Sort Go.Shelf
open Go.Lib (decDigits)

/-- What Make returns. -/
def MkP (L : List MI) (w : World) (e : Ending) (w' : World) : Prop :=
  (mkE L ≠ 0 → e = .returned (.tuple #[.slice none 0 0, .int .i64 ((mkE L : Nat) : Int)])) ∧
  (mkE L = 0 → ∃ S v, colO L = some S ∧ GoodQ (outQ S) ∧ sumD (outQ S) = 0 ∧ e = .returned (.tuple #[v, .int .i64 0]) ∧ w'.ownsRow w.heap.size 29 2 v (outQ S).length (cellsZ (tZ (outQ S)))) ∧ Below w.heap.size w w'
theorem mkE_bad {L : List MI} {k : Nat} (hk : k < L.length) (h0 : fstE (eN L) k = 0) (h1 : eN L k ≠ 0) : mkE L = eN L k := by
  unfold mkE
  rw [fstE_at h0 h1 hk, if_pos h1]
theorem mkE_col {L : List MI} (h0 : fstE (eN L) L.length = 0) : mkE L = match colO L with | none => 5 | some S => sumD (outQ S) := by
  unfold mkE
  rw [if_neg (by omega)]
  rfl

set_option maxHeartbeats 3200000 in
set_option maxRecDepth 100000 in
theorem Make_any {L : List MI} {N cap : Nat} {ao : Option Addr} {w : World} (hr : MR w ao N L) (hN : N ≤ 1000) (hl : ML2 L) (htab : Tab w) (hm : ML w) :
    Calls Tryz.prog 27 #[.slice ao N cap] w (MkP L w) := by
  have hlen := hr.len
  have HR := Lib.hid hr
  have HL := Lib.hid hl
  have HBAD := Lib.hid (show ∀ k, k < N → fstE (eN L) k = 0 → eN L k ≠ 0 → mkE L = eN L k from fun k hk h0 h1 => mkE_bad (by omega) h0 h1)
  have HCOL := Lib.hid (show fstE (eN L) N = 0 → OKM L ∧ (∀ k, k < L.length → 0 ≤ qZ L k) ∧ mkE L = (match colO L with | none => 5 | some S => sumD (outQ S)) from fun h0 => ⟨(eN_ok (by rw [hlen]; exact h0)).1, (eN_ok (by rw [hlen]; exact h0)).2, mkE_col (by rw [hlen]; exact h0)⟩)
  have HCN := Lib.hid (fun s (hs : s.size ≤ 1000000) W (hb : Below w.heap.size w W) => cnn_any s hs W (ml_keep hm (ml_pos hm) hb))
  have HTM := Lib.hid (fun W (hb : Below w.heap.size w W) => And.intro (htab.below hb) (ml_keep hm (ml_pos hm) hb))
  unfold MkP
  obtain ⟨c, hc⟩ : ∃ c, c = mkE L := ⟨_, rfl⟩
  rw [← hc]
  have HC := Lib.hid hc
  clear hr hl hc hlen htab hm
  go_enter Tryz.func27, Tryz.ntmps27
  go_wp2_with fail
  go_loopw [12] (fun iv wr => ∃ k : Nat, k ≤ N ∧ iv = .int .i64 (k : Int) ∧ Hid (fstE (eN L) k = 0) ∧ Below w.heap.size w wr) (fun iv _ => N - (intOf iv).toNat)
  case atStart => exact ⟨0, Nat.zero_le _, rfl, Lib.hid rfl, Below.refl _ _⟩
  case round =>
    obtain ⟨k, hk, rfl, H0, hb⟩ := hrel
    by_cases hlt : k < N
    · obtain ⟨a, x, rfl, hx, _, c0, c1⟩ := (HR.out.below hb).at hlt
      have HE := Lib.hid (show eN L k = eS x.2 from by unfold eN; rw [getZ_of hx])
      have HBK := Lib.hid (HBAD.out k hlt H0.out)
      have HNX := Lib.hid (fstE_step H0.out)
      have hsz := (HL.out x (List.mem_of_getElem? hx)).2
      have HB := Lib.hid (hb.alloc hb.size (.cells #[.string x.1, .string x.2] 29))
      have HS := Lib.hid (HCN.out x.2 hsz _ HB.out)
      obtain ⟨x1, x2⟩ := x
      clear hb hx HBAD HCOL HCN HTM HR HL hsz
      rw [HE.out] at HBK HNX
      by_cases h0 : eS x2 = 0
      · rw [h0] at HNX HS
        clear HBK h0 HE
        go_wp2_with fail
        refine HS.out.mono ?_
        rintro e w1 ⟨rfl, hb1⟩
        have HB2 := Lib.hid (HB.out.trans (hb1.mono HB.out.size))
        clear hb1 HS HB
        go_wp2_with fail
        go_roundw
        case rel => exact ⟨k + 1, by omega, by go_num, HNX, HB2.out⟩
        case measure => simp [intOf]; omega
      · have hz := errneZ h0
        have HCE := Lib.hid (show c = eS x2 ∧ c ≠ 0 from by rw [HC.out, HBK.out h0]; exact ⟨rfl, h0⟩)
        generalize eS x2 = d at *
        clear h0 HBK HNX HE
        go_wp2_with fail
        refine HS.out.mono ?_
        rintro e w1 ⟨rfl, hb1⟩
        have HB2 := Lib.hid (HB.out.trans (hb1.mono HB.out.size))
        clear hb1 HS HB
        go_wp2_with fail
        go_ret2
        exact ⟨fun _ => by rw [HCE.out.1]; rfl, fun h => absurd h HCE.out.2, HB2.out⟩
    · obtain rfl : k = N := by omega
      obtain ⟨h1, h2, h3⟩ := HCOL.out H0.out
      have HB := Lib.hid hb
      have HF := Lib.hid (collect_any (cap := cap) (HR.out.below hb) hN h1 HL.out (HTM.out _ hb).1 (HTM.out _ hb).2)
      have HGD := Lib.hid (fun S (h : colO L = some S) => good_out h2 h)
      rw [h3] at HC
      have hnl : ∀ S, colO L = some S → (outQ S).length ≤ k := fun S h => by
        have h4 := (ColI.run (Nat.le_refl _) h).len
        rw [HR.out.len] at h4
        exact Nat.le_trans (List.length_filter_le _ _) h4
      clear hb HBAD HCOL HR HL h1 h2 h3 H0 HCN
      cases hcol : colO L with
      | none =>
        rw [hcol] at HC HF
        obtain rfl : c = 5 := HC.out
        clear HC HGD hcol hnl HTM
        go_wp2_with fail
        refine HF.out.mono ?_
        rintro e w1 ⟨_, h2, hb⟩
        obtain rfl := h2 (by first | rfl | trivial)
        have HB2 := Lib.hid (HB.out.trans (hb.mono HB.out.size))
        clear hb h2 HF HB
        go_wp2_with fail
        go_ret2
        exact ⟨fun _ => rfl, fun h => (by omega), HB2.out⟩
      | some S =>
        rw [hcol] at HC HF
        have HCS := Lib.hid (show c = sumD (outQ S) from HC.out)
        have HCL := Lib.hid hcol
        have HG := Lib.hid (HGD.out S hcol)
        have hnS := hnl S hcol
        clear HC HGD hcol hnl
        go_wp2_with fail
        refine HF.out.mono ?_
        rintro e w1 ⟨h1, _, hb⟩
        obtain ⟨v, rfl, hrow⟩ := h1 S (by first | rfl | trivial)
        have HB2 := Lib.hid (HB.out.trans (hb.mono HB.out.size))
        obtain ⟨vo, vc, rfl, hmr⟩ := MR.own hrow (tZ_len _)
        have HROW := Lib.hid hrow
        have HCK := Lib.hid (checkSum_any (cap := vc) hmr (by omega) (okm_t HG.out.ok) (HTM.out _ HB2.out).1 (HTM.out _ HB2.out).2)
        have HCK2 := Lib.hid (show sumE (qZ (tZ (outQ S))) (outQ S).length = c from HCS.out.symm)
        rw [HCK2.out] at HCK
        clear h1 hb hrow hmr HF HCK2 HTM
        by_cases h0 : c = 0
        · obtain rfl := h0
          go_wp2_with fail
          refine HCK.out.mono ?_
          rintro e w2 ⟨rfl, hb⟩
          have HB3 := Lib.hid (HB2.out.trans (hb.mono HB2.out.size))
          have HRF := Lib.hid (rowM_base (rowM_below HROW.out hb) HB.out.size)
          clear hb HCK HB2 HROW
          go_wp2_with fail
          go_ret2
          exact ⟨⟨S, HCL.out, HG.out, HCS.out.symm, _, rfl, HRF.out⟩, HB3.out⟩
        · have hz := errneZ h0
          have H0 := Lib.hid h0
          clear h0
          go_wp2_with fail
          refine HCK.out.mono ?_
          rintro e w2 ⟨rfl, hb⟩
          have HB3 := Lib.hid (HB2.out.trans (hb.mono HB2.out.size))
          clear hb HCK HB2 HROW
          go_wp2_with fail
          go_ret2
          exact ⟨fun _ => rfl, fun h => absurd h H0.out, HB3.out⟩

set_option maxHeartbeats 3200000 in
set_option maxRecDepth 100000 in
theorem rMake_any {L : List MI} {N cap : Nat} {ao : Option Addr} {w : World} (hr : MR w ao N L) (hN : N ≤ 1000) (hl : ML2 L) :
    Calls Tryz.prog 102 #[.slice ao N cap] w (MkP L w) := by
  have hlen := hr.len
  have HR := Lib.hid hr
  have HL := Lib.hid hl
  have HBAD := Lib.hid (show ∀ k, k < N → fstE (eN L) k = 0 → eN L k ≠ 0 → mkE L = eN L k from fun k hk h0 h1 => mkE_bad (by omega) h0 h1)
  have HCOL := Lib.hid (show fstE (eN L) N = 0 → OKM L ∧ (∀ k, k < L.length → 0 ≤ qZ L k) ∧ mkE L = (match colO L with | none => 5 | some S => sumD (outQ S)) from fun h0 => ⟨(eN_ok (by rw [hlen]; exact h0)).1, (eN_ok (by rw [hlen]; exact h0)).2, mkE_col (by rw [hlen]; exact h0)⟩)
  have HSZ := Lib.hid (show fstE (eN L) N = 0 → ∀ S (z : QI), colO L = some S → z ∈ outQ S → z.1.size ≤ 1000000 ∧ (qstr z.2).size ≤ 1000000 from fun h0 S z hS hz => by
    have hi := ColI.run (Nat.le_refl _) hS
    have hz := (List.mem_filter.1 hz).1
    obtain ⟨y, hy, e⟩ := hi.key z hz
    exact ⟨by rw [e]; exact (hl y hy).1, Nat.le_trans (qstr_size (hi.ok z hz)) (by omega)⟩)
  unfold MkP
  obtain ⟨c, hc⟩ : ∃ c, c = mkE L := ⟨_, rfl⟩
  rw [← hc]
  have HC := Lib.hid hc
  clear hr hl hc hlen
  go_enter Tryz.func102, Tryz.ntmps102
  go_wp2_with fail
  go_loopw [4] (fun iv wr => ∃ k : Nat, k ≤ N ∧ iv = .int .i64 (k : Int) ∧ Hid (fstE (eN L) k = 0) ∧ Below w.heap.size w wr) (fun iv _ => N - (intOf iv).toNat)
  case atStart => exact ⟨0, Nat.zero_le _, rfl, Lib.hid rfl, Below.refl _ _⟩
  case round =>
    obtain ⟨k, hk, rfl, H0, hb⟩ := hrel
    by_cases hlt : k < N
    · obtain ⟨a, x, rfl, hx, _, c0, c1⟩ := (HR.out.below hb).at hlt
      have HE := Lib.hid (show eN L k = eS x.2 from by unfold eN; rw [getZ_of hx])
      have HBK := Lib.hid (HBAD.out k hlt H0.out)
      have HNX := Lib.hid (fstE_step H0.out)
      have hsz := (HL.out x (List.mem_of_getElem? hx)).2
      have HB := Lib.hid hb
      have HS := Lib.hid (rSign_any x.2 (by omega) wr)
      have HEI := Lib.hid (eS_is x.2)
      obtain ⟨x1, x2⟩ := x
      clear hb hx HBAD HCOL HR HL hsz
      rw [HE.out] at HBK HNX
      generalize eS x2 = d at *
      generalize sE x2 = sg at *
      clear HE
      by_cases h0 : rchk x2 = 0
      · rw [h0] at HS HEI
        simp only [ne_eq, not_true_eq_false, if_false] at HEI
        by_cases hs : sg < 0
        · rw [if_pos hs] at HEI
          obtain rfl := HEI.out
          have HCE := Lib.hid (show c = 2 from by rw [HC.out, HBK.out (by omega)])
          clear h0 HBK HNX HEI
          go_wp2_with fail
          refine HS.out.mono ?_
          rintro e w1 ⟨rfl, hb1⟩
          have HB2 := Lib.hid (HB.out.trans (hb1.mono HB.out.size))
          clear hb1 HS HB
          go_wp2_with fail
          go_ret2
          exact ⟨fun _ => by rw [HCE.out]; rfl, fun h => (by rw [HCE.out] at h; omega), HB2.out⟩
        · rw [if_neg hs] at HEI
          obtain rfl := HEI.out
          clear h0 HBK HEI
          go_wp2_with fail
          refine HS.out.mono ?_
          rintro e w1 ⟨rfl, hb1⟩
          have HB2 := Lib.hid (HB.out.trans (hb1.mono HB.out.size))
          clear hb1 HS HB
          go_wp2_with fail
          go_roundw
          case rel => exact ⟨k + 1, by omega, by go_num, HNX, HB2.out⟩
          case measure => simp [intOf]; omega
      · have hz := errneZ h0
        rw [if_pos h0] at HEI
        obtain rfl := HEI.out
        have HCE := Lib.hid (show c = rchk x2 ∧ c ≠ 0 from by rw [HC.out, HBK.out h0]; exact ⟨rfl, h0⟩)
        generalize rchk x2 = d at *
        clear h0 HBK HNX HEI
        go_wp2_with fail
        refine HS.out.mono ?_
        rintro e w1 ⟨rfl, hb1⟩
        have HB2 := Lib.hid (HB.out.trans (hb1.mono HB.out.size))
        clear hb1 HS HB
        go_wp2_with fail
        go_ret2
        exact ⟨fun _ => by rw [HCE.out.1]; rfl, fun h => absurd h HCE.out.2, HB2.out⟩
    · obtain rfl : k = N := by omega
      obtain ⟨h1, h2, h3⟩ := HCOL.out H0.out
      have HB := Lib.hid hb
      have HF := Lib.hid (rcollect_any (cap := cap) (HR.out.below hb) hN h1)
      have HSZ2 := Lib.hid (HSZ.out H0.out)
      have HGD := Lib.hid (fun S (h : colO L = some S) => good_out h2 h)
      rw [h3] at HC
      have hnl : ∀ S, colO L = some S → (outQ S).length ≤ k := fun S h => by
        have h4 := (ColI.run (Nat.le_refl _) h).len
        rw [HR.out.len] at h4
        exact Nat.le_trans (List.length_filter_le _ _) h4
      clear hb HBAD HCOL HR HL h1 h2 h3 H0
      cases hcol : colO L with
      | none =>
        rw [hcol] at HC HF
        obtain rfl : c = 5 := HC.out
        clear HC HGD hcol hnl
        go_wp2_with fail
        refine HF.out.mono ?_
        rintro e w1 ⟨_, h2, hb⟩
        obtain rfl := h2 (by first | rfl | trivial)
        have HB2 := Lib.hid (HB.out.trans (hb.mono HB.out.size))
        clear hb h2 HF HB
        go_wp2_with fail
        go_ret2
        exact ⟨fun _ => rfl, fun h => (by omega), HB2.out⟩
      | some S =>
        rw [hcol] at HC HF
        have HCS := Lib.hid (show c = sumD (outQ S) from HC.out)
        have HCL := Lib.hid hcol
        have HG := Lib.hid (HGD.out S hcol)
        have HSZ3 := Lib.hid (fun z => HSZ2.out S z hcol)
        have hnS := hnl S hcol
        clear HC HGD hcol hnl HSZ HSZ2
        go_wp2_with fail
        refine HF.out.mono ?_
        rintro e w1 ⟨h1, _, hb⟩
        obtain ⟨v, rfl, hrow⟩ := h1 S (by first | rfl | trivial)
        have HB2 := Lib.hid (HB.out.trans (hb.mono HB.out.size))
        obtain ⟨vo, vc, rfl, hmr⟩ := MR.own hrow (tZ_len _)
        have HROW := Lib.hid hrow
        have HCK := Lib.hid (rCheck_any (cap := vc) hmr (by omega) (fun y hy => by
          obtain ⟨z, hz, rfl⟩ := List.mem_map.1 hy
          exact HSZ3.out z hz))
        have HCK2 := Lib.hid (show chkZ (tZ (outQ S)) = c from (chk_good HG.out).trans HCS.out.symm)
        rw [HCK2.out] at HCK
        clear h1 hb hrow hmr HF HCK2
        by_cases h0 : c = 0
        · obtain rfl := h0
          go_wp2_with fail
          refine HCK.out.mono ?_
          rintro e w2 ⟨rfl, hb⟩
          have HB3 := Lib.hid (HB2.out.trans (hb.mono HB2.out.size))
          have HRF := Lib.hid (rowM_base (rowM_below HROW.out hb) HB.out.size)
          clear hb HCK HB2 HROW
          go_wp2_with fail
          go_ret2
          exact ⟨⟨S, HCL.out, HG.out, HCS.out.symm, _, rfl, HRF.out⟩, HB3.out⟩
        · have hz := errneZ h0
          have H0 := Lib.hid h0
          clear h0
          go_wp2_with fail
          refine HCK.out.mono ?_
          rintro e w2 ⟨rfl, hb⟩
          have HB3 := Lib.hid (HB2.out.trans (hb.mono HB2.out.size))
          clear hb HCK HB2 HROW
          go_wp2_with fail
          go_ret2
          exact ⟨fun _ => rfl, fun h => absurd h H0.out, HB3.out⟩

end Go.Proofs.YtofanopnibbaeaaGreatDoor
