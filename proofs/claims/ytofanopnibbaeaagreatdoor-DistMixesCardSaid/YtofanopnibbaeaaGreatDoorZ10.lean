/-
  Package dist: collect, Make; the reference's Make.
-/
import Derived.Test.YtofanopnibbaeaaGreatDoorZ9
namespace Go.Proofs.YtofanopnibbaeaaGreatDoor
open Go.RowKit NV Go.Maps Go.Sort Go.Shelf
open Go.Lib (decDigits)

theorem lookQ_mem {S : List QI} (hs : SrtQ S) {z : QI} (hz : z ∈ S) : lookQ (kQ z) S = z.2 := by
  induction S with
  | nil => simp at hz
  | cons u S ih =>
    unfold lookQ
    rcases List.mem_cons.1 hz with rfl | hz
    · rw [if_pos rfl]
    · have h3 := (List.pairwise_cons.1 hs).1 z hz
      rw [if_neg (fun e => List.lt_irrefl _ (by rw [e] at h3; exact h3))]
      exact ih (List.pairwise_cons.1 hs).2 hz
theorem hasZ_mem {k : List UInt8} {S : List MI} {z : MI} (hz : z ∈ S) (hk : kZ z = k) : hasZ k S = true := by
  unfold hasZ
  rw [List.any_eq_true]
  exact ⟨z, hz, decide_eq_true hk⟩
theorem tZ_len (S : List QI) : (tZ S).length = S.length := by unfold tZ; rw [List.length_map]
theorem tZ_at {S : List QI} {k : Nat} {x : QI} (h : S[k]? = some x) : (tZ S)[k]? = some (x.1, qstr x.2) := by unfold tZ; rw [List.getElem?_map, h]; rfl
theorem tZ_mem {S : List QI} {x : QI} (h : x ∈ S) : (x.1, qstr x.2) ∈ tZ S := List.mem_map_of_mem h
theorem look_ok {L : List MI} {k : Nat} {S : List QI} (h : ColI L k S) (key : List UInt8) : QOk (lookQ key S) := by
  rcases lookQ_in (k := key) (S := S) with h0 | ⟨x, hx, _, e⟩
  · rw [h0]; exact qok_0
  · rw [e]; exact h.ok x hx
/-- Keys in ascending order, numbers that are right and greater than 0. -/
structure GoodQ (D : List QI) : Prop where
  srt : SrtQ D
  ok : ∀ x, x ∈ D → QOk x.2
  pos : ∀ x, x ∈ D → 0 < x.2
/-- What is said of the sum. -/
def sumD (D : List QI) : Nat := sumE (qZ (tZ D)) D.length
theorem okm_t {D : List QI} (h : ∀ x, x ∈ D → QOk x.2) : OKM (tZ D) := fun y hy => by
  obtain ⟨x, hx, rfl⟩ := List.mem_map.1 hy
  exact qstr_chk (h x hx)
theorem eC_good {D : List QI} (h : GoodQ D) {k : Nat} (hk : k < D.length) : eC (tZ D) k = 0 := by
  have hx : D[k]? = some D[k] := List.getElem?_eq_getElem hk
  have hm : D[k] ∈ D := List.getElem_mem hk
  rcases eC_cases (tZ_at hx) with ⟨h1, _⟩ | ⟨_, h2, _⟩ | ⟨_, _, h3, h4, _⟩ | ⟨_, _, _, h5⟩
  · exact absurd (qstr_chk (h.ok _ hm)) h1
  · exfalso
    have hp := h.pos _ hm
    unfold sE at h2
    rw [if_pos (qstr_chk (h.ok _ hm)), ratS_q] at h2
    have : sgnQ D[k].2 = 1 := by
      have := cmpQ_gt hp
      exact this
    omega
  · exfalso
    have hk1 : k - 1 < D.length := by omega
    have hg := getZ_of (tZ_at (List.getElem?_eq_getElem hk1))
    rw [hg] at h4
    have h5 := List.pairwise_iff_getElem.1 h.srt (k - 1) k hk1 hk (by omega)
    exact List.not_le.2 h5 h4
  · exact h5
theorem chk_good {D : List QI} (h : GoodQ D) : chkZ (tZ D) = sumD D := by
  unfold chkZ sumD
  rw [tZ_len, fstE_zero (fun k hk => eC_good h hk), if_neg (by omega)]
/-- Nothing below 0 is collected of what is not below 0. -/
theorem ColI.nonneg {L : List MI} (hp : ∀ k, k < L.length → 0 ≤ qZ L k) : ∀ {k : Nat} {S : List QI}, k ≤ L.length → runO (colS L) [] k = some S → ∀ x, x ∈ S → 0 ≤ x.2
  | 0, S, _, h, x, hx => by obtain rfl : [] = S := Option.some.inj h; simp at hx
  | k + 1, S, hk, h, x, hx => by
    obtain ⟨s, hs⟩ := runO_some h k (by omega)
    have ih := ColI.nonneg hp (k := k) (S := s) (by omega) hs
    rw [runO_step hs] at h
    unfold colS at h
    cases ho : okQ (lookQ (kZ (getZ L k)) s + qZ L k) with
    | none => rw [ho] at h; cases h
    | some r =>
      rw [ho] at h
      obtain rfl : setQ (getZ L k).1 r s = S := by simpa using h
      obtain ⟨e, _⟩ := okQ_some ho
      rcases setQ_mem hx with rfl | hx
      · show 0 ≤ r
        rw [← e]
        have h0 := hp k (by omega)
        rcases lookQ_in (k := kZ (getZ L k)) (S := s) with h1 | ⟨y, hy, _, h1⟩
        · rw [h1]; grind
        · have := ih y hy
          rw [h1]; grind
      · exact ih x hx
theorem srt_filter {S : List QI} (h : SrtQ S) : SrtQ (outQ S) := List.Pairwise.sublist List.filter_sublist h
theorem good_out {L : List MI} (hp : ∀ k, k < L.length → 0 ≤ qZ L k) {S : List QI} (h : colO L = some S) : GoodQ (outQ S) := by
  have hi := ColI.run (Nat.le_refl _) h
  have hn := ColI.nonneg hp (Nat.le_refl _) h
  refine ⟨srt_filter hi.srt, fun x hx => hi.ok x (List.mem_filter.1 hx).1, fun x hx => ?_⟩
  have h1 := hn x (List.mem_filter.1 hx).1
  have h2 : x.2 ≠ 0 := of_decide_eq_true (List.mem_filter.1 hx).2
  rcases Rat.le_iff_lt_or_eq.1 h1 with h3 | h3
  · exact h3
  · exact absurd h3.symm h2
/-- What Make says of a list. -/
def mkE (L : List MI) : Nat :=
  if fstE (eN L) L.length ≠ 0 then fstE (eN L) L.length else
  match colO L with
  | none => 5
  | some S => sumD (outQ S)
theorem eN_ok {L : List MI} (h : fstE (eN L) L.length = 0) : OKM L ∧ ∀ k, k < L.length → 0 ≤ qZ L k := by
  have h1 := fstE_all h
  have h2 : ∀ k, k < L.length → rchk (getZ L k).2 = 0 ∧ 0 ≤ qZ L k := fun k hk => by
    have h3 := h1 k hk
    unfold eN eS at h3
    by_cases h4 : rchk (getZ L k).2 = 0
    · rw [if_neg (by omega)] at h3
      refine ⟨h4, ?_⟩
      by_cases h5 : sgnQ (ratS (getZ L k).2) < 0
      · rw [if_pos h5] at h3; omega
      · have h6 : cmpQ 0 (ratS (getZ L k).2) ≤ 0 := by rw [cmpQ_neg]; unfold sgnQ at h5; omega
        exact cmpQ_le.1 h6
    · rw [if_pos h4] at h3; exact absurd h3 h4
  refine ⟨fun x hx => ?_, fun k hk => (h2 k hk).2⟩
  obtain ⟨k, hk, rfl⟩ := List.mem_iff_getElem.1 hx
  have := (h2 k hk).1
  rw [getZ_of (List.getElem?_eq_getElem hk)] at this
  exact this

set_option maxHeartbeats 6400000 in
set_option maxRecDepth 100000 in
theorem collect_any {L : List MI} {N cap : Nat} {ao : Option Addr} {w : World} (hr : MR w ao N L) (hN : N ≤ 1000) (hok : OKM L) (hl : ML2 L) (htab : Tab w) (hm : ML w) :
    Calls Tryz.prog 99 #[.slice ao N cap] w fun e w' => (∀ S, colO L = some S → ∃ v, e = .returned (.tuple #[v, .int .i64 0]) ∧ w'.ownsRow w.heap.size 29 2 v (outQ S).length (cellsZ (tZ (outQ S)))) ∧ (colO L = none → e = .returned (.tuple #[.slice none 0 0, .int .i64 5])) ∧ Below w.heap.size w w' := by
  obtain ⟨i0, hi, hz0, hz1, hz2⟩ := info_parts infoZ
  have hmm := @run_makeMap Tryz.prog
  have hlen := hr.len
  have e1 : ∀ args w, (callFunc 177 args).run Tryz.prog w = .ok (.enter 177 args) w := enters_of Tryz.func177 (by kernel_rfl) rfl
  have HB := Lib.hid ((Below.refl w.heap.size w).alloc (Nat.le_refl _) (.map #[] 0))
  have hkey : ∀ (k : Nat) (x : MI), L[k]? = some x → x.1.size ≤ 1000000 := fun k x hx => (hl x (List.mem_of_getElem? hx)).1
  have HFOLD := Lib.hid (fold_map (g := 177) (lb := #[]) (cap := cap) e1 (f := colS L) (s0 := []) (v0 := .map (some w.heap.size)) (fun j => j = w.heap.size) (fun k S v W => v = .map (some w.heap.size) ∧ MapZ W w.heap.size k (tZ S)) (hr.below HB.out) (by omega)
    (fun a ha h0 e => by
      obtain ⟨a', e1, h2, _⟩ := hr.form h0
      rw [ha] at e1; cases e1; omega)
    ⟨rfl, MapZ.made w⟩ (fun k s v W W' h hb => ⟨h.1, h.2.below hb⟩)
    (fun k S S' x v W hk hx hrun hs hc hv => by
      obtain ⟨rfl, hmz⟩ := hv
      have hbw : Below w.heap.size w W := HB.out.trans (hc.to_below HB.out.size (fun j hj => by omega))
      have hci := ColI.run (by omega) hrun
      obtain ⟨hx1, hx2⟩ := hok.at hx
      have hla := look_ok hci (kZ x)
      unfold colS at hs
      rw [getZ_of hx] at hs
      cases ho : okQ (lookQ (kZ x) S + qZ L k) with
      | none => rw [ho] at hs; cases hs
      | some r =>
        rw [ho] at hs
        obtain rfl : setQ x.1 r S = S' := by simpa using hs
        have h := mplus_any (k := x.1) (p := x.2) (T := oQ (some r)) hmz (srt_t.2 hci.srt) (by omega) (hkey k x hx) (Nat.le_trans (qstr_size ((okQ_some ho).1 ▸ (okQ_some ho).2)) (by omega)) (fun W2 hb2 => by
          have h2 := Add_oQ (lookQ (kZ x) S) (qZ L k) hla hx2 W2 (htab.below (hbw.trans (hb2.mono hbw.size))) (ml_keep hm (ml_pos hm) (hbw.trans (hb2.mono hbw.size)))
          rw [ho, ← hx1, ← val_look] at h2
          exact h2)
        exact h.mono fun e w' ⟨h1, h2, h3⟩ => ⟨_, h1, ⟨rfl, by rw [show (oQ (some r)).1 = qstr r from rfl, set_t] at h2; exact h2⟩, h3⟩)
    (fun k S x v W hk hx hrun hs hc hv => by
      obtain ⟨rfl, hmz⟩ := hv
      have hbw : Below w.heap.size w W := HB.out.trans (hc.to_below HB.out.size (fun j hj => by omega))
      have hci := ColI.run (by omega) hrun
      obtain ⟨hx1, hx2⟩ := hok.at hx
      have hla := look_ok hci (kZ x)
      unfold colS at hs
      rw [getZ_of hx] at hs
      cases ho : okQ (lookQ (kZ x) S + qZ L k) with
      | some r => rw [ho] at hs; cases hs
      | none =>
        have h := mplus_any (k := x.1) (p := x.2) (T := oQ none) hmz (srt_t.2 hci.srt) (by omega) (hkey k x hx) (Nat.zero_le _) (fun W2 hb2 => by
          have h2 := Add_oQ (lookQ (kZ x) S) (qZ L k) hla hx2 W2 (htab.below (hbw.trans (hb2.mono hbw.size))) (ml_keep hm (ml_pos hm) (hbw.trans (hb2.mono hbw.size)))
          rw [ho, ← hx1, ← val_look] at h2
          exact h2)
        exact h.mono fun e w' ⟨h1, h2, h3⟩ => ⟨_, h1, h3⟩))
  obtain ⟨R, hR⟩ : ∃ R, R = colO L := ⟨_, rfl⟩
  rw [← hR]
  have hR2 : runO (colS L) [] N = R := by rw [hR]; unfold colO; rw [hlen]
  rw [hR2] at HFOLD
  cases R with
  | none =>
    clear hr hok hl htab hm hkey hR hR2 hlen e1
    go_enter Tryz.func99, Tryz.ntmps99
    go_wp2_with fail
    refine HFOLD.out.mono ?_
    rintro e w1 ⟨_, h2, hc⟩
    obtain rfl := h2 (by first | rfl | trivial)
    have HBF := Lib.hid (HB.out.trans (hc.to_below HB.out.size (fun j hj => by omega)))
    clear hc h2 HFOLD HB
    go_wp2_with fail
    go_ret2
    exact ⟨fun S h => (by cases h), fun _ => rfl, HBF.out⟩
  | some S =>
    have HCI := Lib.hid (ColI.run (Nat.le_refl _) hR.symm)
    have HKEY := Lib.hid (show ∀ x, x ∈ S → x.1.size ≤ 1000000 from fun x hx => by
      obtain ⟨y, hy, e⟩ := HCI.out.key x hx
      rw [e]; exact (hl y hy).1)
    have hSN : S.length ≤ N := by rw [← hlen]; exact HCI.out.len
    clear hr hok hl htab hm hkey hR hR2 hlen e1
    go_enter Tryz.func99, Tryz.ntmps99
    go_wp2_with fail
    refine HFOLD.out.mono ?_
    rintro e w1 ⟨h1, _, hc⟩
    obtain ⟨v, rfl, rfl, hmz⟩ := h1 S rfl
    have HB1 := Lib.hid (HB.out.trans (hc.to_below HB.out.size (fun j hj => by omega)))
    have HMZ := Lib.hid hmz
    have HK := Lib.hid (callsIn_wide.1 (Tryz.maps_Keys_179 (some w.heap.size) w1))
    have hsz : Maps.size (mapZ (tZ S)) = S.length := by rw [mapZ_size, tZ_len]
    have HS := Lib.hid (callsIn_wide.1 (Tryz.slices_Sorted_keys_178_179 (H := Unit) w.heap.size N (mapZ (tZ S)) _ w1 hmz (by rw [hsz]; unfold maxLen; omega) (by rw [hsz]; omega)))
    have HB2 := Lib.hid ((Below.refl w1.heap.size w1).alloc (Nat.le_refl _) (.cells #[.map (some w.heap.size)] 97))
    have HKS := Lib.hid (show ∀ ss : List (List UInt8), ss.Perm (strKeys (mapZ (tZ S))) → ss.mergeSort Go.leB = S.map kQ ∧ ss.length = S.length from fun ss hp => by
      rw [mapZ_keys] at hp
      have e2 : (tZ S).map kZ = S.map kQ := by unfold tZ; rw [List.map_map]; rfl
      rw [e2] at hp
      refine ⟨?_, by rw [hp.length_eq, List.length_map]⟩
      have h3 := srt_sort (srt_t.2 HCI.out.srt)
      rw [e2] at h3
      rw [← h3]
      exact mergeSort_of_perm hp)
    clear h1 hc hmz hsz HFOLD HB
    go_wp2_with fail
    refine HK.out.mono ?_
    rintro e w2 ⟨rfl, rfl⟩
    clear HK
    go_wp2_with fail
    refine HS.out.mono ?_
    rintro e w2 ⟨v, ss, rfl, hp, hrow, _, hb⟩
    obtain ⟨hk1, hk2⟩ := HKS.out ss hp
    rw [hk1] at hrow
    rw [hk2] at hrow
    have HB3 := Lib.hid (HB2.out.trans (hb.mono HB2.out.size))
    obtain ⟨ko, kc, rfl, hform⟩ := rowM_shape hrow
    have HROW := Lib.hid (And.intro hrow hform)
    have HLK := Lib.hid (show ∀ W, Below w2.heap.size w2 W → ∀ (k : Nat) (x : QI), S[k]? = some x → (Instr.lookup 97 (.map (some w.heap.size)) (.string x.1) false).run Tryz.prog W = .ok (.string (qstr x.2)) W from fun W hW k x hx => by
      have h1 := HMZ.out.below (HB3.out.trans (hW.mono HB3.out.size))
      have hmem := List.mem_of_getElem? hx
      have h2 := lookZ h1 (k := x.1) (Nat.le_trans (HKEY.out x hmem) (by unfold maxLen; omega)) (hasZ_mem (tZ_mem hmem) rfl)
      rw [val_look, show lookQ x.1.data.toList S = x.2 from lookQ_mem HCI.out.srt hmem] at h2
      exact h2)
    have HBT := Lib.hid (HB1.out.trans (HB3.out.mono HB1.out.size))
    clear hp hk1 hk2 hb hrow hform HS HKS HB2 HB3 HB1 HMZ HKEY HCI
    obtain ⟨M, hM⟩ : ∃ M, S.length = M := ⟨_, rfl⟩
    rw [hM] at HROW hSN ⊢
    have HM := Lib.hid hM
    have HTK := Lib.hid (fun j (x : QI) (hx : S[j]? = some x) => outQ_take S j x hx)
    have HLT := Lib.hid (fun j => show (outQ (S.take j)).length ≤ j from Nat.le_trans (List.length_filter_le _ _) (by rw [List.length_take]; exact Nat.min_le_left _ _))
    clear hM
    go_wp2_with fail
    go_loopw [6, 23] (fun dv iv wr => ∃ k : Nat, k ≤ M ∧ iv = .int .i64 (k : Int) ∧ Hid (wr.ownsRow w2.heap.size 29 2 dv (outQ (S.take k)).length (cellsZ (tZ (outQ (S.take k))))) ∧ Below w2.heap.size w2 wr) (fun _ iv _ => M - (intOf iv).toNat)
    case atStart => exact ⟨0, Nat.zero_le _, rfl, Lib.hid (World.ownsRow_nil _ _ _ _), Below.refl _ _⟩
    case round =>
      obtain ⟨k, hk, rfl, HRW, hb⟩ := hrel
      by_cases hlt : k < M
      · obtain ⟨g, rfl, _, hglt⟩ := HROW.out.2 (by omega)
        obtain ⟨x, hx⟩ : ∃ x, S[k]? = some x := ⟨S[k]'(by rw [HM.out]; exact hlt), List.getElem?_eq_getElem _⟩
        have hkey : encStr (kQ x) = .string x.1 := by unfold encStr; rw [ba_extZ (a := ⟨(kQ x).toArray⟩) (b := x.1) (by simp)]
        have c0 : wr.cell? ⟨g, k, none⟩ = some (.string x.1) := by
          have := HROW.out.1.cells (g := g) rfl k (.string x.1) (by rw [List.getElem?_map, List.getElem?_map, hx]; show some (encStr (kQ x)) = _; rw [hkey])
          rw [Addr.add_lit, Nat.zero_add] at this
          exact (hb.cell (p := ⟨g, k, none⟩) hglt).trans this
        have hlk := HLK.out wr hb k x hx
        have htk := HTK.out k x hx
        have hz := isZeroZ x.2
        obtain ⟨x1, q⟩ := x
        have HBR := Lib.hid hb
        obtain ⟨xo, xc, rfl, _⟩ := rowM_shape HRW.out
        clear hb hx hkey
        by_cases hq : q = 0
        · rw [decide_eq_true hq] at hz
          rw [if_pos hq, List.append_nil] at htk
          have HTJ := Lib.hid htk
          clear htk hq
          generalize qstr q = sq at *
          go_wp2_with fail
          go_roundw
          case rel => exact ⟨k + 1, by omega, by go_num, Lib.hid (by rw [HTJ.out]; exact HRW.out), HBR.out⟩
          case measure => simp [intOf]; omega
        · rw [decide_eq_false hq] at hz
          rw [if_neg hq] at htk
          have HTJ := Lib.hid (show cellsZ (tZ (outQ (S.take (k + 1)))) = cellsZ (tZ (outQ (S.take k))) ++ [.string x1, .string (qstr q)] ∧ (outQ (S.take (k + 1))).length = (outQ (S.take k)).length + 1 from by
            rw [htk]
            constructor
            · unfold tZ; rw [List.map_append, cellsZ_app]; rfl
            · rw [List.length_append]; rfl)
          have HLJ := HLT.out k
          clear htk hq
          generalize qstr q = sq at *
          generalize (outQ (S.take k)).length = n at *
          go_wp2_with (at_builtin; refine wpList_append_own _ rfl _ _ 24 rfl w2.heap.size 29 i0 (.agg #[.string ⟨#[]⟩, .string ⟨#[]⟩]) 2 32 Tryz.underlying24 hi hz0 hz1 hz2 rfl (by decide) _ _ _ rfl (HRW.out.alloc _) ⟨wr.heap.size, 0, none⟩ 1 1 [.string x1, .string sq] rfl rfl (World.news_of_block (heap_alloc_new _ _)) (fun u hu => by simp at hu; rcases hu with rfl | rfl <;> rfl) ?c3 ?c4 ?c5 ?_)
          case c3 => unfold maxLen; omega
          case c4 => omega
          case c5 => have := HBR.out.size; simp; omega
          intro v' w6 hown' hgrow _
          have hlt5 := HRW.out.lt
          have HF := Lib.hid (And.intro hown' ((HBR.out.alloc HBR.out.size _).grown hgrow (by have := HBR.out.size; simp; omega) (fun q hq => (hlt5 q hq).1)))
          clear hown' hgrow hlt5 hlk c0
          go_wp2_with fail
          go_roundw
          case rel => exact ⟨k + 1, by omega, by go_num, Lib.hid (by rw [HTJ.out.1, HTJ.out.2]; exact HF.out.1), HF.out.2⟩
          case measure => simp [intOf]; omega
      · obtain rfl : k = M := by omega
        have HTA := Lib.hid (show S.take k = S from List.take_of_length_le (by rw [HM.out]; exact Nat.le_refl _))
        have HBR := Lib.hid hb
        clear hb HTK HLT HLK
        go_wp2_with fail
        go_ret2
        exact ⟨fun S2 h => ⟨_, rfl, (by cases h; have h2 := HRW.out; rw [HTA.out] at h2; exact rowM_base h2 HBT.out.size)⟩, fun h => (by cases h), HBT.out.trans (HBR.out.mono HBT.out.size)⟩

end Go.Proofs.YtofanopnibbaeaaGreatDoor
