/-
  The reference of layer 8: find, At, Check.
-/
import Derived.Test.YtofanopnibbaeaaGreatDoorZ6
namespace Go.Proofs.YtofanopnibbaeaaGreatDoor
open Go.RowKit NV Go.Maps Go.Sort Go.Shelf
open Go.Lib (decDigits)

theorem rAdd_oQ (p q : Rat) (hp : QOk p) (hq : QOk q) (w : World) :
    Calls Tryz.prog 104 #[.string (qstr p), .string (qstr q)] w (PR (oQ (okQ (p + q))) w) := by
  have h := rAdd_q w hp hq
  unfold RQ at h
  rw [wQ_oQ] at h
  exact h
theorem valZ_drop {key : List UInt8} {L : List MI} : ∀ {k : Nat}, k ≤ L.length → (∀ j x, j < k → L[j]? = some x → kZ x ≠ key) → valZ key L = valZ key (L.drop k) ∧ hasZ key L = hasZ key (L.drop k)
  | 0, _, _ => ⟨rfl, rfl⟩
  | k + 1, hk, h => by
    obtain ⟨h1, h2⟩ := valZ_drop (k := k) (by omega) (fun j x hj => h j x (by omega))
    have hx : L[k]? = some (L[k]'(by omega)) := List.getElem?_eq_getElem _
    have hne := h k _ (by omega) hx
    rw [List.drop_eq_getElem_cons (by omega)] at h1 h2
    constructor
    · rw [h1]; show (if _ then _ else _) = _; rw [if_neg hne]
    · rw [h2]; unfold hasZ; rw [List.any_cons, decide_eq_false hne, Bool.false_or]

set_option maxHeartbeats 3200000 in
set_option maxRecDepth 100000 in
theorem rfind_any {L : List MI} {N cap : Nat} {ao : Option Addr} {key : ByteArray} {w : World} (hr : MR w ao N L) (hN : N ≤ 1000000) :
    Calls Tryz.prog 240 #[.slice ao N cap, .string key] w fun e w' => e = .returned (.tuple #[.string (valZ key.data.toList L), .bool (hasZ key.data.toList L)]) ∧ w = w' := by
  have HR := Lib.hid hr
  have HV := Lib.hid (fun (k : Nat) (h : k ≤ N) h2 => valZ_drop (key := key.data.toList) (L := L) (k := k) (by rw [hr.len]; exact h) h2)
  have HL := Lib.hid hr.len
  obtain ⟨vv, hvv⟩ : ∃ vv, vv = valZ key.data.toList L := ⟨_, rfl⟩
  obtain ⟨hh, hhh⟩ : ∃ hh, hh = hasZ key.data.toList L := ⟨_, rfl⟩
  rw [← hvv, ← hhh]
  have HE := Lib.hid (And.intro hvv hhh)
  clear hr hvv hhh
  go_enter Tryz.func240, Tryz.ntmps240
  go_wp2_with fail
  go_loop [6] (fun iv => ∃ k : Nat, k ≤ N ∧ iv = .int .i64 (k : Int) ∧ Hid (∀ j x, j < k → L[j]? = some x → kZ x ≠ key.data.toList)) (fun iv => N - (intOf iv).toNat)
  case atStart => exact ⟨0, Nat.zero_le _, rfl, Lib.hid (fun j x hj => absurd hj (Nat.not_lt_zero _))⟩
  case round =>
    obtain ⟨k, hk, rfl, HNO⟩ := hrel
    by_cases hlt : k < N
    · obtain ⟨a, x, rfl, hx, _, c0, c1⟩ := HR.out.at hlt
      have HX := Lib.hid hx
      have HD := Lib.hid (HV.out k hk HNO.out)
      obtain ⟨x1, x2⟩ := x
      by_cases hq : x1.data.toList = key.data.toList
      · have he : (x1.toList == key.toList) = true := (eq_b x1 key).trans (decide_eq_true hq)
        have HF := Lib.hid (show vv = x2 ∧ hh = true by
          have hlt2 : k < L.length := by rw [HL.out]; exact hlt
          obtain ⟨h1, h2⟩ := HD.out
          have hg : L[k] = (x1, x2) := Option.some.inj ((List.getElem?_eq_getElem hlt2).symm.trans HX.out)
          rw [List.drop_eq_getElem_cons hlt2, hg] at h1 h2
          refine ⟨HE.out.1.trans (h1.trans ?_), HE.out.2.trans (h2.trans ?_)⟩
          · show (if _ then _ else _) = _; rw [if_pos hq]
          · unfold hasZ; rw [List.any_cons, decide_eq_true hq, Bool.true_or])
        clear hx HX HD hq HNO HR HV HE
        go_wp2_with fail
        go_ret2
        exact ⟨by rw [HF.out.1, HF.out.2]; rfl, rfl⟩
      · have he : (x1.toList == key.toList) = false := (eq_b x1 key).trans (decide_eq_false hq)
        have HQ := Lib.hid hq
        clear hx hq
        go_wp2_with fail
        go_round
        case rel => exact ⟨k + 1, by omega, by go_num, Lib.hid (fun j y hj hy => by
          rcases Nat.lt_or_ge j k with h | h
          · exact HNO.out j y h hy
          · obtain rfl : k = j := by omega
            rw [HX.out] at hy
            obtain rfl := Option.some.inj hy
            exact HQ.out)⟩
        case measure => simp [intOf]; omega
    · obtain rfl : k = N := by omega
      have HF := Lib.hid (show vv = ⟨#[48]⟩ ∧ hh = false by
        obtain ⟨h1, h2⟩ := HV.out k hk HNO.out
        rw [List.drop_of_length_le (by rw [HL.out]; exact Nat.le_refl _)] at h1 h2
        exact ⟨HE.out.1.trans h1, HE.out.2.trans h2⟩)
      clear HR HV HE HNO
      go_wp2_with fail
      go_ret2
      exact ⟨by rw [HF.out.1, HF.out.2]; rfl, rfl⟩

set_option maxHeartbeats 1600000 in
set_option maxRecDepth 100000 in
theorem rAt_any {L : List MI} {N cap : Nat} {ao : Option Addr} {key : ByteArray} {w : World} (hr : MR w ao N L) (hN : N ≤ 1000000) :
    Calls Tryz.prog 203 #[.slice ao N cap, .string key] w fun e w' => e = .returned (.string (valZ key.data.toList L)) ∧ w = w' := by
  have HF := Lib.hid (rfind_any (cap := cap) (key := key) hr hN)
  generalize valZ key.data.toList L = v at *
  generalize hasZ key.data.toList L = h at *
  clear hr hN
  go_enter Tryz.func203, Tryz.ntmps203
  go_wp2_with fail
  refine HF.out.mono ?_
  rintro e w1 ⟨rfl, rfl⟩
  clear HF
  go_wp2_with fail
  go_ret
  exact ⟨rfl, rfl⟩

set_option maxHeartbeats 6400000 in
set_option maxRecDepth 100000 in
theorem rCheck_any {L : List MI} {N cap : Nat} {ao : Option Addr} {w : World} (hr : MR w ao N L) (hN : N ≤ 1000000) (hl : ML2 L) :
    Calls Tryz.prog 34 #[.slice ao N cap] w fun e w' => e = .returned (.int .i64 ((chkZ L : Nat) : Int)) ∧ Below w.heap.size w w' := by
  have HR := Lib.hid hr
  have hlen := hr.len
  have HBAD := Lib.hid (show ∀ k, k < N → fstE (eC L) k = 0 → eC L k ≠ 0 → chkZ L = eC L k from fun k hk h0 h1 => by
    have h := fstE_at h0 h1 hk
    unfold chkZ
    rw [hlen, h, if_pos h1])
  have HSUM := Lib.hid (show fstE (eC L) N = 0 → chkZ L = sumE (qZ L) N from fun h => by unfold chkZ; rw [hlen, h, if_neg (by omega)])
  have HOK := Lib.hid (show fstE (eC L) N = 0 → OKM L from fun h => okm_of (by rw [hlen]; exact h))
  have HL := Lib.hid hl
  generalize chkZ L = c at *
  clear hr hl
  go_enter Tryz.func34, Tryz.ntmps34
  go_wp2_with fail
  go_loopw [3] (fun iv wr => ∃ k : Nat, k ≤ N ∧ iv = .int .i64 (k : Int) ∧ Hid (fstE (eC L) k = 0) ∧ Below w.heap.size w wr) (fun iv _ => N - (intOf iv).toNat)
  case atStart => exact ⟨0, Nat.zero_le _, rfl, Lib.hid rfl, Below.refl _ _⟩
  case round =>
    obtain ⟨k, hk, rfl, H0, hb⟩ := hrel
    by_cases hlt : k < N
    · have hmr := HR.out.below hb
      obtain ⟨a, x, rfl, hx, _, c0, c1⟩ := hmr.at hlt
      obtain ⟨a', ha', hal, hcell⟩ := hmr.form (by omega)
      obtain rfl : a = a' := Option.some.inj ha'
      have HC := Lib.hid (show ∀ W, Below wr.heap.size wr W → ∀ j x, L[j]? = some x → W.cell? (a.add (j * 2)) = some (.string x.1) from fun W hw j x hx => (hw.cell (p := a.add (j * 2)) (by rw [addZ_block]; exact hal)).trans (hcell j x hx).1)
      have HX := Lib.hid (And.intro (HL.out x (List.mem_of_getElem? hx)) (And.intro (eC_cases hx) hx))
      have HB := Lib.hid hb
      have HS := Lib.hid (rSign_any x.2 (Nat.le_trans HX.out.1.2 (by omega)) wr)
      have HBK := Lib.hid (HBAD.out k hlt H0.out)
      have HG := Lib.hid (show k ≠ 0 → L[k - 1]? = some (getZ L (k - 1)) from fun h => by
        have h1 : k - 1 < L.length := by omega
        rw [List.getElem?_eq_getElem h1, getZ_of (List.getElem?_eq_getElem h1)])
      have HNX := Lib.hid (fstE_step H0.out)
      clear hb hx hmr HBAD HSUM HOK HL ha' hcell HR hal
      obtain ⟨x1, x2⟩ := x
      rcases HX.out.2.1 with ⟨h1, h2⟩ | ⟨h1, h2, h3⟩ | ⟨h1, h2, h3, h4, h5⟩ | ⟨h1, h2, h3, h4⟩
      · have hz := errneZ h1
        have HE := Lib.hid (show c = rchk x2 from (HBK.out (by rw [h2]; exact h1)).trans h2)
        generalize sE x2 = sg at *
        generalize rchk x2 = d at *
        clear h1 h2 HX HBK HNX HG HC
        go_wp2_with fail
        refine HS.out.mono ?_
        rintro e w1 ⟨rfl, hb1⟩
        have HB2 := Lib.hid (HB.out.trans (hb1.mono HB.out.size))
        clear hb1 HS HB
        go_wp2_with fail
        go_ret
        exact ⟨by rw [HE.out]; rfl, HB2.out⟩
      · have HE := Lib.hid (show c = 2 from (HBK.out (by rw [h3]; omega)).trans h3)
        rw [h1] at HS
        generalize sE x2 = sg at *
        clear h1 h3 HX HBK HNX HG HC
        go_wp2_with fail
        refine HS.out.mono ?_
        rintro e w1 ⟨rfl, hb1⟩
        have HB2 := Lib.hid (HB.out.trans (hb1.mono HB.out.size))
        clear hb1 HS HB
        go_wp2_with fail
        go_ret
        exact ⟨by rw [HE.out]; rfl, HB2.out⟩
      · have HE := Lib.hid (show c = 9 from (HBK.out (by rw [h5]; omega)).trans h5)
        rw [h1] at HS
        obtain ⟨j, rfl⟩ : ∃ j, k = j + 1 := ⟨k - 1, by omega⟩
        have hg := HG.out h3
        rw [Nat.add_sub_cancel] at hg h4
        generalize getZ L j = y at *
        obtain ⟨y1, y2⟩ := y
        have HCY := Lib.hid (fun W hw => HC.out W hw j _ hg)
        have HCX := Lib.hid (fun W hw => HC.out W hw (j + 1) _ HX.out.2.2)
        have hk0 : decide (0 < (((j + 1 : Nat)) : Int)) = true := decide_eq_true (by omega)
        have hj : (((j + 1 : Nat)) : Int) - 1 = (j : Int) := by omega
        generalize sE x2 = sg at *
        clear h1 h3 h5 HX HBK HNX HG HC hg
        have hl1 : Op.bytesLess y1.toList x1.toList = false := (lt_b y1 x1).trans (decide_eq_false fun h => List.lt_irrefl _ (List.lt_of_le_of_lt h4 h))
        clear h4
        go_wp2_with fail
        refine HS.out.mono ?_
        rintro e w1 ⟨rfl, hb1⟩
        have e0 := HCX.out w1 hb1
        have d0 := HCY.out w1 hb1
        have HB2 := Lib.hid (HB.out.trans (hb1.mono HB.out.size))
        clear hb1 HS HB HCY HCX
        go_wp2_with fail
        go_quiet (fail)
        go_wp2_with fail
        go_ret
        exact ⟨by rw [HE.out]; rfl, below_drewZ HB2.out _⟩
      · rw [h1] at HS
        rw [h4] at HNX
        generalize sE x2 = sg at *
        by_cases hk1 : k = 0
        · have hk0 : decide (0 < k) = false := decide_eq_false (by omega)
          clear h1 h3 h4 HX HBK HG HC hk1
          go_wp2_with fail
          refine HS.out.mono ?_
          rintro e w1 ⟨rfl, hb1⟩
          have HB2 := Lib.hid (HB.out.trans (hb1.mono HB.out.size))
          clear hb1 HS HB
          go_wp2_with fail
          go_quiet (fail)
          go_wp2_with fail
          go_roundw
          case rel => exact ⟨k + 1, by omega, by go_num, HNX, below_drewZ HB2.out _⟩
          case measure => simp [intOf]; omega
        · obtain ⟨j, rfl⟩ : ∃ j, k = j + 1 := ⟨k - 1, by omega⟩
          have h6 := h3.resolve_left hk1
          have hg := HG.out hk1
          rw [Nat.add_sub_cancel] at hg h6
          generalize getZ L j = y at *
          obtain ⟨y1, y2⟩ := y
          have HCY := Lib.hid (fun W hw => HC.out W hw j _ hg)
          have HCX := Lib.hid (fun W hw => HC.out W hw (j + 1) _ HX.out.2.2)
          have hk0 : decide (0 < (((j + 1 : Nat)) : Int)) = true := decide_eq_true (by omega)
          have hl1 : Op.bytesLess y1.toList x1.toList = true := (lt_b y1 x1).trans (decide_eq_true h6)
          have hj : (((j + 1 : Nat)) : Int) - 1 = (j : Int) := by omega
          clear h1 h3 h4 h6 HX HBK HG HC hg
          go_wp2_with fail
          refine HS.out.mono ?_
          rintro e w1 ⟨rfl, hb1⟩
          have e0 := HCX.out w1 hb1
          have d0 := HCY.out w1 hb1
          have HB2 := Lib.hid (HB.out.trans (hb1.mono HB.out.size))
          clear hb1 HS HB HCY HCX
          go_wp2_with fail
          go_quiet (fail)
          go_wp2_with fail
          go_roundw
          case rel => exact ⟨j + 1 + 1, by omega, by go_num, HNX, below_drewZ HB2.out _⟩
          case measure => simp [intOf]; omega
    · obtain rfl : k = N := by omega
      have HOKM := Lib.hid (HOK.out H0.out)
      have HE := Lib.hid (HSUM.out H0.out)
      have HB := Lib.hid hb
      have HRB := Lib.hid (HR.out.below hb)
      clear hb HR HBAD HOK HSUM HL H0 hk hlt
      obtain ⟨wo, hwo⟩ : ∃ wo, wo = wr := ⟨_, rfl⟩
      rw [← hwo] at HB HRB ⊢
      have HT5 := Lib.hid (show ∀ j s, j < k → runO (addS (qZ L)) 0 j = some s → addS (qZ L) j s = none → c = 5 from fun j s hj h1 h2 => by rw [HE.out]; unfold sumE; rw [runO_fail h1 h2 hj])
      have HT1 := Lib.hid (show ∀ s, runO (addS (qZ L)) 0 k = some s → c = if s = 1 then 0 else 15 from fun s h => by rw [HE.out]; unfold sumE; rw [h])
      have h0 := q0Z
      clear HE hwo
      go_wp2_with fail
      go_loopw [6, 7, 8] (fun sv ev iv wq => ∃ (j : Nat) (s : Rat), j ≤ k ∧ sv = .string (qstr s) ∧ ev = .int .i64 0 ∧ iv = .int .i64 (j : Int) ∧ Hid (runO (addS (qZ L)) 0 j = some s) ∧ Below wo.heap.size wo wq) (fun _ _ iv _ => k - (intOf iv).toNat)
      case atStart => exact ⟨0, 0, Nat.zero_le _, by rw [q0Z], rfl, rfl, Lib.hid rfl, Below.refl _ _⟩
      case round =>
        obtain ⟨j, s, hj, rfl, rfl, rfl, HRUN, hb⟩ := hrel
        by_cases hlt : j < k
        · obtain ⟨a, x, rfl, hx, _, c0, c1⟩ := (HRB.out.below hb).at hlt
          obtain ⟨hx1, hx2⟩ := HOKM.out.at hx
          have HA := Lib.hid (rAdd_oQ s (qZ L j) (run_ok HRUN.out) hx2 wr)
          rw [← hx1] at HA
          have HB1 := Lib.hid hb
          have H5 := Lib.hid (HT5.out j s hlt HRUN.out)
          have HST := Lib.hid (runO_step HRUN.out)
          obtain ⟨x1, x2⟩ := x
          generalize qstr s = sq at *
          clear hb hx hx1 hx2 HRB HOKM HT5 HT1
          cases hf : okQ (s + qZ L j) with
          | none =>
            have HC := Lib.hid (H5.out hf)
            rw [hf] at HA
            clear H5 HST hf
            go_wp2_with fail
            refine HA.out.mono ?_
            rintro e w1 ⟨rfl, hb1⟩
            have HB2 := Lib.hid (HB.out.trans ((HB1.out.trans (hb1.mono HB1.out.size)).mono HB.out.size))
            clear hb1 HA HB HB1
            go_wp2_with fail
            go_ret
            exact ⟨by rw [HC.out]; rfl, HB2.out⟩
          | some t =>
            have HST2 := Lib.hid (HST.out.trans hf)
            rw [hf] at HA
            clear H5 HST hf
            go_wp2_with fail
            refine HA.out.mono ?_
            rintro e w1 ⟨rfl, hb1⟩
            have HB2 := Lib.hid (HB1.out.trans (hb1.mono HB1.out.size))
            clear hb1 HA HB1
            go_wp2_with fail
            go_roundw
            case rel => exact ⟨j + 1, t, by omega, rfl, rfl, by go_num, HST2, HB2.out⟩
            case measure => simp [intOf]; omega
        · obtain rfl : j = k := by omega
          have HC := Lib.hid (HT1.out s HRUN.out)
          have HB2 := Lib.hid (HB.out.trans (hb.mono HB.out.size))
          clear hb HRB HOKM HT5 HT1
          by_cases h1 : s = 1
          · have hq : ((qstr s).toList == ([49] : List UInt8)) = true := by rw [h1, one_strZ]; exact lit_eq _ _ rfl
            rw [if_pos h1] at HC
            generalize qstr s = sq at *
            go_wp2_with fail
            go_ret
            exact ⟨by rw [HC.out]; rfl, HB2.out⟩
          · have hq : ((qstr s).toList == ([49] : List UInt8)) = false := beq_false_of_ne fun he => h1 (qstr_inj (by rw [one_strZ]; exact ba_extZ (by rw [← Lib.toList_data]; exact he)))
            rw [if_neg h1] at HC
            generalize qstr s = sq at *
            go_wp2_with fail
            go_ret
            exact ⟨by rw [HC.out]; rfl, HB2.out⟩

end Go.Proofs.YtofanopnibbaeaaGreatDoor
