/-
  Floor and Ceil of both: the program and the reference return the same for every text. Parts and Check of both, the program's Pow and Parts of a wrong text.
-/
import Derived.Test.YtgeohcpmoleocaaGreatDoorU16
import Derived.Test.YtgeohcpmoleocaaGreatDoorHF
namespace Go.Proofs.YtgeohcpmoleocaaGreatDoor
open Go.RowKit NV
open Go.Lib (decDigits)

theorem rFloor_of {s : ByteArray} {T : ByteArray × Nat} (w : World) (h : Calls Tryz.prog 93 #[.string s, .bool false] w (PR T w)) :
    Calls Tryz.prog 27 #[.string s] w (PR T w) := by
  have H := Lib.hid h
  unfold PR at H ⊢
  obtain ⟨t1, t2⟩ := T
  clear h
  go_enter Tryz.func27, Tryz.ntmps27
  go_wp2_with fail
  refine H.out.mono ?_
  rintro e w1 ⟨rfl, hb⟩
  have HB := Lib.hid hb
  clear hb H
  go_wp2_with fail
  go_ret2
  exact ⟨rfl, HB.out⟩

theorem rCeil_of {s : ByteArray} {T : ByteArray × Nat} (w : World) (h : Calls Tryz.prog 93 #[.string s, .bool true] w (PR T w)) :
    Calls Tryz.prog 29 #[.string s] w (PR T w) := by
  have H := Lib.hid h
  unfold PR at H ⊢
  obtain ⟨t1, t2⟩ := T
  clear h
  go_enter Tryz.func29, Tryz.ntmps29
  go_wp2_with fail
  refine H.out.mono ?_
  rintro e w1 ⟨rfl, hb⟩
  have HB := Lib.hid hb
  clear hb H
  go_wp2_with fail
  go_ret2
  exact ⟨rfl, HB.out⟩

theorem quot_nz {a d : Nat} (h : a ≠ 0) (hr : a % d = 0) : a / d ≠ 0 := by
  intro h0
  have := Nat.div_add_mod a d
  rw [h0, hr] at this
  omega

theorem rfl_round {p : Rat} (w : World) (op : QOk p) :
    Calls Tryz.prog 93 #[.string (qstr p), .bool false] w (RQ (flQ p) w) := by
  obtain ⟨f1, f2, f3⟩ := fl_parts p
  cases hm : ng p
  · rw [hm] at f2 f3
    rw [if_neg (by simp), Nat.add_zero] at f3
    by_cases hr : tp p % p.den = 0
    · exact round_a w op hm hr f2 f3 f1
    · exact round_b w op hm hr f2 f3 f1
  · rw [hm] at f2 f3
    by_cases hr : tp p % p.den = 0
    · rw [if_neg (by simp [hr]), Nat.add_zero] at f3
      exact round_e w op hm hr (quot_nz (ng_zero hm) hr) f2 f3 f1
    · rw [if_pos ⟨rfl, hr⟩] at f3
      exact round_f w op hm hr f2 f3 f1

theorem rce_round {p : Rat} (w : World) (op : QOk p) :
    Calls Tryz.prog 93 #[.string (qstr p), .bool true] w (RQ (-flQ (-p)) w) := by
  obtain ⟨f1, f2, f3⟩ := fl_parts (-p)
  obtain ⟨n1, n2, n3⟩ := neg_parts p
  obtain ⟨g1, g2, g3⟩ := neg_parts (flQ (-p))
  rw [n1, n2] at f3
  rw [f3] at g1
  rw [f1] at g2
  rw [f3, f2] at g3
  clear f1 f2 f3 n1 n2
  cases hm : ng p
  · rw [hm] at n3
    by_cases hz : tp p = 0
    · rw [n3] at g1 g3
      simp [hz] at g1 g3
      exact round_c w op hm (by rw [hz]; exact Nat.zero_mod _) g3 (by rw [g1, hz, Nat.zero_div]) g2
    · have hn : ng (-p) = true := by rw [n3]; simp [hz]
      rw [hn] at g1 g3
      by_cases hr : tp p % p.den = 0
      · rw [if_neg (by simp [hr]), Nat.add_zero] at g1
        exact round_c w op hm hr (by rw [g3]; rfl) g1 g2
      · rw [if_pos ⟨rfl, hr⟩] at g1
        exact round_d w op hm hr (by rw [g3]; rfl) g1 g2
  · have hn : ng (-p) = false := by rw [n3, hm]; rfl
    rw [hn] at g1 g3
    rw [if_neg (by simp), Nat.add_zero] at g1
    rw [if_neg (by simp), Nat.add_zero] at g3
    by_cases hr : tp p % p.den = 0
    · have hq := quot_nz (ng_zero hm) hr
      exact round_g w op hm hr hq (by rw [g3]; simp [hq]) g1 g2
    · by_cases hq : tp p / p.den = 0
      · exact round_h w op hm hr hq (by rw [g3]; simp [hq]) g1 g2
      · exact round_i w op hm hr hq (by rw [g3]; simp [hq]) g1 g2

theorem both_Floor (s : ByteArray) (hs : s.size ≤ 1000000) :
    ∃ T : ByteArray × Nat, (∀ w, Tab w → ML w → Calls Tryz.prog 26 #[.string s] w (PR T w)) ∧ (∀ w, Calls Tryz.prog 27 #[.string s] w (PR T w)) := by
  by_cases h0 : rchk s = 0
  · obtain ⟨p, rfl, op⟩ := rchk_rat h0
    exact ⟨wQ (flQ p), fun w htab hm => Floor_q p op w htab hm, fun w => rFloor_of w (rfl_round w op)⟩
  · exact ⟨(⟨#[]⟩, _), fun w _ hm => Floor_err1 w hs hm rfl h0, fun w => rFloor_of (T := (⟨#[]⟩, rchk s)) w (rround_err1 w (by omega) rfl h0)⟩

theorem both_Ceil (s : ByteArray) (hs : s.size ≤ 1000000) :
    ∃ T : ByteArray × Nat, (∀ w, Tab w → ML w → Calls Tryz.prog 28 #[.string s] w (PR T w)) ∧ (∀ w, Calls Tryz.prog 29 #[.string s] w (PR T w)) := by
  by_cases h0 : rchk s = 0
  · obtain ⟨p, rfl, op⟩ := rchk_rat h0
    exact ⟨wQ (-flQ (-p)), fun w htab hm => Ceil_q p op w htab hm, fun w => rCeil_of w (rce_round w op)⟩
  · exact ⟨(⟨#[]⟩, _), fun w _ hm => Ceil_err1 w hs hm rfl h0, fun w => rCeil_of (T := (⟨#[]⟩, rchk s)) w (rround_err1 w (by omega) rfl h0)⟩

open Go.RowKit NV
open Go.Lib (decDigits)

set_option maxHeartbeats 3200000 in
set_option maxRecDepth 100000 in
theorem rParts_q {p : Rat} (w : World) (op : QOk p) :
    Calls Tryz.prog 31 #[.string (qstr p)] w fun e w' => e = .returned (.tuple #[.string (istr (ng p) (tp p)), .string (dstr p.den), .int .i64 0]) ∧ Below w.heap.size w w' := by
  have HT := Lib.hid (rread_q op w)
  have HL := Lib.hid op.ql
  obtain ⟨q1, _, _⟩ := qstr_parts p
  have hsz := qsmall op
  have HSL := Lib.hid (fun W => slash_any (qstr p) W (by omega))
  obtain ⟨K, hK⟩ : ∃ K, K = cutAt (qstr p).data.toList := ⟨_, rfl⟩
  have hKs : K ≤ (qstr p).size := by rw [hK, Go.Lib.size_eq]; exact cutAt_le _
  have HN0 := Lib.hid (show (qstr p).extract 0 K = istr (ng p) (tp p) by rw [hK]; exact q1)
  rw [← hK] at HSL
  generalize istr (ng p) (tp p) = si at HN0 ⊢
  clear hK q1 op
  generalize qstr p = sp at *
  go_enter Tryz.func31, Tryz.ntmps31
  go_wp2_with fail
  refine HT.out.mono ?_
  rintro e w1 ⟨v, rfl, hv, hb1⟩
  obtain ⟨a1, k1, a2, k2, rfl⟩ := hv.form
  obtain ⟨hb2, hq1⟩ := one_newQ w1 (ng p) (.slice a1 (ln (tp p)) k1) (.slice a2 (ln p.den) k2)
  have HV := Lib.hid (hv.below hb2)
  have HB := Lib.hid (hb1.trans (hb2.mono hb1.size))
  have HQ1 := Lib.hid hq1
  clear hv hb1 hb2 hq1 HT
  go_wp2_with fail
  generalize w1.alloc (.cells #[.bool (ng p), .slice a1 (ln (tp p)) k1, .slice a2 (ln p.den) k2] 88) = w2 at HV HB HQ1 ⊢
  refine (HSL.out _).mono ?_
  rintro e w3 ⟨rfl, rfl⟩
  go_wp2_with fail
  have HA := Lib.hid (fun W h => iwrite_any (w := W) (n := p.den) (HV.out.nums.2.2.below h) (Nat.le_trans HL.out.2 (by omega)))
  have HS := Lib.hid (show ∀ W, Below w2.heap.size w2 W → W.cell? ⟨w1.heap.size, 2, none⟩ = some (.slice a2 (ln p.den) k2) from fun W h => (HQ1.out.keep h).c2)
  have hD0 := (Below.refl w2.heap.size w2).drew
  go_region_held3 (fun W => W.cell? ⟨w1.heap.size, 2, none⟩ = some (.slice a2 (ln p.den) k2))
    (first | with_reducible exact HS.out _ hD0 | with_reducible exact HS.out _ (by assumption))
    (first
      | (go_at_call_of 97 (Value.slice a2 (ln p.den) k2); refine (lift_s (w0 := w2) (by assumption) (HA.out _ (by assumption))).mono ?_; rintro e u1 ⟨rfl, hb1, hB1⟩))
  replace HB := Lib.hid (HB.out.trans (hB1.mono HB.out.size))
  go_wp2_with fail
  go_ret3
  exact ⟨by rw [HN0.out]; rfl, HB.out⟩

set_option maxHeartbeats 1600000 in
theorem Parts_err1 {s : ByteArray} (w : World) (hs : s.size ≤ 1000000) (hm : ML w) {c : Nat} (hc : rchk s = c) (h0 : c ≠ 0) :
    Calls Tryz.prog 30 #[.string s] w fun e w' => e = .returned (.tuple #[.string ⟨#[]⟩, .string ⟨#[]⟩, .int .i64 ((c : Nat) : Int)]) ∧ Below w.heap.size w w' := by
  have hk := qcheck_any s w hs hm
  rw [hc] at hk
  have HK := Lib.hid hk
  have hne := errne h0
  clear hk hc h0 hs hm
  go_enter Tryz.func30, Tryz.ntmps30
  go_wp2_with fail
  refine HK.out.mono ?_
  rintro e w1 ⟨rfl, hb1⟩
  have HB := Lib.hid hb1
  clear hb1 HK
  go_wp2_with fail
  go_ret3
  exact ⟨rfl, HB.out⟩

theorem both_Parts (s : ByteArray) (hs : s.size ≤ 1000000) :
    ∃ (a b : ByteArray) (c : Int), (∀ w, ML w → Calls Tryz.prog 30 #[.string s] w fun e w' => e = .returned (.tuple #[.string a, .string b, .int .i64 c]) ∧ Below w.heap.size w w') ∧
      (∀ w, Calls Tryz.prog 31 #[.string s] w fun e w' => e = .returned (.tuple #[.string a, .string b, .int .i64 c]) ∧ Below w.heap.size w w') := by
  by_cases h0 : rchk s = 0
  · obtain ⟨p, rfl, op⟩ := rchk_rat h0
    exact ⟨_, _, _, fun w hm => Parts_q p op w hm, fun w => rParts_q w op⟩
  · exact ⟨_, _, _, fun w hm => Parts_err1 w hs hm rfl h0, fun w => rParts_err1 w (by omega) rfl h0⟩

theorem both_Check (s : ByteArray) (hs : s.size ≤ 1000000) :
    ∃ c : Int, (∀ w, ML w → Calls Tryz.prog 34 #[.string s] w fun e w' => e = .returned (.int .i64 c) ∧ Below w.heap.size w w') ∧
      (∀ w, Calls Tryz.prog 35 #[.string s] w fun e w' => e = .returned (.int .i64 c) ∧ Below w.heap.size w w') :=
  ⟨_, fun w hm => qcheck_any s w hs hm, fun w => rcheck_any s w (by omega)⟩

set_option maxHeartbeats 1600000 in
theorem Pow_err1 {s : ByteArray} {n : Int} (w : World) (hs : s.size ≤ 1000000) (hm : ML w) {c : Nat} (hc : rchk s = c) (h0 : c ≠ 0) :
    Calls Tryz.prog 23 #[.string s, .int .i64 n] w (E2 c w) := by
  have hmf : ∀ (fn : Fn) (first cap : Array Value) (w : World), (Instr.makeFunc fn first cap).run Tryz.prog w = .ok (.func fn first cap) w := fun _ _ _ _ => rfl
  have hb0 : Below w.heap.size w (w.alloc (.cells #[.int .i64 n] 3)) := (Below.refl _ _).alloc (Nat.le_refl _) _
  have hw := withOne_err (.func (.func 85) #[] #[.pointer (some ⟨w.heap.size, 0, none⟩)]) s (w.alloc (.cells #[.int .i64 n] 3)) hs (ml_keep hm (ml_pos hm) hb0) (by rw [hc]; exact h0)
  rw [hc] at hw
  have HC := Lib.hid hw
  have HB := Lib.hid hb0
  unfold E2
  clear hm hs hc h0 hb0 hw
  go_enter Tryz.func23, Tryz.ntmps23
  go_wp2_with fail
  refine HC.out.mono ?_
  rintro e w1 ⟨rfl, hb⟩
  have HB2 := Lib.hid (HB.out.trans (hb.mono HB.out.size))
  clear hb HC
  go_wp2_with fail
  go_ret2
  exact ⟨rfl, HB2.out⟩

end Go.Proofs.YtgeohcpmoleocaaGreatDoor
