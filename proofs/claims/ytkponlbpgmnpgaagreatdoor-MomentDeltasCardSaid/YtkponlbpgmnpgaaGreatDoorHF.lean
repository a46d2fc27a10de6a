/-
  The reference of rat: functions of one text: the errors, and Neg, Inv, Sign of numbers. The reference of rat: Abs, Sign, Parts of numbers; rat's functions of one text: the errors. The reference of rat: Abs of a number; Neg, Abs, Inv, Sign of both for every text.
-/
import Derived.Test.YtkponlbpgmnpgaaGreatDoorHE
import Derived.Test.YtkponlbpgmnpgaaGreatDoorHH
namespace Go.Proofs.YtkponlbpgmnpgaaGreatDoor
open Go.RowKit NV
open Go.Lib (decDigits)
theorem one_newQ (w : World) (m : Bool) (x y : Value) : Below w.heap.size w (w.alloc (.cells #[.bool m, x, y] 141)) ∧ QR (w.alloc (.cells #[.bool m, x, y] 141)) w.heap.size m x y :=
 ⟨(Below.refl _ _).alloc (Nat.le_refl _) _, QR.new w m x y⟩
set_option maxHeartbeats 1600000 in
set_option maxRecDepth 100000 in
theorem rSign_err1 {s : ByteArray} (w : World) (hs : s.size ≤ 140737488351232) {c : Nat} (hc : rchk s = c) (h0 : c ≠ 0) :
  Calls Tryz.prog 181 #[.string s] w fun e w' => e = .returned (.tuple #[.int .i64 0, .int .i64 ((c : Nat) : Int)]) ∧ Below w.heap.size w w' := by
 have HT := Lib.hid (rread_any s w hs)
 unfold RRet at HT
 rw [hc] at HT
 have hne := errne h0
 clear hs hc h0
 go_enter Tryz.func181, Tryz.ntmps181
 go_wp2_with fail
 refine HT.out.mono ?_
 rintro e w1 ⟨⟨m1, a1, L1, k1, b1, M1, l1, rfl⟩, hb1⟩
 have HB := Lib.hid (hb1.trans ((one_newQ w1 m1 (.slice a1 L1 k1) (.slice b1 M1 l1)).1.mono hb1.size))
 clear hb1 HT
 go_wp2_with fail
 go_ret2
 exact ⟨rfl, HB.out⟩
open Go.RowKit NV
open Go.Lib (decDigits)
set_option maxHeartbeats 3200000 in
set_option maxRecDepth 100000 in
theorem rSign_z {p : Rat} (w : World) (op : QOk p) (h0 : tp p = 0) :
  Calls Tryz.prog 181 #[.string (qstr p)] w (fun e w' => e = .returned (.tuple #[.int .i64 (0), .int .i64 0]) ∧ Below w.heap.size w w') := by
 have HT := Lib.hid (rread_q op w)
 have hl : ln (tp p) = 0 := by rw [h0]; exact ln_zero
 clear h0
 clear op
 generalize qstr p = sp at HT ⊢
 go_enter Tryz.func181, Tryz.ntmps181
 go_wp2_with fail
 refine HT.out.mono ?_
 rintro e w1 ⟨v, rfl, hv, hb1⟩
 obtain ⟨a1, k1, a2, k2, rfl⟩ := hv.form
 obtain ⟨hb2, hq1⟩ := one_newQ w1 (ng p) (.slice a1 (ln (tp p)) k1) (.slice a2 (ln p.den) k2)
 have HV := Lib.hid (hv.below hb2)
 have HB := Lib.hid (hb1.trans (hb2.mono hb1.size))
 have HQ1 := Lib.hid hq1
 clear hv hb1 hb2 hq1 HT
 rw [hl] at HB
 go_wp2_with fail
 go_ret2
 exact ⟨rfl, HB.out⟩
set_option maxHeartbeats 3200000 in
set_option maxRecDepth 100000 in
theorem rSign_m {p : Rat} (w : World) (op : QOk p) (h0 : tp p ≠ 0) (hm : ng p = true) :
  Calls Tryz.prog 181 #[.string (qstr p)] w (fun e w' => e = .returned (.tuple #[.int .i64 (-1), .int .i64 0]) ∧ Below w.heap.size w w') := by
 have HT := Lib.hid (rread_q op w)
 have hl : (((ln (tp p) : Nat) : Int) == 0) = false := by have := ln_pos h0; rw [beq_eq_false_iff_ne]; omega
 clear h0
 clear op
 generalize qstr p = sp at HT ⊢
 go_enter Tryz.func181, Tryz.ntmps181
 go_wp2_with fail
 refine HT.out.mono ?_
 rintro e w1 ⟨v, rfl, hv, hb1⟩
 obtain ⟨a1, k1, a2, k2, rfl⟩ := hv.form
 obtain ⟨hb2, hq1⟩ := one_newQ w1 (ng p) (.slice a1 (ln (tp p)) k1) (.slice a2 (ln p.den) k2)
 have HV := Lib.hid (hv.below hb2)
 have HB := Lib.hid (hb1.trans (hb2.mono hb1.size))
 have HQ1 := Lib.hid hq1
 clear hv hb1 hb2 hq1 HT
 rw [hm] at HB
 go_wp2_with fail
 go_ret2
 exact ⟨rfl, HB.out⟩
set_option maxHeartbeats 3200000 in
set_option maxRecDepth 100000 in
theorem rSign_p {p : Rat} (w : World) (op : QOk p) (h0 : tp p ≠ 0) (hm : ng p = false) :
  Calls Tryz.prog 181 #[.string (qstr p)] w (fun e w' => e = .returned (.tuple #[.int .i64 (1), .int .i64 0]) ∧ Below w.heap.size w w') := by
 have HT := Lib.hid (rread_q op w)
 have hl : (((ln (tp p) : Nat) : Int) == 0) = false := by have := ln_pos h0; rw [beq_eq_false_iff_ne]; omega
 clear h0
 clear op
 generalize qstr p = sp at HT ⊢
 go_enter Tryz.func181, Tryz.ntmps181
 go_wp2_with fail
 refine HT.out.mono ?_
 rintro e w1 ⟨v, rfl, hv, hb1⟩
 obtain ⟨a1, k1, a2, k2, rfl⟩ := hv.form
 obtain ⟨hb2, hq1⟩ := one_newQ w1 (ng p) (.slice a1 (ln (tp p)) k1) (.slice a2 (ln p.den) k2)
 have HV := Lib.hid (hv.below hb2)
 have HB := Lib.hid (hb1.trans (hb2.mono hb1.size))
 have HQ1 := Lib.hid hq1
 clear hv hb1 hb2 hq1 HT
 rw [hm] at HB
 go_wp2_with fail
 go_ret2
 exact ⟨rfl, HB.out⟩
theorem rSign_q {p : Rat} (w : World) (op : QOk p) :
  Calls Tryz.prog 181 #[.string (qstr p)] w fun e w' => e = .returned (.tuple #[.int .i64 (sgnQ p), .int .i64 0]) ∧ Below w.heap.size w w' := by
 rw [← sgnF_q, sgnF]
 by_cases hz : tp p = 0
 ·rw [if_pos hz]; exact rSign_z w op hz
 ·rw [if_neg hz]
  cases hm : ng p with
  | true => exact rSign_m w op hz hm
  | false => exact rSign_p w op hz hm
open Go.RowKit NV
open Go.Lib (decDigits)
end Go.Proofs.YtkponlbpgmnpgaaGreatDoor
