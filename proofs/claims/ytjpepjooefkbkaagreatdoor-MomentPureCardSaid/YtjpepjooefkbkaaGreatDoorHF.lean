/-
  The reference of rat: functions of one text: the errors, and Neg, Inv, Sign of numbers. The reference of rat: Abs, Sign, Parts of numbers; rat's functions of one text: the errors. The reference of rat: Abs of a number; Neg, Abs, Inv, Sign of both for every text.
-/
import Derived.Test.YtjpepjooefkbkaaGreatDoorHE
import Derived.Test.YtjpepjooefkbkaaGreatDoorHH
namespace Go.Proofs.YtjpepjooefkbkaaGreatDoor
open Go.RowKit NV
open Go.Lib (decDigits)
theorem one_newQ (w : World) (m : Bool) (x y : Value) : Below w.heap.size w (w.alloc (.cells #[.bool m, x, y] 61)) ∧ QR (w.alloc (.cells #[.bool m, x, y] 61)) w.heap.size m x y :=
 ⟨(Below.refl _ _).alloc (Nat.le_refl _) _, QR.new w m x y⟩
set_option maxHeartbeats 1600000 in
set_option maxRecDepth 100000 in
theorem rSign_err1 {s : ByteArray} (w : World) (hs : s.size ≤ 140737488351232) {c : Nat} (hc : rchk s = c) (h0 : c ≠ 0) :
  Calls Tryz.prog 45 #[.string s] w fun e w' => e = .returned (.tuple #[.int .i64 0, .int .i64 ((c : Nat) : Int)]) ∧ Below w.heap.size w w' := by
 have HT := Lib.hid (rread_any s w hs)
 unfold RRet at HT
 rw [hc] at HT
 have hne := errne h0
 clear hs hc h0
 go_enter Tryz.func45, Tryz.ntmps45
 go_wp2_with fail
 refine HT.out.mono ?_
 rintro e w1 ⟨⟨m1, a1, L1, k1, b1, M1, l1, rfl⟩, hb1⟩
 have HB := Lib.hid (hb1.trans ((one_newQ w1 m1 (.slice a1 L1 k1) (.slice b1 M1 l1)).1.mono hb1.size))
 clear hb1 HT
 go_wp2_with fail
 go_ret2
 exact ⟨rfl, HB.out⟩
set_option maxHeartbeats 3200000 in
set_option maxRecDepth 100000 in
theorem rInv_q {p r : Rat} (w : World) (op : QOk p) (h0 : p ≠ 0) (hr : r = p⁻¹) :
  Calls Tryz.prog 8 #[.string (qstr p)] w (RQ r w) := by
 have HT := Lib.hid (rread_q op w)
 have HWR := Lib.hid (fun (W : World) (z : Value) (h : QQ W z (r)) => rwrite_q h ((hr ▸ op.ql.inv h0 : QL 445 r).mono (by omega)))
 unfold RQ at HWR ⊢
 generalize wQ (r) = T at HWR ⊢
 obtain ⟨t1, t2⟩ := T
 have HN := Lib.hid (And.intro h0 hr)
 have hl : (((ln (tp p) : Nat) : Int) == 0) = false := by
  have := ln_pos (tp_ne h0)
  rw [beq_eq_false_iff_ne]; omega
 clear h0 hr
 clear op
 generalize qstr p = sp at HT ⊢
 go_enter Tryz.func8, Tryz.ntmps8
 go_wp2_with fail
 refine HT.out.mono ?_
 rintro e w1 ⟨v, rfl, hv, hb1⟩
 obtain ⟨a1, k1, a2, k2, rfl⟩ := hv.form
 obtain ⟨hb2, hq1⟩ := one_newQ w1 (ng p) (.slice a1 (ln (tp p)) k1) (.slice a2 (ln p.den) k2)
 have HV := Lib.hid (hv.below hb2)
 have HB := Lib.hid (hb1.trans (hb2.mono hb1.size))
 have HQ1 := Lib.hid hq1
 clear hv hb1 hb2 hq1 HT
 go_wp2_with fail
 generalize w1.alloc (.cells #[.bool (ng p), .slice a1 (ln (tp p)) k1, .slice a2 (ln p.den) k2] 61) = w2 at HV HB HQ1 ⊢
 refine (rover_r HV.out HN.out.1 HN.out.2).mono ?_
 rintro e w3 ⟨z, rfl, hz, hb3⟩
 obtain ⟨a5, k5, a6, k6, rfl⟩ := hz.form
 have hy := HWR.out _ _ hz
 replace HB := Lib.hid (HB.out.trans (hb3.mono HB.out.size))
 clear hz hb3 HWR
 go_wp2_with fail
 refine hy.mono ?_
 rintro e w4 ⟨rfl, hb4⟩
 clear hy
 go_wp2_with fail
 go_ret2
 exact ⟨rfl, HB.out.trans (hb4.mono HB.out.size)⟩
open Go.RowKit NV
open Go.Lib (decDigits)
set_option maxHeartbeats 3200000 in
set_option maxRecDepth 100000 in
theorem rSign_z {p : Rat} (w : World) (op : QOk p) (h0 : tp p = 0) :
  Calls Tryz.prog 45 #[.string (qstr p)] w (fun e w' => e = .returned (.tuple #[.int .i64 (0), .int .i64 0]) ∧ Below w.heap.size w w') := by
 have HT := Lib.hid (rread_q op w)
 have hl : ln (tp p) = 0 := by rw [h0]; exact ln_zero
 clear h0
 clear op
 generalize qstr p = sp at HT ⊢
 go_enter Tryz.func45, Tryz.ntmps45
 go_wp2_with fail
 refine HT.out.mono ?_
 rintro e w1 ⟨v, rfl, hv, hb1⟩
 obtain ⟨a1, k1, a2, k2, rfl⟩ := hv.form
 obtain ⟨hb2, hq1⟩ := one_newQ w1 (ng p) (.slice a1 (ln (tp p)) k1) (.slice a2 (ln p.den) k2)
 have HV := Lib.hid (hv.below hb2)
 have HB := Lib.hid (hb1.trans (hb2.mono hb1.size))
 have HQ1 := Lib.hid hq1
 clear hv hb1 hb2 hq1 HT
 rw [hl] at HB
 go_wp2_with fail
 go_ret2
 exact ⟨rfl, HB.out⟩
set_option maxHeartbeats 3200000 in
set_option maxRecDepth 100000 in
theorem rSign_m {p : Rat} (w : World) (op : QOk p) (h0 : tp p ≠ 0) (hm : ng p = true) :
  Calls Tryz.prog 45 #[.string (qstr p)] w (fun e w' => e = .returned (.tuple #[.int .i64 (-1), .int .i64 0]) ∧ Below w.heap.size w w') := by
 have HT := Lib.hid (rread_q op w)
 have hl : (((ln (tp p) : Nat) : Int) == 0) = false := by have := ln_pos h0; rw [beq_eq_false_iff_ne]; omega
 clear h0
 clear op
 generalize qstr p = sp at HT ⊢
 go_enter Tryz.func45, Tryz.ntmps45
 go_wp2_with fail
 refine HT.out.mono ?_
 rintro e w1 ⟨v, rfl, hv, hb1⟩
 obtain ⟨a1, k1, a2, k2, rfl⟩ := hv.form
 obtain ⟨hb2, hq1⟩ := one_newQ w1 (ng p) (.slice a1 (ln (tp p)) k1) (.slice a2 (ln p.den) k2)
 have HV := Lib.hid (hv.below hb2)
 have HB := Lib.hid (hb1.trans (hb2.mono hb1.size))
 have HQ1 := Lib.hid hq1
 clear hv hb1 hb2 hq1 HT
 rw [hm] at HB
 go_wp2_with fail
 go_ret2
 exact ⟨rfl, HB.out⟩
set_option maxHeartbeats 3200000 in
set_option maxRecDepth 100000 in
theorem rSign_p {p : Rat} (w : World) (op : QOk p) (h0 : tp p ≠ 0) (hm : ng p = false) :
  Calls Tryz.prog 45 #[.string (qstr p)] w (fun e w' => e = .returned (.tuple #[.int .i64 (1), .int .i64 0]) ∧ Below w.heap.size w w') := by
 have HT := Lib.hid (rread_q op w)
 have hl : (((ln (tp p) : Nat) : Int) == 0) = false := by have := ln_pos h0; rw [beq_eq_false_iff_ne]; omega
 clear h0
 clear op
 generalize qstr p = sp at HT ⊢
 go_enter Tryz.func45, Tryz.ntmps45
 go_wp2_with fail
 refine HT.out.mono ?_
 rintro e w1 ⟨v, rfl, hv, hb1⟩
 obtain ⟨a1, k1, a2, k2, rfl⟩ := hv.form
 obtain ⟨hb2, hq1⟩ := one_newQ w1 (ng p) (.slice a1 (ln (tp p)) k1) (.slice a2 (ln p.den) k2)
 have HV := Lib.hid (hv.below hb2)
 have HB := Lib.hid (hb1.trans (hb2.mono hb1.size))
 have HQ1 := Lib.hid hq1
 clear hv hb1 hb2 hq1 HT
 rw [hm] at HB
 go_wp2_with fail
 go_ret2
 exact ⟨rfl, HB.out⟩
theorem rSign_q {p : Rat} (w : World) (op : QOk p) :
  Calls Tryz.prog 45 #[.string (qstr p)] w fun e w' => e = .returned (.tuple #[.int .i64 (sgnQ p), .int .i64 0]) ∧ Below w.heap.size w w' := by
 rw [← sgnF_q, sgnF]
 by_cases hz : tp p = 0
 ·rw [if_pos hz]; exact rSign_z w op hz
 ·rw [if_neg hz]
  cases hm : ng p with
  | true => exact rSign_m w op hz hm
  | false => exact rSign_p w op hz hm
open Go.RowKit NV
open Go.Lib (decDigits)
end Go.Proofs.YtjpepjooefkbkaaGreatDoor
