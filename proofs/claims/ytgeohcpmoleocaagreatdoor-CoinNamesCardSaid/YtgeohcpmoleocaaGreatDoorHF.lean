/-
  The reference of rat: functions of one text: the errors, and Neg, Inv, Sign of numbers. The reference of rat: Abs, Sign, Parts of numbers; rat's functions of one text: the errors. The reference of rat: Abs of a number; Neg, Abs, Inv, Sign of both for every text.
-/
import Derived.Test.YtgeohcpmoleocaaGreatDoorHE
import Derived.Test.YtgeohcpmoleocaaGreatDoorP28
namespace Go.Proofs.YtgeohcpmoleocaaGreatDoor
open Go.RowKit NV
open Go.Lib (decDigits)

/-- A number of the reference laid. -/
theorem one_newQ (w : World) (m : Bool) (x y : Value) : Below w.heap.size w (w.alloc (.cells #[.bool m, x, y] 88)) ∧ QR (w.alloc (.cells #[.bool m, x, y] 88)) w.heap.size m x y :=
  ⟨(Below.refl _ _).alloc (Nat.le_refl _) _, QR.new w m x y⟩

set_option maxHeartbeats 1600000 in
set_option maxRecDepth 100000 in
theorem rNeg_err1 {s : ByteArray} (w : World) (hs : s.size ≤ 140737488351232) {c : Nat} (hc : rchk s = c) (h0 : c ≠ 0) :
    Calls Tryz.prog 18 #[.string s] w fun e w' => e = .returned (.tuple #[.string ⟨#[]⟩, .int .i64 ((c : Nat) : Int)]) ∧ Below w.heap.size w w' := by
  have HT := Lib.hid (rread_any s w hs)
  unfold RRet at HT
  rw [hc] at HT
  have hne := errne h0
  clear hs hc h0
  go_enter Tryz.func18, Tryz.ntmps18
  go_wp2_with fail
  refine HT.out.mono ?_
  rintro e w1 ⟨⟨m1, a1, L1, k1, b1, M1, l1, rfl⟩, hb1⟩
  have HB := Lib.hid (hb1.trans ((one_newQ w1 m1 (.slice a1 L1 k1) (.slice b1 M1 l1)).1.mono hb1.size))
  clear hb1 HT
  go_wp2_with fail
  go_ret2
  exact ⟨rfl, HB.out⟩

set_option maxHeartbeats 1600000 in
set_option maxRecDepth 100000 in
theorem rAbs_err1 {s : ByteArray} (w : World) (hs : s.size ≤ 140737488351232) {c : Nat} (hc : rchk s = c) (h0 : c ≠ 0) :
    Calls Tryz.prog 20 #[.string s] w fun e w' => e = .returned (.tuple #[.string ⟨#[]⟩, .int .i64 ((c : Nat) : Int)]) ∧ Below w.heap.size w w' := by
  have HT := Lib.hid (rread_any s w hs)
  unfold RRet at HT
  rw [hc] at HT
  have hne := errne h0
  clear hs hc h0
  go_enter Tryz.func20, Tryz.ntmps20
  go_wp2_with fail
  refine HT.out.mono ?_
  rintro e w1 ⟨⟨m1, a1, L1, k1, b1, M1, l1, rfl⟩, hb1⟩
  have HB := Lib.hid (hb1.trans ((one_newQ w1 m1 (.slice a1 L1 k1) (.slice b1 M1 l1)).1.mono hb1.size))
  clear hb1 HT
  go_wp2_with fail
  go_ret2
  exact ⟨rfl, HB.out⟩

set_option maxHeartbeats 1600000 in
set_option maxRecDepth 100000 in
theorem rInv_err1 {s : ByteArray} (w : World) (hs : s.size ≤ 140737488351232) {c : Nat} (hc : rchk s = c) (h0 : c ≠ 0) :
    Calls Tryz.prog 22 #[.string s] w fun e w' => e = .returned (.tuple #[.string ⟨#[]⟩, .int .i64 ((c : Nat) : Int)]) ∧ Below w.heap.size w w' := by
  have HT := Lib.hid (rread_any s w hs)
  unfold RRet at HT
  rw [hc] at HT
  have hne := errne h0
  clear hs hc h0
  go_enter Tryz.func22, Tryz.ntmps22
  go_wp2_with fail
  refine HT.out.mono ?_
  rintro e w1 ⟨⟨m1, a1, L1, k1, b1, M1, l1, rfl⟩, hb1⟩
  have HB := Lib.hid (hb1.trans ((one_newQ w1 m1 (.slice a1 L1 k1) (.slice b1 M1 l1)).1.mono hb1.size))
  clear hb1 HT
  go_wp2_with fail
  go_ret2
  exact ⟨rfl, HB.out⟩

set_option maxHeartbeats 1600000 in
set_option maxRecDepth 100000 in
theorem rSign_err1 {s : ByteArray} (w : World) (hs : s.size ≤ 140737488351232) {c : Nat} (hc : rchk s = c) (h0 : c ≠ 0) :
    Calls Tryz.prog 33 #[.string s] w fun e w' => e = .returned (.tuple #[.int .i64 0, .int .i64 ((c : Nat) : Int)]) ∧ Below w.heap.size w w' := by
  have HT := Lib.hid (rread_any s w hs)
  unfold RRet at HT
  rw [hc] at HT
  have hne := errne h0
  clear hs hc h0
  go_enter Tryz.func33, Tryz.ntmps33
  go_wp2_with fail
  refine HT.out.mono ?_
  rintro e w1 ⟨⟨m1, a1, L1, k1, b1, M1, l1, rfl⟩, hb1⟩
  have HB := Lib.hid (hb1.trans ((one_newQ w1 m1 (.slice a1 L1 k1) (.slice b1 M1 l1)).1.mono hb1.size))
  clear hb1 HT
  go_wp2_with fail
  go_ret2
  exact ⟨rfl, HB.out⟩

set_option maxHeartbeats 1600000 in
set_option maxRecDepth 100000 in
theorem rPow_err1 {s : ByteArray} {n : Int} (w : World) (hs : s.size ≤ 140737488351232) {c : Nat} (hc : rchk s = c) (h0 : c ≠ 0) :
    Calls Tryz.prog 24 #[.string s, .int .i64 n] w fun e w' => e = .returned (.tuple #[.string ⟨#[]⟩, .int .i64 ((c : Nat) : Int)]) ∧ Below w.heap.size w w' := by
  have HT := Lib.hid (rread_any s w hs)
  unfold RRet at HT
  rw [hc] at HT
  have hne := errne h0
  clear hs hc h0
  go_enter Tryz.func24, Tryz.ntmps24
  go_wp2_with fail
  refine HT.out.mono ?_
  rintro e w1 ⟨⟨m1, a1, L1, k1, b1, M1, l1, rfl⟩, hb1⟩
  have HB := Lib.hid (hb1.trans ((one_newQ w1 m1 (.slice a1 L1 k1) (.slice b1 M1 l1)).1.mono hb1.size))
  clear hb1 HT
  go_wp2_with fail
  go_ret2
  exact ⟨rfl, HB.out⟩

set_option maxHeartbeats 1600000 in
set_option maxRecDepth 100000 in
theorem rround_err1 {s : ByteArray} {up : Bool} (w : World) (hs : s.size ≤ 140737488351232) {c : Nat} (hc : rchk s = c) (h0 : c ≠ 0) :
    Calls Tryz.prog 93 #[.string s, .bool up] w fun e w' => e = .returned (.tuple #[.string ⟨#[]⟩, .int .i64 ((c : Nat) : Int)]) ∧ Below w.heap.size w w' := by
  have HT := Lib.hid (rread_any s w hs)
  unfold RRet at HT
  rw [hc] at HT
  have hne := errne h0
  clear hs hc h0
  go_enter Tryz.func93, Tryz.ntmps93
  go_wp2_with fail
  refine HT.out.mono ?_
  rintro e w1 ⟨⟨m1, a1, L1, k1, b1, M1, l1, rfl⟩, hb1⟩
  have HB := Lib.hid (hb1.trans ((one_newQ w1 m1 (.slice a1 L1 k1) (.slice b1 M1 l1)).1.mono hb1.size))
  clear hb1 HT
  go_wp2_with fail
  go_ret2
  exact ⟨rfl, HB.out⟩

set_option maxHeartbeats 1600000 in
set_option maxRecDepth 100000 in
theorem rParts_err1 {s : ByteArray} (w : World) (hs : s.size ≤ 140737488351232) {c : Nat} (hc : rchk s = c) (h0 : c ≠ 0) :
    Calls Tryz.prog 31 #[.string s] w fun e w' => e = .returned (.tuple #[.string ⟨#[]⟩, .string ⟨#[]⟩, .int .i64 ((c : Nat) : Int)]) ∧ Below w.heap.size w w' := by
  have HT := Lib.hid (rread_any s w hs)
  unfold RRet at HT
  rw [hc] at HT
  have hne := errne h0
  clear hs hc h0
  go_enter Tryz.func31, Tryz.ntmps31
  go_wp2_with fail
  refine HT.out.mono ?_
  rintro e w1 ⟨⟨m1, a1, L1, k1, b1, M1, l1, rfl⟩, hb1⟩
  have HB := Lib.hid (hb1.trans ((one_newQ w1 m1 (.slice a1 L1 k1) (.slice b1 M1 l1)).1.mono hb1.size))
  clear hb1 HT
  go_wp2_with fail
  go_ret3
  exact ⟨rfl, HB.out⟩

set_option maxHeartbeats 3200000 in
set_option maxRecDepth 100000 in
theorem rNeg_q {p : Rat} (w : World) (op : QOk p) :
    Calls Tryz.prog 18 #[.string (qstr p)] w (RQ (-p) w) := by
  have HT := Lib.hid (rread_q op w)
  have HWR := Lib.hid (fun (W : World) (z : Value) (h : QQ W z (-p)) => rwrite_q h (op.ql.neg.mono (by omega)))
  unfold RQ at HWR ⊢
  generalize wQ (-p) = T at HWR ⊢
  obtain ⟨t1, t2⟩ := T
  clear op
  generalize qstr p = sp at HT ⊢
  go_enter Tryz.func18, Tryz.ntmps18
  go_wp2_with fail
  refine HT.out.mono ?_
  rintro e w1 ⟨v, rfl, hv, hb1⟩
  obtain ⟨a1, k1, a2, k2, rfl⟩ := hv.form
  obtain ⟨hb2, hq1⟩ := one_newQ w1 (ng p) (.slice a1 (ln (tp p)) k1) (.slice a2 (ln p.den) k2)
  have HV := Lib.hid (hv.below hb2)
  have HB := Lib.hid (hb1.trans (hb2.mono hb1.size))
  have HQ1 := Lib.hid hq1
  clear hv hb1 hb2 hq1 HT
  go_wp2_with fail
  generalize w1.alloc (.cells #[.bool (ng p), .slice a1 (ln (tp p)) k1, .slice a2 (ln p.den) k2] 88) = w2 at HV HB HQ1 ⊢
  refine (rneg_q HV.out).mono ?_
  rintro e w3 ⟨z, rfl, hz, hb3⟩
  obtain ⟨a5, k5, a6, k6, rfl⟩ := hz.form
  have hy := HWR.out _ _ hz
  replace HB := Lib.hid (HB.out.trans (hb3.mono HB.out.size))
  clear hz hb3 HWR
  go_wp2_with fail
  refine hy.mono ?_
  rintro e w4 ⟨rfl, hb4⟩
  clear hy
  go_wp2_with fail
  go_ret2
  exact ⟨rfl, HB.out.trans (hb4.mono HB.out.size)⟩

set_option maxHeartbeats 3200000 in
set_option maxRecDepth 100000 in
theorem rInv_q {p r : Rat} (w : World) (op : QOk p) (h0 : p ≠ 0) (hr : r = p⁻¹) :
    Calls Tryz.prog 22 #[.string (qstr p)] w (RQ r w) := by
  have HT := Lib.hid (rread_q op w)
  have HWR := Lib.hid (fun (W : World) (z : Value) (h : QQ W z (r)) => rwrite_q h ((hr ▸ op.ql.inv h0 : QL 445 r).mono (by omega)))
  unfold RQ at HWR ⊢
  generalize wQ (r) = T at HWR ⊢
  obtain ⟨t1, t2⟩ := T
  have HN := Lib.hid (And.intro h0 hr)
  have hl : (((ln (tp p) : Nat) : Int) == 0) = false := by
    have := ln_pos (tp_ne h0)
    rw [beq_eq_false_iff_ne]; omega
  clear h0 hr
  clear op
  generalize qstr p = sp at HT ⊢
  go_enter Tryz.func22, Tryz.ntmps22
  go_wp2_with fail
  refine HT.out.mono ?_
  rintro e w1 ⟨v, rfl, hv, hb1⟩
  obtain ⟨a1, k1, a2, k2, rfl⟩ := hv.form
  obtain ⟨hb2, hq1⟩ := one_newQ w1 (ng p) (.slice a1 (ln (tp p)) k1) (.slice a2 (ln p.den) k2)
  have HV := Lib.hid (hv.below hb2)
  have HB := Lib.hid (hb1.trans (hb2.mono hb1.size))
  have HQ1 := Lib.hid hq1
  clear hv hb1 hb2 hq1 HT
  go_wp2_with fail
  generalize w1.alloc (.cells #[.bool (ng p), .slice a1 (ln (tp p)) k1, .slice a2 (ln p.den) k2] 88) = w2 at HV HB HQ1 ⊢
  refine (rover_r HV.out HN.out.1 HN.out.2).mono ?_
  rintro e w3 ⟨z, rfl, hz, hb3⟩
  obtain ⟨a5, k5, a6, k6, rfl⟩ := hz.form
  have hy := HWR.out _ _ hz
  replace HB := Lib.hid (HB.out.trans (hb3.mono HB.out.size))
  clear hz hb3 HWR
  go_wp2_with fail
  refine hy.mono ?_
  rintro e w4 ⟨rfl, hb4⟩
  clear hy
  go_wp2_with fail
  go_ret2
  exact ⟨rfl, HB.out.trans (hb4.mono HB.out.size)⟩

set_option maxHeartbeats 3200000 in
set_option maxRecDepth 100000 in
theorem rInv_z {p : Rat} (w : World) (op : QOk p) (h0 : p = 0) :
    Calls Tryz.prog 22 #[.string (qstr p)] w (E2 6 w) := by
  have HT := Lib.hid (rread_q op w)
  have hl : ln (tp p) = 0 := by rw [h0]; exact ln_zero
  unfold E2
  clear h0
  clear op
  generalize qstr p = sp at HT ⊢
  go_enter Tryz.func22, Tryz.ntmps22
  go_wp2_with fail
  refine HT.out.mono ?_
  rintro e w1 ⟨v, rfl, hv, hb1⟩
  obtain ⟨a1, k1, a2, k2, rfl⟩ := hv.form
  obtain ⟨hb2, hq1⟩ := one_newQ w1 (ng p) (.slice a1 (ln (tp p)) k1) (.slice a2 (ln p.den) k2)
  have HV := Lib.hid (hv.below hb2)
  have HB := Lib.hid (hb1.trans (hb2.mono hb1.size))
  have HQ1 := Lib.hid hq1
  clear hv hb1 hb2 hq1 HT
  rw [hl] at HB
  go_wp2_with fail
  go_ret2
  exact ⟨rfl, HB.out⟩

open Go.RowKit NV
open Go.Lib (decDigits)

set_option maxHeartbeats 3200000 in
set_option maxRecDepth 100000 in
theorem rSign_z {p : Rat} (w : World) (op : QOk p) (h0 : tp p = 0) :
    Calls Tryz.prog 33 #[.string (qstr p)] w (fun e w' => e = .returned (.tuple #[.int .i64 (0), .int .i64 0]) ∧ Below w.heap.size w w') := by
  have HT := Lib.hid (rread_q op w)
  have hl : ln (tp p) = 0 := by rw [h0]; exact ln_zero
  clear h0
  clear op
  generalize qstr p = sp at HT ⊢
  go_enter Tryz.func33, Tryz.ntmps33
  go_wp2_with fail
  refine HT.out.mono ?_
  rintro e w1 ⟨v, rfl, hv, hb1⟩
  obtain ⟨a1, k1, a2, k2, rfl⟩ := hv.form
  obtain ⟨hb2, hq1⟩ := one_newQ w1 (ng p) (.slice a1 (ln (tp p)) k1) (.slice a2 (ln p.den) k2)
  have HV := Lib.hid (hv.below hb2)
  have HB := Lib.hid (hb1.trans (hb2.mono hb1.size))
  have HQ1 := Lib.hid hq1
  clear hv hb1 hb2 hq1 HT
  rw [hl] at HB
  go_wp2_with fail
  go_ret2
  exact ⟨rfl, HB.out⟩

set_option maxHeartbeats 3200000 in
set_option maxRecDepth 100000 in
theorem rSign_m {p : Rat} (w : World) (op : QOk p) (h0 : tp p ≠ 0) (hm : ng p = true) :
    Calls Tryz.prog 33 #[.string (qstr p)] w (fun e w' => e = .returned (.tuple #[.int .i64 (-1), .int .i64 0]) ∧ Below w.heap.size w w') := by
  have HT := Lib.hid (rread_q op w)
  have hl : (((ln (tp p) : Nat) : Int) == 0) = false := by have := ln_pos h0; rw [beq_eq_false_iff_ne]; omega
  clear h0
  clear op
  generalize qstr p = sp at HT ⊢
  go_enter Tryz.func33, Tryz.ntmps33
  go_wp2_with fail
  refine HT.out.mono ?_
  rintro e w1 ⟨v, rfl, hv, hb1⟩
  obtain ⟨a1, k1, a2, k2, rfl⟩ := hv.form
  obtain ⟨hb2, hq1⟩ := one_newQ w1 (ng p) (.slice a1 (ln (tp p)) k1) (.slice a2 (ln p.den) k2)
  have HV := Lib.hid (hv.below hb2)
  have HB := Lib.hid (hb1.trans (hb2.mono hb1.size))
  have HQ1 := Lib.hid hq1
  clear hv hb1 hb2 hq1 HT
  rw [hm] at HB
  go_wp2_with fail
  go_ret2
  exact ⟨rfl, HB.out⟩

set_option maxHeartbeats 3200000 in
set_option maxRecDepth 100000 in
theorem rSign_p {p : Rat} (w : World) (op : QOk p) (h0 : tp p ≠ 0) (hm : ng p = false) :
    Calls Tryz.prog 33 #[.string (qstr p)] w (fun e w' => e = .returned (.tuple #[.int .i64 (1), .int .i64 0]) ∧ Below w.heap.size w w') := by
  have HT := Lib.hid (rread_q op w)
  have hl : (((ln (tp p) : Nat) : Int) == 0) = false := by have := ln_pos h0; rw [beq_eq_false_iff_ne]; omega
  clear h0
  clear op
  generalize qstr p = sp at HT ⊢
  go_enter Tryz.func33, Tryz.ntmps33
  go_wp2_with fail
  refine HT.out.mono ?_
  rintro e w1 ⟨v, rfl, hv, hb1⟩
  obtain ⟨a1, k1, a2, k2, rfl⟩ := hv.form
  obtain ⟨hb2, hq1⟩ := one_newQ w1 (ng p) (.slice a1 (ln (tp p)) k1) (.slice a2 (ln p.den) k2)
  have HV := Lib.hid (hv.below hb2)
  have HB := Lib.hid (hb1.trans (hb2.mono hb1.size))
  have HQ1 := Lib.hid hq1
  clear hv hb1 hb2 hq1 HT
  rw [hm] at HB
  go_wp2_with fail
  go_ret2
  exact ⟨rfl, HB.out⟩

theorem rSign_q {p : Rat} (w : World) (op : QOk p) :
    Calls Tryz.prog 33 #[.string (qstr p)] w fun e w' => e = .returned (.tuple #[.int .i64 (sgnQ p), .int .i64 0]) ∧ Below w.heap.size w w' := by
  rw [← sgnF_q, sgnF]
  by_cases hz : tp p = 0
  · rw [if_pos hz]; exact rSign_z w op hz
  · rw [if_neg hz]
    cases hm : ng p with
    | true => exact rSign_m w op hz hm
    | false => exact rSign_p w op hz hm

set_option maxHeartbeats 1600000 in
theorem Neg_err1 {s : ByteArray} (w : World) (hs : s.size ≤ 1000000) (hm : ML w) {c : Nat} (hc : rchk s = c) (h0 : c ≠ 0) :
    Calls Tryz.prog 17 #[.string s] w fun e w' => e = .returned (.tuple #[.string ⟨#[]⟩, .int .i64 ((c : Nat) : Int)]) ∧ Below w.heap.size w w' := by
  have HC := Lib.hid (withOne_err (.func (.func 75) #[] #[]) s w hs hm (by rw [hc]; exact h0))
  rw [hc] at HC
  clear hm hs hc h0
  go_enter Tryz.func17, Tryz.ntmps17
  go_wp2_with fail
  refine HC.out.mono ?_
  rintro e w1 ⟨rfl, hb⟩
  have HB := Lib.hid hb
  clear hb HC
  go_wp2_with fail
  go_ret2
  exact ⟨rfl, HB.out⟩

set_option maxHeartbeats 1600000 in
theorem Abs_err1 {s : ByteArray} (w : World) (hs : s.size ≤ 1000000) (hm : ML w) {c : Nat} (hc : rchk s = c) (h0 : c ≠ 0) :
    Calls Tryz.prog 19 #[.string s] w fun e w' => e = .returned (.tuple #[.string ⟨#[]⟩, .int .i64 ((c : Nat) : Int)]) ∧ Below w.heap.size w w' := by
  have HC := Lib.hid (withOne_err (.func (.func 81) #[] #[]) s w hs hm (by rw [hc]; exact h0))
  rw [hc] at HC
  clear hm hs hc h0
  go_enter Tryz.func19, Tryz.ntmps19
  go_wp2_with fail
  refine HC.out.mono ?_
  rintro e w1 ⟨rfl, hb⟩
  have HB := Lib.hid hb
  clear hb HC
  go_wp2_with fail
  go_ret2
  exact ⟨rfl, HB.out⟩

set_option maxHeartbeats 1600000 in
theorem Floor_err1 {s : ByteArray} (w : World) (hs : s.size ≤ 1000000) (hm : ML w) {c : Nat} (hc : rchk s = c) (h0 : c ≠ 0) :
    Calls Tryz.prog 26 #[.string s] w fun e w' => e = .returned (.tuple #[.string ⟨#[]⟩, .int .i64 ((c : Nat) : Int)]) ∧ Below w.heap.size w w' := by
  have HC := Lib.hid (withOne_err (.func (.func 91) #[] #[]) s w hs hm (by rw [hc]; exact h0))
  rw [hc] at HC
  clear hm hs hc h0
  go_enter Tryz.func26, Tryz.ntmps26
  go_wp2_with fail
  refine HC.out.mono ?_
  rintro e w1 ⟨rfl, hb⟩
  have HB := Lib.hid hb
  clear hb HC
  go_wp2_with fail
  go_ret2
  exact ⟨rfl, HB.out⟩

set_option maxHeartbeats 1600000 in
theorem Ceil_err1 {s : ByteArray} (w : World) (hs : s.size ≤ 1000000) (hm : ML w) {c : Nat} (hc : rchk s = c) (h0 : c ≠ 0) :
    Calls Tryz.prog 28 #[.string s] w fun e w' => e = .returned (.tuple #[.string ⟨#[]⟩, .int .i64 ((c : Nat) : Int)]) ∧ Below w.heap.size w w' := by
  have HC := Lib.hid (withOne_err (.func (.func 94) #[] #[]) s w hs hm (by rw [hc]; exact h0))
  rw [hc] at HC
  clear hm hs hc h0
  go_enter Tryz.func28, Tryz.ntmps28
  go_wp2_with fail
  refine HC.out.mono ?_
  rintro e w1 ⟨rfl, hb⟩
  have HB := Lib.hid hb
  clear hb HC
  go_wp2_with fail
  go_ret2
  exact ⟨rfl, HB.out⟩

set_option maxHeartbeats 1600000 in
theorem Sign_err1 {s : ByteArray} (w : World) (hs : s.size ≤ 1000000) (hm : ML w) {c : Nat} (hc : rchk s = c) (h0 : c ≠ 0) :
    Calls Tryz.prog 32 #[.string s] w fun e w' => e = .returned (.tuple #[.int .i64 0, .int .i64 ((c : Nat) : Int)]) ∧ Below w.heap.size w w' := by
  have HC := Lib.hid (withOne_errI (.func (.func 99) #[] #[]) s w hs hm (by rw [hc]; exact h0))
  rw [hc] at HC
  clear hm hs hc h0
  go_enter Tryz.func32, Tryz.ntmps32
  go_wp2_with fail
  refine HC.out.mono ?_
  rintro e w1 ⟨rfl, hb⟩
  have HB := Lib.hid hb
  clear hb HC
  go_wp2_with fail
  go_ret2
  exact ⟨rfl, HB.out⟩

open Go.RowKit NV
open Go.Lib (decDigits)

theorem qq_abs {W : World} {x y : Value} {p : Rat} (h1 : INum W x (tp p)) (h2 : INum W y p.den) : QQ W (.agg #[.bool false, x, y]) (absQ p) := by
  obtain ⟨e1, e2, e3⟩ := abs_parts p
  unfold QQ
  rw [e1, e2, e3]
  exact ⟨x, y, rfl, h1, h2⟩

set_option maxHeartbeats 3200000 in
set_option maxRecDepth 100000 in
theorem rAbs_q {p : Rat} (w : World) (op : QOk p) :
    Calls Tryz.prog 20 #[.string (qstr p)] w (RQ (absQ p) w) := by
  have HT := Lib.hid (rread_q op w)
  have HWR := Lib.hid (fun (W : World) (z : Value) (h : QQ W z (absQ p)) => rwrite_q h ((QL.abs op.ql).mono (by omega)))
  unfold RQ at HWR ⊢
  generalize wQ (absQ p) = T at HWR ⊢
  obtain ⟨t1, t2⟩ := T
  clear op
  generalize qstr p = sp at HT ⊢
  go_enter Tryz.func20, Tryz.ntmps20
  go_wp2_with fail
  refine HT.out.mono ?_
  rintro e w1 ⟨v, rfl, hv, hb1⟩
  obtain ⟨a1, k1, a2, k2, rfl⟩ := hv.form
  obtain ⟨hb2, hq1⟩ := one_newQ w1 false (.slice a1 (ln (tp p)) k1) (.slice a2 (ln p.den) k2)
  have HV := Lib.hid (hv.below hb2)
  have HB := Lib.hid (hb1.trans (hb2.mono hb1.size))
  have HQ1 := Lib.hid hq1
  have hbs := hb1.size
  clear hv hb1 hb2 hq1 HT
  have HA := Lib.hid (HWR.out _ _ (qq_abs HV.out.nums.2.1 HV.out.nums.2.2))
  clear HWR HV
  go_wp2_with fail
  refine HA.out.mono ?_
  rintro e w4 ⟨rfl, hb4⟩
  replace HB := Lib.hid (HB.out.trans (hb4.mono HB.out.size))
  clear hb4 HA
  go_wp2_with fail
  go_ret2
  exact ⟨rfl, HB.out⟩

theorem Inv_err1 {s : ByteArray} (w : World) (hs : s.size ≤ 1000000) (hm : ML w) {c : Nat} (hc : rchk s = c) (h0 : c ≠ 0) :
    Calls Tryz.prog 21 #[.string s] w (E2 c w) := by
  have HD := Lib.hid (Div_err (s := qstr 1) (t := s) w (qsmall one_ok') hs hm (show (if rchk (qstr 1) ≠ 0 then rchk (qstr 1) else rchk s) = c by rw [if_neg (by simp [qstr_chk one_ok']), hc]) h0)
  rw [qstr_one] at HD
  unfold E2 at HD ⊢
  clear hs hm hc h0
  go_enter Tryz.func21, Tryz.ntmps21
  go_wp2_with fail
  refine HD.out.mono ?_
  rintro e w1 ⟨rfl, hb⟩
  have HB := Lib.hid hb
  clear hb HD
  go_wp2_with fail
  go_ret2
  exact ⟨rfl, HB.out⟩

theorem Inv_z {p : Rat} (hp : QOk p) (w : World) (hm : ML w) (h0 : p = 0) :
    Calls Tryz.prog 21 #[.string (qstr p)] w (E2 6 w) := by
  have HD := Lib.hid (Div_z 1 p one_ok' hp w hm h0)
  rw [qstr_one] at HD
  unfold E2 at HD ⊢
  generalize qstr p = s at HD ⊢
  clear hp hm h0
  go_enter Tryz.func21, Tryz.ntmps21
  go_wp2_with fail
  refine HD.out.mono ?_
  rintro e w1 ⟨rfl, hb⟩
  have HB := Lib.hid hb
  clear hb HD
  go_wp2_with fail
  go_ret2
  exact ⟨rfl, HB.out⟩

theorem both_Neg (s : ByteArray) (hs : s.size ≤ 1000000) :
    ∃ T : ByteArray × Nat, (∀ w, Tab w → ML w → Calls Tryz.prog 17 #[.string s] w (PR T w)) ∧ (∀ w, Calls Tryz.prog 18 #[.string s] w (PR T w)) := by
  by_cases h0 : rchk s = 0
  · obtain ⟨p, rfl, op⟩ := rchk_rat h0
    exact ⟨wQ (-p), fun w htab hm => Neg_q p op w htab hm, fun w => rNeg_q w op⟩
  · exact ⟨(⟨#[]⟩, _), fun w _ hm => Neg_err1 w hs hm rfl h0, fun w => rNeg_err1 w (by omega) rfl h0⟩

theorem both_Abs (s : ByteArray) (hs : s.size ≤ 1000000) :
    ∃ T : ByteArray × Nat, (∀ w, Tab w → ML w → Calls Tryz.prog 19 #[.string s] w (PR T w)) ∧ (∀ w, Calls Tryz.prog 20 #[.string s] w (PR T w)) := by
  by_cases h0 : rchk s = 0
  · obtain ⟨p, rfl, op⟩ := rchk_rat h0
    exact ⟨wQ (absQ p), fun w htab hm => Abs_q p op w htab hm, fun w => rAbs_q w op⟩
  · exact ⟨(⟨#[]⟩, _), fun w _ hm => Abs_err1 w hs hm rfl h0, fun w => rAbs_err1 w (by omega) rfl h0⟩

theorem both_Inv (s : ByteArray) (hs : s.size ≤ 1000000) :
    ∃ T : ByteArray × Nat, (∀ w, Tab w → ML w → Calls Tryz.prog 21 #[.string s] w (PR T w)) ∧ (∀ w, Calls Tryz.prog 22 #[.string s] w (PR T w)) := by
  by_cases h0 : rchk s = 0
  · obtain ⟨p, rfl, op⟩ := rchk_rat h0
    by_cases hz : p = 0
    · exact ⟨(⟨#[]⟩, 6), fun w _ hm => Inv_z op w hm hz, fun w => rInv_z w op hz⟩
    · exact ⟨wQ p⁻¹, fun w htab hm => Inv_q p op w htab hm hz _ rfl, fun w => rInv_q w op hz rfl⟩
  · exact ⟨(⟨#[]⟩, _), fun w _ hm => Inv_err1 w hs hm rfl h0, fun w => rInv_err1 w (by omega) rfl h0⟩

theorem both_Sign (s : ByteArray) (hs : s.size ≤ 1000000) :
    ∃ x y : Int, (∀ w, ML w → Calls Tryz.prog 32 #[.string s] w fun e w' => e = .returned (.tuple #[.int .i64 x, .int .i64 y]) ∧ Below w.heap.size w w') ∧
      (∀ w, Calls Tryz.prog 33 #[.string s] w fun e w' => e = .returned (.tuple #[.int .i64 x, .int .i64 y]) ∧ Below w.heap.size w w') := by
  by_cases h0 : rchk s = 0
  · obtain ⟨p, rfl, op⟩ := rchk_rat h0
    exact ⟨sgnQ p, 0, fun w hm => Sign_q p op w hm, fun w => rSign_q w op⟩
  · exact ⟨0, _, fun w hm => Sign_err1 w hs hm rfl h0, fun w => rSign_err1 w (by omega) rfl h0⟩

end Go.Proofs.YtgeohcpmoleocaaGreatDoor
