/-
  rat's Add, Sub, Mul, Div, Neg, Inv of numbers.
-/
import Derived.Test.YtadkijaofmcgfaaGreatDoorP22
namespace Go.Proofs.YtadkijaofmcgfaaGreatDoor
open Go.RowKit NV
open Go.Lib (decDigits)

theorem fq_of {w : World} {v : Value} {q : Rat} (h : FNum w v (minusB (numS (qstr q))) (dv (restS (numS (qstr q))).data.toList) (dv (denS (qstr q)).data.toList)) : FQ w v q := by
  obtain ⟨_, _, h1, _, h2, h3⟩ := qstr_parts q
  exact fnum_of h h1.symm h2.symm h3.symm

theorem qsmall {q : Rat} (h : QOk q) : (qstr q).size ≤ 1000000 := Nat.le_trans (qstr_size h) (by omega)

set_option maxHeartbeats 1600000 in
theorem Add_q (p q : Rat) (hp : QOk p) (hq : QOk q) (w : World) (htab : Tab w) (hm : ML w) :
    Calls Tryz.prog 24 #[.string (qstr p), .string (qstr q)] w (RQ (p + q) w) := by
  have e1 : ∀ args w, (callFunc 87 args).run Tryz.prog w = .ok (.enter 87 args) w := enters_of Tryz.func87 (by kernel_rfl) rfl
  have HC := Lib.hid (withTwo_ok 87 e1 (qstr p) (qstr q) w (qsmall hp) (qsmall hq) hm (ml_pos hm) (qstr_chk hp) (qstr_chk hq) (.string (wQ (p + q)).1) (.int .i64 ((wQ (p + q)).2 : Int))
    (fun W v u hb hv hu => add_clo (fq_of hv) (fq_of hu) hp.ql hq.ql (htab.below hb)))
  clear htab hm hp hq
  go_enter Tryz.func24, Tryz.ntmps24
  go_wp2_with fail
  refine HC.out.mono ?_
  rintro e w1 ⟨rfl, hb⟩
  have HB := Lib.hid hb
  clear hb HC
  go_wp2_with fail
  go_ret2
  exact ⟨rfl, HB.out⟩

set_option maxHeartbeats 1600000 in
theorem Mul_q (p q : Rat) (hp : QOk p) (hq : QOk q) (w : World) (htab : Tab w) (hm : ML w) :
    Calls Tryz.prog 15 #[.string (qstr p), .string (qstr q)] w (RQ (p * q) w) := by
  have e1 : ∀ args w, (callFunc 66 args).run Tryz.prog w = .ok (.enter 66 args) w := enters_of Tryz.func66 (by kernel_rfl) rfl
  have HC := Lib.hid (withTwo_ok 66 e1 (qstr p) (qstr q) w (qsmall hp) (qsmall hq) hm (ml_pos hm) (qstr_chk hp) (qstr_chk hq) (.string (wQ (p * q)).1) (.int .i64 ((wQ (p * q)).2 : Int))
    (fun W v u hb hv hu => mul_clo (fq_of hv) (fq_of hu) hp.ql hq.ql (htab.below hb)))
  clear htab hm hp hq
  go_enter Tryz.func15, Tryz.ntmps15
  go_wp2_with fail
  refine HC.out.mono ?_
  rintro e w1 ⟨rfl, hb⟩
  have HB := Lib.hid hb
  clear hb HC
  go_wp2_with fail
  go_ret2
  exact ⟨rfl, HB.out⟩

set_option maxHeartbeats 1600000 in
theorem Sub_q (p q : Rat) (hp : QOk p) (hq : QOk q) (w : World) (htab : Tab w) (hm : ML w) :
    Calls Tryz.prog 14 #[.string (qstr p), .string (qstr q)] w (RQ (p + -q) w) := by
  have e1 : ∀ args w, (callFunc 62 args).run Tryz.prog w = .ok (.enter 62 args) w := enters_of Tryz.func62 (by kernel_rfl) rfl
  have HC := Lib.hid (withTwo_ok 62 e1 (qstr p) (qstr q) w (qsmall hp) (qsmall hq) hm (ml_pos hm) (qstr_chk hp) (qstr_chk hq) (.string (wQ (p + -q)).1) (.int .i64 ((wQ (p + -q)).2 : Int))
    (fun W v u hb hv hu => sub_clo (fq_of hv) (fq_of hu) hp.ql hq.ql (htab.below hb)))
  clear htab hm hp hq
  go_enter Tryz.func14, Tryz.ntmps14
  go_wp2_with fail
  refine HC.out.mono ?_
  rintro e w1 ⟨rfl, hb⟩
  have HB := Lib.hid hb
  clear hb HC
  go_wp2_with fail
  go_ret2
  exact ⟨rfl, HB.out⟩

set_option maxHeartbeats 1600000 in
theorem Div_q (p q : Rat) (hp : QOk p) (hq : QOk q) (w : World) (htab : Tab w) (hm : ML w) (h0 : q ≠ 0) (r : Rat) (hr : r = q⁻¹) :
    Calls Tryz.prog 16 #[.string (qstr p), .string (qstr q)] w (RQ (p * r) w) := by
  have e1 : ∀ args w, (callFunc 68 args).run Tryz.prog w = .ok (.enter 68 args) w := enters_of Tryz.func68 (by kernel_rfl) rfl
  have HC := Lib.hid (withTwo_ok 68 e1 (qstr p) (qstr q) w (qsmall hp) (qsmall hq) hm (ml_pos hm) (qstr_chk hp) (qstr_chk hq) (.string (wQ (p * r)).1) (.int .i64 ((wQ (p * r)).2 : Int))
    (fun W v u hb hv hu => div_clo (fq_of hv) (fq_of hu) hp.ql hq.ql (htab.below hb) h0 r hr))
  clear htab hm hp hq h0 hr
  go_enter Tryz.func16, Tryz.ntmps16
  go_wp2_with fail
  refine HC.out.mono ?_
  rintro e w1 ⟨rfl, hb⟩
  have HB := Lib.hid hb
  clear hb HC
  go_wp2_with fail
  go_ret2
  exact ⟨rfl, HB.out⟩

set_option maxHeartbeats 1600000 in
theorem Neg_q (p : Rat) (hp : QOk p) (w : World) (htab : Tab w) (hm : ML w) :
    Calls Tryz.prog 39 #[.string (qstr p)] w (RQ (-p) w) := by
  have e1 : ∀ args w, (callFunc 103 args).run Tryz.prog w = .ok (.enter 103 args) w := enters_of Tryz.func103 (by kernel_rfl) rfl
  have HC := Lib.hid (withOne_ok 103 #[] e1 (qstr p) w (qsmall hp) hm (qstr_chk hp) (.string (wQ (-p)).1) (.int .i64 ((wQ (-p)).2 : Int))
    (fun W v hb hv => neg_clo (fq_of hv) hp.ql (htab.below hb)))
  clear htab hm hp
  go_enter Tryz.func39, Tryz.ntmps39
  go_wp2_with fail
  refine HC.out.mono ?_
  rintro e w1 ⟨rfl, hb⟩
  have HB := Lib.hid hb
  clear hb HC
  go_wp2_with fail
  go_ret2
  exact ⟨rfl, HB.out⟩

theorem one_ok' : QOk 1 := ⟨one_ok, one_ok⟩
theorem zero_ok' : QOk 0 := ⟨zero_ok, one_ok⟩
theorem dstr_one : dstr 1 = ⟨#[49]⟩ := by rw [dstr, dec_one]
theorem dstr_zero : dstr 0 = ⟨#[48]⟩ := by rw [dstr, dec_small (by omega)]; rfl
theorem qstr_one : qstr 1 = ⟨#[49]⟩ := by
  unfold qstr rstr
  rw [show (1 : Rat).den = 1 from rfl, show ng 1 = false from rfl, show tp 1 = 1 from rfl, if_pos rfl, if_neg (by simp), dstr_one]
theorem qstr_zero : qstr 0 = ⟨#[48]⟩ := by
  unfold qstr rstr
  rw [show (0 : Rat).den = 1 from rfl, show ng 0 = false from rfl, show tp 0 = 0 from rfl, if_pos rfl, if_neg (by simp), dstr_zero]

set_option maxHeartbeats 1600000 in
theorem Inv_q (q : Rat) (hq : QOk q) (w : World) (htab : Tab w) (hm : ML w) (h0 : q ≠ 0) (r : Rat) (hr : r = q⁻¹) :
    Calls Tryz.prog 25 #[.string (qstr q)] w (RQ r w) := by
  have HD := Lib.hid (Div_q 1 q one_ok' hq w htab hm h0 r hr)
  rw [qstr_one, Rat.one_mul] at HD
  clear htab hm hq h0 hr
  go_enter Tryz.func25, Tryz.ntmps25
  go_wp2_with fail
  refine HD.out.mono ?_
  rintro e w1 ⟨rfl, hb⟩
  have HB := Lib.hid hb
  clear hb HD
  go_wp2_with fail
  go_ret2
  exact ⟨rfl, HB.out⟩

end Go.Proofs.YtadkijaofmcgfaaGreatDoor
