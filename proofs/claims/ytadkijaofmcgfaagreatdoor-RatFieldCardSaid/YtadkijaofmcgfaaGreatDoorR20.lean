/-
  RatField returns true for any three texts.
-/
import Derived.Test.YtadkijaofmcgfaaGreatDoorL2
namespace Go.Proofs.YtadkijaofmcgfaaGreatDoor
open Go.RowKit NV
open Go.Lib (decDigits)

set_option maxHeartbeats 3200000 in
set_option maxRecDepth 100000 in
theorem field_no (s t u : ByteArray) (w : World) (htab : Tab w) (hm : ML w) (hs : s.size ≤ 140737488351232) (ht : t.size ≤ 140737488351232) (hu : u.size ≤ 140737488351232) (hv : allV2 300 [s, t, u] = false) :
    Calls Tryz.prog 6 #[.string s, .string t, .string u] w fun e w' => e = .returned (.bool true) ∧ Below w.heap.size w w' := by
  have HL := Lib.hid (lives2_any w htab hm)
  have HV := Lib.hid (fun (W : World) => valid2_any (W.alloc (.cells #[.string s, .string t, .string u] 23)) W.heap.size 300 [s, t, u] (by simp) (by simp) (by omega) (by intro x hx; simp at hx; rcases hx with rfl | rfl | rfl <;> assumption) (three_cells s t u _))
  rw [hv] at HV
  clear htab hm hv
  go_enter Tryz.func6, Tryz.ntmps6
  go_wp2_with fail
  refine HL.out.mono ?_
  rintro e w1 ⟨rfl, hb1⟩
  have HB1 := Lib.hid hb1
  clear hb1
  go_wp2_with fail
  refine (HV.out w1).mono ?_
  rintro e w2 ⟨rfl, hb2⟩
  have hb3 := HB1.out.alloc HB1.out.size (.cells #[.string s, .string t, .string u] 23)
  have HB2 := Lib.hid (hb3.trans (hb2.mono hb3.size))
  clear hb2 hb3
  go_wp2_with fail
  go_ret
  exact ⟨rfl, HB2.out⟩

theorem check_q {q : Rat} (h : QOk q) (w : World) : Calls Tryz.prog 49 #[.string (qstr q)] w fun e w' => e = .returned (.int .i64 0) ∧ Below w.heap.size w w' := by
  have := rcheck_any (qstr q) w (Nat.le_trans (qstr_size h) (by omega))
  rw [qstr_chk h] at this
  exact this

set_option maxHeartbeats 12800000 in
set_option maxRecDepth 100000 in
theorem field_yes (a b c : Rat) (w : World) (htab : Tab w) (hm : ML w) (hv : allV2 300 [qstr a, qstr b, qstr c] = true) (hA : Sz 300 a) (hB : Sz 300 b) (hC : Sz 300 c) (h0 : b ≠ 0) :
    Calls Tryz.prog 6 #[.string (qstr a), .string (qstr b), .string (qstr c)] w fun e w' => e = .returned (.bool true) ∧ Below w.heap.size w w' := by
  have ok_a : QOk (a) := hA.qok (by omega) (by omega)
  have ok_b : QOk (b) := hB.qok (by omega) (by omega)
  have ok_c : QOk (c) := hC.qok (by omega) (by omega)
  have ok_ab : QOk (a + b) := (hA.add hB).qok (by omega) (by omega)
  have ok_mab : QOk (a * b) := (hA.mul hB).qok (by omega) (by omega)
  have ok_na : QOk (-a) := hA.neg.qok (by omega) (by omega)
  have ok_z : QOk (0) := zero_ok'
  have ok_o : QOk (1) := one_ok'
  have ok_bc : QOk (b + c) := (hB.add hC).qok (by omega) (by omega)
  have ok_abc : QOk (a + b + c) := ((hA.add hB).add hC).qok (by omega) (by omega)
  have ok_mbc : QOk (b * c) := (hB.mul hC).qok (by omega) (by omega)
  have ok_mabc : QOk (a * b * c) := ((hA.mul hB).mul hC).qok (by omega) (by omega)
  have ok_mac : QOk (a * c) := (hA.mul hC).qok (by omega) (by omega)
  have ok_s : QOk (a * b + a * c) := ((hA.mul hB).add (hA.mul hC)).qok (by omega) (by omega)
  have ok_inv : QOk b⁻¹ := hB.inv.qok (by omega) (by omega)
  have HL := Lib.hid (lives2_any w htab hm)
  have HV := Lib.hid (fun (W : World) => valid2_any (W.alloc (.cells #[.string (qstr a), .string (qstr b), .string (qstr c)] 23)) W.heap.size 300 [qstr a, qstr b, qstr c] (by simp) (by simp) (by omega) (by intro x hx; simp at hx; rcases hx with rfl | rfl | rfl <;> exact Nat.le_trans (qstr_size (by assumption)) (by omega)) (three_cells _ _ _ _))
  rw [hv] at HV
  have I1 := Lib.hid (fun W (h : Below w.heap.size w W) => rq_done (r := a + b) (Add_q (a) (b) ok_a ok_b W (htab.below h) (ml_keep hm (ml_pos hm) h)) rfl ok_ab)
  have I2 := Lib.hid (fun W (h : Below w.heap.size w W) => rq_done (r := a * b) (Mul_q (a) (b) ok_a ok_b W (htab.below h) (ml_keep hm (ml_pos hm) h)) rfl ok_mab)
  have I3 := Lib.hid (fun W (h : Below w.heap.size w W) => rq_done (r := a) (Sub_q (a + b) b ok_ab ok_b W (htab.below h) (ml_keep hm (ml_pos hm) h)) (by rw [Rat.add_assoc, Rat.add_neg_cancel, Rat.add_zero]) ok_a)
  have I4 := Lib.hid (fun W (h : Below w.heap.size w W) => rq_done (r := -a) (Neg_q a ok_a W (htab.below h) (ml_keep hm (ml_pos hm) h)) rfl ok_na)
  have I5 := Lib.hid (fun W (h : Below w.heap.size w W) => sum_of (rq_done (r := 0) (Add_q (a) (-a) ok_a ok_na W (htab.below h) (ml_keep hm (ml_pos hm) h)) (Rat.add_neg_cancel a) ok_z))
  have I6 := Lib.hid (fun W (h : Below w.heap.size w W) => sum_of (rq_done (r := a) (Add_q (a) (0) ok_a ok_z W (htab.below h) (ml_keep hm (ml_pos hm) h)) (Rat.add_zero a) ok_a))
  have I7 := Lib.hid (fun W (h : Below w.heap.size w W) => product_of (rq_done (r := a) (Mul_q (a) (1) ok_a ok_o W (htab.below h) (ml_keep hm (ml_pos hm) h)) (Rat.mul_one a) ok_a))
  have I8 := Lib.hid (fun W (h : Below w.heap.size w W) => rq_done (r := a) (Div_q (a * b) b ok_mab ok_b W (htab.below h) (ml_keep hm (ml_pos hm) h) h0 b⁻¹ rfl) (by rw [Rat.mul_assoc, Rat.mul_inv_cancel b h0, Rat.mul_one]) ok_a)
  have I9 := Lib.hid (fun W (h : Below w.heap.size w W) => rq_done (r := b⁻¹) (Inv_q b ok_b W (htab.below h) (ml_keep hm (ml_pos hm) h) h0 b⁻¹ rfl) rfl ok_inv)
  have I10 := Lib.hid (fun W (h : Below w.heap.size w W) => product_of (rq_done (r := 1) (Mul_q b b⁻¹ ok_b ok_inv W (htab.below h) (ml_keep hm (ml_pos hm) h)) (Rat.mul_inv_cancel b h0) ok_o))
  have J1 := Lib.hid (fun W (h : Below w.heap.size w W) => sum_of (rq_done (r := a + b) (Add_q (b) (a) ok_b ok_a W (htab.below h) (ml_keep hm (ml_pos hm) h)) (Rat.add_comm b a) ok_ab))
  have J2 := Lib.hid (fun W (h : Below w.heap.size w W) => sum_of (rq_done (r := a + b + c) (Add_q (a + b) (c) ok_ab ok_c W (htab.below h) (ml_keep hm (ml_pos hm) h)) rfl ok_abc))
  have J3 := Lib.hid (fun W (h : Below w.heap.size w W) => sum_of (rq_done (r := b + c) (Add_q (b) (c) ok_b ok_c W (htab.below h) (ml_keep hm (ml_pos hm) h)) rfl ok_bc))
  have J4 := Lib.hid (fun W (h : Below w.heap.size w W) => sum_of (rq_done (r := a + b + c) (Add_q (a) (b + c) ok_a ok_bc W (htab.below h) (ml_keep hm (ml_pos hm) h)) (Rat.add_assoc a b c).symm ok_abc))
  have J5 := Lib.hid (fun W (h : Below w.heap.size w W) => product_of (rq_done (r := a * b) (Mul_q (b) (a) ok_b ok_a W (htab.below h) (ml_keep hm (ml_pos hm) h)) (Rat.mul_comm b a) ok_mab))
  have J6 := Lib.hid (fun W (h : Below w.heap.size w W) => product_of (rq_done (r := a * b * c) (Mul_q (a * b) (c) ok_mab ok_c W (htab.below h) (ml_keep hm (ml_pos hm) h)) rfl ok_mabc))
  have J7 := Lib.hid (fun W (h : Below w.heap.size w W) => product_of (rq_done (r := b * c) (Mul_q (b) (c) ok_b ok_c W (htab.below h) (ml_keep hm (ml_pos hm) h)) rfl ok_mbc))
  have J8 := Lib.hid (fun W (h : Below w.heap.size w W) => product_of (rq_done (r := a * b * c) (Mul_q (a) (b * c) ok_a ok_mbc W (htab.below h) (ml_keep hm (ml_pos hm) h)) (Rat.mul_assoc a b c).symm ok_mabc))
  have J9 := Lib.hid (fun W (h : Below w.heap.size w W) => sum_of (rq_done (r := b + c) (Add_q (b) (c) ok_b ok_c W (htab.below h) (ml_keep hm (ml_pos hm) h)) rfl ok_bc))
  have J10 := Lib.hid (fun W (h : Below w.heap.size w W) => product_of (rq_done (r := a * b + a * c) (Mul_q (a) (b + c) ok_a ok_bc W (htab.below h) (ml_keep hm (ml_pos hm) h)) (Rat.mul_add a b c) ok_s))
  have J11 := Lib.hid (fun W (h : Below w.heap.size w W) => product_of (rq_done (r := a * c) (Mul_q (a) (c) ok_a ok_c W (htab.below h) (ml_keep hm (ml_pos hm) h)) rfl ok_mac))
  have J12 := Lib.hid (fun W (h : Below w.heap.size w W) => sum_of (rq_done (r := a * b + a * c) (Add_q (a * b) (a * c) ok_mab ok_mac W (htab.below h) (ml_keep hm (ml_pos hm) h)) rfl ok_s))
  have J13 := Lib.hid (fun W (h : Below w.heap.size w W) => check_q ok_ab W)
  have J14 := Lib.hid (fun W (h : Below w.heap.size w W) => check_q ok_mab W)
  have hb0 : ((qstr b).toList == [48]) = false := by
    rw [toList_eq, decide_eq_false]
    intro e
    exact h0 (qstr_inj (ba_ext (by rw [e, qstr_zero])))
  have hz0 := lit_eq [48] (qstr 0) (by rw [qstr_zero])
  have hz1 := lit_eq [49] (qstr 1) (by rw [qstr_one])
  rw [show (qstr 0) = ⟨#[48]⟩ from qstr_zero] at I6
  rw [show (qstr 1) = ⟨#[49]⟩ from qstr_one] at I7
  generalize qstr (a * b + a * c) = ts at *
  generalize qstr (a * b * c) = tmabc at *
  generalize qstr (a + b + c) = tabc at *
  generalize qstr (a + b) = tab at *
  generalize qstr (a * b) = tmab at *
  generalize qstr (b + c) = tbc at *
  generalize qstr (b * c) = tmbc at *
  generalize qstr (a * c) = tmac at *
  generalize qstr (-a) = tna at *
  generalize qstr (b⁻¹) = tinv at *
  generalize qstr (a) = ta at *
  generalize qstr (b) = tb at *
  generalize qstr (c) = tc at *
  generalize qstr (0) = t0 at *
  generalize qstr (1) = t1 at *
  have HB := Lib.hid (Below.refl w.heap.size w)
  clear htab hm hv hA hB hC h0 ok_a ok_b ok_c ok_ab ok_mab ok_na ok_z ok_o ok_bc ok_abc ok_mbc ok_mabc ok_mac ok_s ok_inv
  go_enter Tryz.func6, Tryz.ntmps6
  go_wp2_with fail
  refine HL.out.mono ?_
  rintro e w1 ⟨rfl, hb1⟩
  replace HB := Lib.hid (HB.out.trans (hb1.mono HB.out.size))
  clear hb1 HL
  go_wp2_with fail
  refine (HV.out w1).mono ?_
  rintro e w2 ⟨rfl, hb2⟩
  have hb3 := HB.out.alloc HB.out.size (.cells #[.string ta, .string tb, .string tc] 23)
  replace HB := Lib.hid (hb3.trans (hb2.mono hb3.size))
  clear hb2 hb3 HV
  go_wp2_with fail
  refine (I1.out _ HB.out).mono ?_
  rintro e u0 ⟨rfl, hb⟩
  replace HB := Lib.hid (HB.out.trans (hb.mono HB.out.size))
  clear hb I1
  go_wp2_with fail
  refine (I2.out _ HB.out).mono ?_
  rintro e u1 ⟨rfl, hb⟩
  replace HB := Lib.hid (HB.out.trans (hb.mono HB.out.size))
  clear hb I2
  go_wp2_with fail
  refine (I3.out _ HB.out).mono ?_
  rintro e u2 ⟨rfl, hb⟩
  replace HB := Lib.hid (HB.out.trans (hb.mono HB.out.size))
  clear hb I3
  go_wp2_with fail
  refine (I4.out _ HB.out).mono ?_
  rintro e u3 ⟨rfl, hb⟩
  replace HB := Lib.hid (HB.out.trans (hb.mono HB.out.size))
  clear hb I4
  go_wp2_with fail
  refine (I5.out _ HB.out).mono ?_
  rintro e u4 ⟨rfl, hb⟩
  replace HB := Lib.hid (HB.out.trans (hb.mono HB.out.size))
  clear hb I5
  go_wp2_with fail
  refine (I6.out _ HB.out).mono ?_
  rintro e u5 ⟨rfl, hb⟩
  replace HB := Lib.hid (HB.out.trans (hb.mono HB.out.size))
  clear hb I6
  go_wp2_with fail
  refine (I7.out _ HB.out).mono ?_
  rintro e u6 ⟨rfl, hb⟩
  replace HB := Lib.hid (HB.out.trans (hb.mono HB.out.size))
  clear hb I7
  go_wp2_with fail
  refine (I8.out _ HB.out).mono ?_
  rintro e u7 ⟨rfl, hb⟩
  replace HB := Lib.hid (HB.out.trans (hb.mono HB.out.size))
  clear hb I8
  go_wp2_with fail
  refine (I9.out _ HB.out).mono ?_
  rintro e u8 ⟨rfl, hb⟩
  replace HB := Lib.hid (HB.out.trans (hb.mono HB.out.size))
  clear hb I9
  go_wp2_with fail
  refine (I10.out _ HB.out).mono ?_
  rintro e u9 ⟨rfl, hb⟩
  replace HB := Lib.hid (HB.out.trans (hb.mono HB.out.size))
  clear hb I10
  go_wp2_with fail
  refine (J1.out _ HB.out).mono ?_
  rintro e u10 ⟨rfl, hb⟩
  replace HB := Lib.hid (HB.out.trans (hb.mono HB.out.size))
  clear hb J1
  go_wp2_with fail
  refine (J2.out _ HB.out).mono ?_
  rintro e u11 ⟨rfl, hb⟩
  replace HB := Lib.hid (HB.out.trans (hb.mono HB.out.size))
  clear hb J2
  go_wp2_with fail
  refine (J3.out _ HB.out).mono ?_
  rintro e u12 ⟨rfl, hb⟩
  replace HB := Lib.hid (HB.out.trans (hb.mono HB.out.size))
  clear hb J3
  go_wp2_with fail
  refine (J4.out _ HB.out).mono ?_
  rintro e u13 ⟨rfl, hb⟩
  replace HB := Lib.hid (HB.out.trans (hb.mono HB.out.size))
  clear hb J4
  go_wp2_with fail
  refine (J5.out _ HB.out).mono ?_
  rintro e u14 ⟨rfl, hb⟩
  replace HB := Lib.hid (HB.out.trans (hb.mono HB.out.size))
  clear hb J5
  go_wp2_with fail
  refine (J6.out _ HB.out).mono ?_
  rintro e u15 ⟨rfl, hb⟩
  replace HB := Lib.hid (HB.out.trans (hb.mono HB.out.size))
  clear hb J6
  go_wp2_with fail
  refine (J7.out _ HB.out).mono ?_
  rintro e u16 ⟨rfl, hb⟩
  replace HB := Lib.hid (HB.out.trans (hb.mono HB.out.size))
  clear hb J7
  go_wp2_with fail
  refine (J8.out _ HB.out).mono ?_
  rintro e u17 ⟨rfl, hb⟩
  replace HB := Lib.hid (HB.out.trans (hb.mono HB.out.size))
  clear hb J8
  go_wp2_with fail
  refine (J9.out _ HB.out).mono ?_
  rintro e u18 ⟨rfl, hb⟩
  replace HB := Lib.hid (HB.out.trans (hb.mono HB.out.size))
  clear hb J9
  go_wp2_with fail
  refine (J10.out _ HB.out).mono ?_
  rintro e u19 ⟨rfl, hb⟩
  replace HB := Lib.hid (HB.out.trans (hb.mono HB.out.size))
  clear hb J10
  go_wp2_with fail
  refine (J11.out _ HB.out).mono ?_
  rintro e u20 ⟨rfl, hb⟩
  replace HB := Lib.hid (HB.out.trans (hb.mono HB.out.size))
  clear hb J11
  go_wp2_with fail
  refine (J12.out _ HB.out).mono ?_
  rintro e u21 ⟨rfl, hb⟩
  replace HB := Lib.hid (HB.out.trans (hb.mono HB.out.size))
  clear hb J12
  go_wp2_with fail
  refine (J13.out _ HB.out).mono ?_
  rintro e u22 ⟨rfl, hb⟩
  replace HB := Lib.hid (HB.out.trans (hb.mono HB.out.size))
  clear hb J13
  go_wp2_with fail
  refine (J14.out _ HB.out).mono ?_
  rintro e u23 ⟨rfl, hb⟩
  replace HB := Lib.hid (HB.out.trans (hb.mono HB.out.size))
  clear hb J14
  go_wp2_with fail
  go_ret
  exact ⟨rfl, HB.out⟩

set_option maxHeartbeats 12800000 in
set_option maxRecDepth 100000 in
theorem field_zero (a b c : Rat) (w : World) (htab : Tab w) (hm : ML w) (hv : allV2 300 [qstr a, qstr b, qstr c] = true) (hA : Sz 300 a) (hB : Sz 300 b) (hC : Sz 300 c) (h0 : b = 0) :
    Calls Tryz.prog 6 #[.string (qstr a), .string (qstr b), .string (qstr c)] w fun e w' => e = .returned (.bool true) ∧ Below w.heap.size w w' := by
  have ok_a : QOk (a) := hA.qok (by omega) (by omega)
  have ok_b : QOk (b) := hB.qok (by omega) (by omega)
  have ok_c : QOk (c) := hC.qok (by omega) (by omega)
  have ok_ab : QOk (a + b) := (hA.add hB).qok (by omega) (by omega)
  have ok_mab : QOk (a * b) := (hA.mul hB).qok (by omega) (by omega)
  have ok_na : QOk (-a) := hA.neg.qok (by omega) (by omega)
  have ok_z : QOk (0) := zero_ok'
  have ok_o : QOk (1) := one_ok'
  have ok_bc : QOk (b + c) := (hB.add hC).qok (by omega) (by omega)
  have ok_abc : QOk (a + b + c) := ((hA.add hB).add hC).qok (by omega) (by omega)
  have ok_mbc : QOk (b * c) := (hB.mul hC).qok (by omega) (by omega)
  have ok_mabc : QOk (a * b * c) := ((hA.mul hB).mul hC).qok (by omega) (by omega)
  have ok_mac : QOk (a * c) := (hA.mul hC).qok (by omega) (by omega)
  have ok_s : QOk (a * b + a * c) := ((hA.mul hB).add (hA.mul hC)).qok (by omega) (by omega)
  have HL := Lib.hid (lives2_any w htab hm)
  have HV := Lib.hid (fun (W : World) => valid2_any (W.alloc (.cells #[.string (qstr a), .string (qstr b), .string (qstr c)] 23)) W.heap.size 300 [qstr a, qstr b, qstr c] (by simp) (by simp) (by omega) (by intro x hx; simp at hx; rcases hx with rfl | rfl | rfl <;> exact Nat.le_trans (qstr_size (by assumption)) (by omega)) (three_cells _ _ _ _))
  rw [hv] at HV
  have I1 := Lib.hid (fun W (h : Below w.heap.size w W) => rq_done (r := a + b) (Add_q (a) (b) ok_a ok_b W (htab.below h) (ml_keep hm (ml_pos hm) h)) rfl ok_ab)
  have I2 := Lib.hid (fun W (h : Below w.heap.size w W) => rq_done (r := a * b) (Mul_q (a) (b) ok_a ok_b W (htab.below h) (ml_keep hm (ml_pos hm) h)) rfl ok_mab)
  have I3 := Lib.hid (fun W (h : Below w.heap.size w W) => rq_done (r := a) (Sub_q (a + b) b ok_ab ok_b W (htab.below h) (ml_keep hm (ml_pos hm) h)) (by rw [Rat.add_assoc, Rat.add_neg_cancel, Rat.add_zero]) ok_a)
  have I4 := Lib.hid (fun W (h : Below w.heap.size w W) => rq_done (r := -a) (Neg_q a ok_a W (htab.below h) (ml_keep hm (ml_pos hm) h)) rfl ok_na)
  have I5 := Lib.hid (fun W (h : Below w.heap.size w W) => sum_of (rq_done (r := 0) (Add_q (a) (-a) ok_a ok_na W (htab.below h) (ml_keep hm (ml_pos hm) h)) (Rat.add_neg_cancel a) ok_z))
  have I6 := Lib.hid (fun W (h : Below w.heap.size w W) => sum_of (rq_done (r := a) (Add_q (a) (0) ok_a ok_z W (htab.below h) (ml_keep hm (ml_pos hm) h)) (Rat.add_zero a) ok_a))
  have I7 := Lib.hid (fun W (h : Below w.heap.size w W) => product_of (rq_done (r := a) (Mul_q (a) (1) ok_a ok_o W (htab.below h) (ml_keep hm (ml_pos hm) h)) (Rat.mul_one a) ok_a))
  have J1 := Lib.hid (fun W (h : Below w.heap.size w W) => sum_of (rq_done (r := a + b) (Add_q (b) (a) ok_b ok_a W (htab.below h) (ml_keep hm (ml_pos hm) h)) (Rat.add_comm b a) ok_ab))
  have J2 := Lib.hid (fun W (h : Below w.heap.size w W) => sum_of (rq_done (r := a + b + c) (Add_q (a + b) (c) ok_ab ok_c W (htab.below h) (ml_keep hm (ml_pos hm) h)) rfl ok_abc))
  have J3 := Lib.hid (fun W (h : Below w.heap.size w W) => sum_of (rq_done (r := b + c) (Add_q (b) (c) ok_b ok_c W (htab.below h) (ml_keep hm (ml_pos hm) h)) rfl ok_bc))
  have J4 := Lib.hid (fun W (h : Below w.heap.size w W) => sum_of (rq_done (r := a + b + c) (Add_q (a) (b + c) ok_a ok_bc W (htab.below h) (ml_keep hm (ml_pos hm) h)) (Rat.add_assoc a b c).symm ok_abc))
  have J5 := Lib.hid (fun W (h : Below w.heap.size w W) => product_of (rq_done (r := a * b) (Mul_q (b) (a) ok_b ok_a W (htab.below h) (ml_keep hm (ml_pos hm) h)) (Rat.mul_comm b a) ok_mab))
  have J6 := Lib.hid (fun W (h : Below w.heap.size w W) => product_of (rq_done (r := a * b * c) (Mul_q (a * b) (c) ok_mab ok_c W (htab.below h) (ml_keep hm (ml_pos hm) h)) rfl ok_mabc))
  have J7 := Lib.hid (fun W (h : Below w.heap.size w W) => product_of (rq_done (r := b * c) (Mul_q (b) (c) ok_b ok_c W (htab.below h) (ml_keep hm (ml_pos hm) h)) rfl ok_mbc))
  have J8 := Lib.hid (fun W (h : Below w.heap.size w W) => product_of (rq_done (r := a * b * c) (Mul_q (a) (b * c) ok_a ok_mbc W (htab.below h) (ml_keep hm (ml_pos hm) h)) (Rat.mul_assoc a b c).symm ok_mabc))
  have J9 := Lib.hid (fun W (h : Below w.heap.size w W) => sum_of (rq_done (r := b + c) (Add_q (b) (c) ok_b ok_c W (htab.below h) (ml_keep hm (ml_pos hm) h)) rfl ok_bc))
  have J10 := Lib.hid (fun W (h : Below w.heap.size w W) => product_of (rq_done (r := a * b + a * c) (Mul_q (a) (b + c) ok_a ok_bc W (htab.below h) (ml_keep hm (ml_pos hm) h)) (Rat.mul_add a b c) ok_s))
  have J11 := Lib.hid (fun W (h : Below w.heap.size w W) => product_of (rq_done (r := a * c) (Mul_q (a) (c) ok_a ok_c W (htab.below h) (ml_keep hm (ml_pos hm) h)) rfl ok_mac))
  have J12 := Lib.hid (fun W (h : Below w.heap.size w W) => sum_of (rq_done (r := a * b + a * c) (Add_q (a * b) (a * c) ok_mab ok_mac W (htab.below h) (ml_keep hm (ml_pos hm) h)) rfl ok_s))
  have J13 := Lib.hid (fun W (h : Below w.heap.size w W) => check_q ok_ab W)
  have J14 := Lib.hid (fun W (h : Below w.heap.size w W) => check_q ok_mab W)
  have hb0 : ((qstr b).toList == [48]) = true := by
    exact lit_eq [48] _ (by rw [h0, qstr_zero])
  have hz0 := lit_eq [48] (qstr 0) (by rw [qstr_zero])
  have hz1 := lit_eq [49] (qstr 1) (by rw [qstr_one])
  rw [show (qstr 0) = ⟨#[48]⟩ from qstr_zero] at I6
  rw [show (qstr 1) = ⟨#[49]⟩ from qstr_one] at I7
  generalize qstr (a * b + a * c) = ts at *
  generalize qstr (a * b * c) = tmabc at *
  generalize qstr (a + b + c) = tabc at *
  generalize qstr (a + b) = tab at *
  generalize qstr (a * b) = tmab at *
  generalize qstr (b + c) = tbc at *
  generalize qstr (b * c) = tmbc at *
  generalize qstr (a * c) = tmac at *
  generalize qstr (-a) = tna at *
  generalize qstr (a) = ta at *
  generalize qstr (b) = tb at *
  generalize qstr (c) = tc at *
  generalize qstr (0) = t0 at *
  generalize qstr (1) = t1 at *
  have HB := Lib.hid (Below.refl w.heap.size w)
  clear htab hm hv hA hB hC h0 ok_a ok_b ok_c ok_ab ok_mab ok_na ok_z ok_o ok_bc ok_abc ok_mbc ok_mabc ok_mac ok_s
  go_enter Tryz.func6, Tryz.ntmps6
  go_wp2_with fail
  refine HL.out.mono ?_
  rintro e w1 ⟨rfl, hb1⟩
  replace HB := Lib.hid (HB.out.trans (hb1.mono HB.out.size))
  clear hb1 HL
  go_wp2_with fail
  refine (HV.out w1).mono ?_
  rintro e w2 ⟨rfl, hb2⟩
  have hb3 := HB.out.alloc HB.out.size (.cells #[.string ta, .string tb, .string tc] 23)
  replace HB := Lib.hid (hb3.trans (hb2.mono hb3.size))
  clear hb2 hb3 HV
  go_wp2_with fail
  refine (I1.out _ HB.out).mono ?_
  rintro e u0 ⟨rfl, hb⟩
  replace HB := Lib.hid (HB.out.trans (hb.mono HB.out.size))
  clear hb I1
  go_wp2_with fail
  refine (I2.out _ HB.out).mono ?_
  rintro e u1 ⟨rfl, hb⟩
  replace HB := Lib.hid (HB.out.trans (hb.mono HB.out.size))
  clear hb I2
  go_wp2_with fail
  refine (I3.out _ HB.out).mono ?_
  rintro e u2 ⟨rfl, hb⟩
  replace HB := Lib.hid (HB.out.trans (hb.mono HB.out.size))
  clear hb I3
  go_wp2_with fail
  refine (I4.out _ HB.out).mono ?_
  rintro e u3 ⟨rfl, hb⟩
  replace HB := Lib.hid (HB.out.trans (hb.mono HB.out.size))
  clear hb I4
  go_wp2_with fail
  refine (I5.out _ HB.out).mono ?_
  rintro e u4 ⟨rfl, hb⟩
  replace HB := Lib.hid (HB.out.trans (hb.mono HB.out.size))
  clear hb I5
  go_wp2_with fail
  refine (I6.out _ HB.out).mono ?_
  rintro e u5 ⟨rfl, hb⟩
  replace HB := Lib.hid (HB.out.trans (hb.mono HB.out.size))
  clear hb I6
  go_wp2_with fail
  refine (I7.out _ HB.out).mono ?_
  rintro e u6 ⟨rfl, hb⟩
  replace HB := Lib.hid (HB.out.trans (hb.mono HB.out.size))
  clear hb I7
  go_wp2_with fail
  refine (J1.out _ HB.out).mono ?_
  rintro e u7 ⟨rfl, hb⟩
  replace HB := Lib.hid (HB.out.trans (hb.mono HB.out.size))
  clear hb J1
  go_wp2_with fail
  refine (J2.out _ HB.out).mono ?_
  rintro e u8 ⟨rfl, hb⟩
  replace HB := Lib.hid (HB.out.trans (hb.mono HB.out.size))
  clear hb J2
  go_wp2_with fail
  refine (J3.out _ HB.out).mono ?_
  rintro e u9 ⟨rfl, hb⟩
  replace HB := Lib.hid (HB.out.trans (hb.mono HB.out.size))
  clear hb J3
  go_wp2_with fail
  refine (J4.out _ HB.out).mono ?_
  rintro e u10 ⟨rfl, hb⟩
  replace HB := Lib.hid (HB.out.trans (hb.mono HB.out.size))
  clear hb J4
  go_wp2_with fail
  refine (J5.out _ HB.out).mono ?_
  rintro e u11 ⟨rfl, hb⟩
  replace HB := Lib.hid (HB.out.trans (hb.mono HB.out.size))
  clear hb J5
  go_wp2_with fail
  refine (J6.out _ HB.out).mono ?_
  rintro e u12 ⟨rfl, hb⟩
  replace HB := Lib.hid (HB.out.trans (hb.mono HB.out.size))
  clear hb J6
  go_wp2_with fail
  refine (J7.out _ HB.out).mono ?_
  rintro e u13 ⟨rfl, hb⟩
  replace HB := Lib.hid (HB.out.trans (hb.mono HB.out.size))
  clear hb J7
  go_wp2_with fail
  refine (J8.out _ HB.out).mono ?_
  rintro e u14 ⟨rfl, hb⟩
  replace HB := Lib.hid (HB.out.trans (hb.mono HB.out.size))
  clear hb J8
  go_wp2_with fail
  refine (J9.out _ HB.out).mono ?_
  rintro e u15 ⟨rfl, hb⟩
  replace HB := Lib.hid (HB.out.trans (hb.mono HB.out.size))
  clear hb J9
  go_wp2_with fail
  refine (J10.out _ HB.out).mono ?_
  rintro e u16 ⟨rfl, hb⟩
  replace HB := Lib.hid (HB.out.trans (hb.mono HB.out.size))
  clear hb J10
  go_wp2_with fail
  refine (J11.out _ HB.out).mono ?_
  rintro e u17 ⟨rfl, hb⟩
  replace HB := Lib.hid (HB.out.trans (hb.mono HB.out.size))
  clear hb J11
  go_wp2_with fail
  refine (J12.out _ HB.out).mono ?_
  rintro e u18 ⟨rfl, hb⟩
  replace HB := Lib.hid (HB.out.trans (hb.mono HB.out.size))
  clear hb J12
  go_wp2_with fail
  refine (J13.out _ HB.out).mono ?_
  rintro e u19 ⟨rfl, hb⟩
  replace HB := Lib.hid (HB.out.trans (hb.mono HB.out.size))
  clear hb J13
  go_wp2_with fail
  refine (J14.out _ HB.out).mono ?_
  rintro e u20 ⟨rfl, hb⟩
  replace HB := Lib.hid (HB.out.trans (hb.mono HB.out.size))
  clear hb J14
  go_wp2_with fail
  go_ret
  exact ⟨rfl, HB.out⟩

end Go.Proofs.YtadkijaofmcgfaaGreatDoor
