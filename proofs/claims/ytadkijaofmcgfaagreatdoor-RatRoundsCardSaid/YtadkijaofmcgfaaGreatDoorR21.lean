/-
  RatOrder returns true for any three texts.
-/
import Derived.Test.YtadkijaofmcgfaaGreatDoorP27
import Derived.Test.YtadkijaofmcgfaaGreatDoorL2
namespace Go.Proofs.YtadkijaofmcgfaaGreatDoor
open Go.RowKit NV
open Go.Lib (decDigits)

set_option maxHeartbeats 800000 in
theorem order_of {s t : ByteArray} {x c : Int} {w : World} (h : Calls Tryz.prog 20 #[.string s, .string t] w fun e w' => e = .returned (.tuple #[.int .i64 x, .int .i64 c]) ∧ Below w.heap.size w w') :
    Calls Tryz.prog 54 #[.string s, .string t] w fun e w' => e = .returned (.int .i64 x) ∧ Below w.heap.size w w' := by
  have HA := Lib.hid h
  clear h
  go_enter Tryz.func54, Tryz.ntmps54
  go_wp2_with fail
  refine HA.out.mono ?_
  rintro e w1 ⟨rfl, hb1⟩
  have HB := Lib.hid hb1
  clear hb1 HA
  go_wp2_with fail
  go_ret
  exact ⟨rfl, HB.out⟩

set_option maxHeartbeats 3200000 in
set_option maxRecDepth 100000 in
theorem order_no (s t u : ByteArray) (w : World) (htab : Tab w) (hm : ML w) (hs : s.size ≤ 140737488351232) (ht : t.size ≤ 140737488351232) (hu : u.size ≤ 140737488351232) (hv : allV2 300 [s, t, u] = false) :
    Calls Tryz.prog 7 #[.string s, .string t, .string u] w fun e w' => e = .returned (.bool true) ∧ Below w.heap.size w w' := by
  have HL := Lib.hid (lives2_any w htab hm)
  have HV := Lib.hid (fun (W : World) => valid2_any (W.alloc (.cells #[.string s, .string t, .string u] 23)) W.heap.size 300 [s, t, u] (by simp) (by simp) (by omega) (by intro x hx; simp at hx; rcases hx with rfl | rfl | rfl <;> assumption) (three_cells s t u _))
  rw [hv] at HV
  clear htab hm hv
  go_enter Tryz.func7, Tryz.ntmps7
  go_wp2_with fail
  refine HL.out.mono ?_
  rintro e w1 ⟨rfl, hb1⟩
  have HB1 := Lib.hid hb1
  clear hb1
  go_wp2_with fail
  refine (HV.out w1).mono ?_
  rintro e w2 ⟨rfl, hb2⟩
  have hb3 := HB1.out.alloc HB1.out.size (.cells #[.string s, .string t, .string u] 23)
  have HB2 := Lib.hid (hb3.trans (hb2.mono hb3.size))
  clear hb2 hb3
  go_wp2_with fail
  go_ret
  exact ⟨rfl, HB2.out⟩

set_option maxHeartbeats 12800000 in
set_option maxRecDepth 100000 in
theorem order_L1 (a b c : Rat) (w : World) (htab : Tab w) (hm : ML w) (hv : allV2 300 [qstr a, qstr b, qstr c] = true) (hA : Sz 300 a) (hB : Sz 300 b) (hC : Sz 300 c) (hab : a < b) (hy : cmpQ b c ≤ 0) :
    Calls Tryz.prog 7 #[.string (qstr a), .string (qstr b), .string (qstr c)] w fun e w' => e = .returned (.bool true) ∧ Below w.heap.size w w' := by
  have ok_a : QOk a := hA.qok (by omega) (by omega)
  have ok_c : QOk c := hC.qok (by omega) (by omega)
  have ok_b : QOk b := hB.qok (by omega) (by omega)
  have ok_d : QOk (a + -b) := (hA.add hB.neg).qok (by omega) (by omega)
  have ok_s1 : QOk (a + c) := (hA.add hC).qok (by omega) (by omega)
  have ok_p1 : QOk (a * c) := (hA.mul hC).qok (by omega) (by omega)
  have ok_s2 : QOk (b + c) := (hB.add hC).qok (by omega) (by omega)
  have ok_p2 : QOk (b * c) := (hB.mul hC).qok (by omega) (by omega)
  have hx : cmpQ a b = -1 := cmpQ_lt hab
  have hnx : cmpQ b a = 1 := by rw [cmpQ_neg, hx] <;> rfl
  have HL := Lib.hid (lives2_any w htab hm)
  have HV := Lib.hid (fun (W : World) => valid2_any (W.alloc (.cells #[.string (qstr a), .string (qstr b), .string (qstr c)] 23)) W.heap.size 300 [qstr a, qstr b, qstr c] (by simp) (by simp) (by omega) (by intro x hx; simp at hx; rcases hx with rfl | rfl | rfl <;> exact Nat.le_trans (qstr_size (by assumption)) (by omega)) (three_cells _ _ _ _))
  rw [hv] at HV
  have O1 := Lib.hid (fun W (h : Below w.heap.size w W) => order_of (Cmp_q a b ok_a ok_b W (ml_keep hm (ml_pos hm) h)))
  have O2 := Lib.hid (fun W (h : Below w.heap.size w W) => order_of (Cmp_q b c ok_b ok_c W (ml_keep hm (ml_pos hm) h)))
  have O3 := Lib.hid (fun W (h : Below w.heap.size w W) => order_of (Cmp_q a c ok_a ok_c W (ml_keep hm (ml_pos hm) h)))
  have S1 := Lib.hid (fun W (h : Below w.heap.size w W) => Sign_q c ok_c W (ml_keep hm (ml_pos hm) h))
  have MI := Lib.hid (fun W (h : Below w.heap.size w W) => Min_q a b ok_a ok_b W (ml_keep hm (ml_pos hm) h))
  have MA := Lib.hid (fun W (h : Below w.heap.size w W) => Max_q a b ok_a ok_b W (ml_keep hm (ml_pos hm) h))
  have SU := Lib.hid (fun W (h : Below w.heap.size w W) => rq_done (r := a + -b) (Sub_q a b ok_a ok_b W (htab.below h) (ml_keep hm (ml_pos hm) h)) rfl ok_d)
  have S2 := Lib.hid (fun W (h : Below w.heap.size w W) => Sign_q (a + -b) ok_d W (ml_keep hm (ml_pos hm) h))
  have O4 := Lib.hid (fun W (h : Below w.heap.size w W) => order_of (Cmp_q b a ok_b ok_a W (ml_keep hm (ml_pos hm) h)))
  have A1 := Lib.hid (fun W (h : Below w.heap.size w W) => sum_of (rq_done (r := a + c) (Add_q a c ok_a ok_c W (htab.below h) (ml_keep hm (ml_pos hm) h)) rfl ok_s1))
  have A2 := Lib.hid (fun W (h : Below w.heap.size w W) => sum_of (rq_done (r := b + c) (Add_q b c ok_b ok_c W (htab.below h) (ml_keep hm (ml_pos hm) h)) rfl ok_s2))
  have O5 := Lib.hid (fun W (h : Below w.heap.size w W) => order_of (Cmp_q (a + c) (b + c) ok_s1 ok_s2 W (ml_keep hm (ml_pos hm) h)))
  have P1 := Lib.hid (fun W (h : Below w.heap.size w W) => product_of (rq_done (r := a * c) (Mul_q a c ok_a ok_c W (htab.below h) (ml_keep hm (ml_pos hm) h)) rfl ok_p1))
  have P2 := Lib.hid (fun W (h : Below w.heap.size w W) => product_of (rq_done (r := b * c) (Mul_q b c ok_b ok_c W (htab.below h) (ml_keep hm (ml_pos hm) h)) rfl ok_p2))
  have O6 := Lib.hid (fun W (h : Below w.heap.size w W) => order_of (Cmp_q (a * c) (b * c) ok_p1 ok_p2 W (ml_keep hm (ml_pos hm) h)))
  rw [hx] at O1
  rw [hnx] at O4
  rw [cmpQ_sub, hx] at S2
  rw [cmpQ_add, hx] at O5
  rw [cmpQ_mul, hx] at O6
  rw [hx] at MI MA
  rw [if_pos (by omega)] at MI
  rw [if_neg (by omega)] at MA
  have htne : ((qstr a).toList == (qstr b).toList) = false := by
    rw [Go.Lib.toList_data, Go.Lib.toList_data, beq_eq_false_iff_ne]
    intro e
    have := qstr_inj (ba_ext e)
    rw [this] at hab
    exact Rat.lt_irrefl hab
  have hz : ¬ 0 < cmpQ a c := by have := cmpQ_le.2 (Rat.le_trans (Rat.le_of_lt hab) (cmpQ_le.1 hy)); omega
  have HSR := Lib.hid (cmpQ_range c 0)
  rw [show cmpQ c 0 = sgnQ c from rfl] at HSR
  generalize sgnQ c = s at *
  generalize cmpQ a c = z at *
  generalize cmpQ b c = y at *
  generalize qstr (a + -b) = td at *
  generalize qstr (a + c) = ts1 at *
  generalize qstr (a * c) = tp1 at *
  generalize qstr (b + c) = ts2 at *
  generalize qstr (b * c) = tp2 at *
  generalize qstr (a) = ta at *
  generalize qstr (b) = tb at *
  generalize qstr (c) = tc at *
  have HB := Lib.hid (Below.refl w.heap.size w)
  clear htab hm hv hA hC ok_a ok_c ok_d ok_s1 ok_p1 hx hnx hB ok_b ok_s2 ok_p2 hab
  go_enter Tryz.func7, Tryz.ntmps7
  go_wp2_with fail
  refine HL.out.mono ?_
  rintro e w1 ⟨rfl, hb1⟩
  replace HB := Lib.hid (HB.out.trans (hb1.mono HB.out.size))
  clear hb1 HL
  go_wp2_with fail
  refine (HV.out w1).mono ?_
  rintro e w2 ⟨rfl, hb2⟩
  have hb3 := HB.out.alloc HB.out.size (.cells #[.string ta, .string tb, .string tc] 23)
  replace HB := Lib.hid (hb3.trans (hb2.mono hb3.size))
  clear hb2 hb3 HV
  go_wp2_with fail
  refine (O1.out _ HB.out).mono ?_
  rintro e u0 ⟨rfl, hb⟩
  replace HB := Lib.hid (HB.out.trans (hb.mono HB.out.size))
  clear hb O1
  go_wp2_with fail
  refine (O2.out _ HB.out).mono ?_
  rintro e u1 ⟨rfl, hb⟩
  replace HB := Lib.hid (HB.out.trans (hb.mono HB.out.size))
  clear hb O2
  go_wp2_with fail
  refine (O3.out _ HB.out).mono ?_
  rintro e u2 ⟨rfl, hb⟩
  replace HB := Lib.hid (HB.out.trans (hb.mono HB.out.size))
  clear hb O3
  go_wp2_with fail
  refine (S1.out _ HB.out).mono ?_
  rintro e u3 ⟨rfl, hb⟩
  replace HB := Lib.hid (HB.out.trans (hb.mono HB.out.size))
  clear hb S1
  go_wp2_with fail
  refine (MI.out _ HB.out).mono ?_
  rintro e u4 ⟨rfl, hb⟩
  replace HB := Lib.hid (HB.out.trans (hb.mono HB.out.size))
  clear hb MI
  go_wp2_with fail
  refine (MA.out _ HB.out).mono ?_
  rintro e u5 ⟨rfl, hb⟩
  replace HB := Lib.hid (HB.out.trans (hb.mono HB.out.size))
  clear hb MA
  go_wp2_with fail
  refine (SU.out _ HB.out).mono ?_
  rintro e u6 ⟨rfl, hb⟩
  replace HB := Lib.hid (HB.out.trans (hb.mono HB.out.size))
  clear hb SU
  go_wp2_with fail
  refine (S2.out _ HB.out).mono ?_
  rintro e u7 ⟨rfl, hb⟩
  replace HB := Lib.hid (HB.out.trans (hb.mono HB.out.size))
  clear hb S2
  go_wp2_with fail
  refine (O4.out _ HB.out).mono ?_
  rintro e u8 ⟨rfl, hb⟩
  replace HB := Lib.hid (HB.out.trans (hb.mono HB.out.size))
  clear hb O4
  go_wp2_with fail
  refine (A1.out _ HB.out).mono ?_
  rintro e u9 ⟨rfl, hb⟩
  replace HB := Lib.hid (HB.out.trans (hb.mono HB.out.size))
  clear hb A1
  go_wp2_with fail
  refine (A2.out _ HB.out).mono ?_
  rintro e u10 ⟨rfl, hb⟩
  replace HB := Lib.hid (HB.out.trans (hb.mono HB.out.size))
  clear hb A2
  go_wp2_with fail
  refine (O5.out _ HB.out).mono ?_
  rintro e u11 ⟨rfl, hb⟩
  replace HB := Lib.hid (HB.out.trans (hb.mono HB.out.size))
  clear hb O5
  go_wp2_with fail
  refine (P1.out _ HB.out).mono ?_
  rintro e u12 ⟨rfl, hb⟩
  replace HB := Lib.hid (HB.out.trans (hb.mono HB.out.size))
  clear hb P1
  go_wp2_with fail
  refine (P2.out _ HB.out).mono ?_
  rintro e u13 ⟨rfl, hb⟩
  replace HB := Lib.hid (HB.out.trans (hb.mono HB.out.size))
  clear hb P2
  go_wp2_with fail
  refine (O6.out _ HB.out).mono ?_
  rintro e u14 ⟨rfl, hb⟩
  replace HB := Lib.hid (HB.out.trans (hb.mono HB.out.size))
  clear hb O6
  rcases HSR.out with rfl | rfl | rfl
  · go_wp2_with fail
    go_ret
    exact ⟨rfl, HB.out⟩
  · go_wp2_with fail
    go_ret
    exact ⟨rfl, HB.out⟩
  · go_wp2_with fail
    go_ret
    exact ⟨rfl, HB.out⟩

set_option maxHeartbeats 12800000 in
set_option maxRecDepth 100000 in
theorem order_L0 (a b c : Rat) (w : World) (htab : Tab w) (hm : ML w) (hv : allV2 300 [qstr a, qstr b, qstr c] = true) (hA : Sz 300 a) (hB : Sz 300 b) (hC : Sz 300 c) (hab : a < b) (hy : ¬ cmpQ b c ≤ 0) :
    Calls Tryz.prog 7 #[.string (qstr a), .string (qstr b), .string (qstr c)] w fun e w' => e = .returned (.bool true) ∧ Below w.heap.size w w' := by
  have ok_a : QOk a := hA.qok (by omega) (by omega)
  have ok_c : QOk c := hC.qok (by omega) (by omega)
  have ok_b : QOk b := hB.qok (by omega) (by omega)
  have ok_d : QOk (a + -b) := (hA.add hB.neg).qok (by omega) (by omega)
  have ok_s1 : QOk (a + c) := (hA.add hC).qok (by omega) (by omega)
  have ok_p1 : QOk (a * c) := (hA.mul hC).qok (by omega) (by omega)
  have ok_s2 : QOk (b + c) := (hB.add hC).qok (by omega) (by omega)
  have ok_p2 : QOk (b * c) := (hB.mul hC).qok (by omega) (by omega)
  have hx : cmpQ a b = -1 := cmpQ_lt hab
  have hnx : cmpQ b a = 1 := by rw [cmpQ_neg, hx] <;> rfl
  have HL := Lib.hid (lives2_any w htab hm)
  have HV := Lib.hid (fun (W : World) => valid2_any (W.alloc (.cells #[.string (qstr a), .string (qstr b), .string (qstr c)] 23)) W.heap.size 300 [qstr a, qstr b, qstr c] (by simp) (by simp) (by omega) (by intro x hx; simp at hx; rcases hx with rfl | rfl | rfl <;> exact Nat.le_trans (qstr_size (by assumption)) (by omega)) (three_cells _ _ _ _))
  rw [hv] at HV
  have O1 := Lib.hid (fun W (h : Below w.heap.size w W) => order_of (Cmp_q a b ok_a ok_b W (ml_keep hm (ml_pos hm) h)))
  have O2 := Lib.hid (fun W (h : Below w.heap.size w W) => order_of (Cmp_q b c ok_b ok_c W (ml_keep hm (ml_pos hm) h)))
  have O3 := Lib.hid (fun W (h : Below w.heap.size w W) => order_of (Cmp_q a c ok_a ok_c W (ml_keep hm (ml_pos hm) h)))
  have S1 := Lib.hid (fun W (h : Below w.heap.size w W) => Sign_q c ok_c W (ml_keep hm (ml_pos hm) h))
  have MI := Lib.hid (fun W (h : Below w.heap.size w W) => Min_q a b ok_a ok_b W (ml_keep hm (ml_pos hm) h))
  have MA := Lib.hid (fun W (h : Below w.heap.size w W) => Max_q a b ok_a ok_b W (ml_keep hm (ml_pos hm) h))
  have SU := Lib.hid (fun W (h : Below w.heap.size w W) => rq_done (r := a + -b) (Sub_q a b ok_a ok_b W (htab.below h) (ml_keep hm (ml_pos hm) h)) rfl ok_d)
  have S2 := Lib.hid (fun W (h : Below w.heap.size w W) => Sign_q (a + -b) ok_d W (ml_keep hm (ml_pos hm) h))
  have O4 := Lib.hid (fun W (h : Below w.heap.size w W) => order_of (Cmp_q b a ok_b ok_a W (ml_keep hm (ml_pos hm) h)))
  have A1 := Lib.hid (fun W (h : Below w.heap.size w W) => sum_of (rq_done (r := a + c) (Add_q a c ok_a ok_c W (htab.below h) (ml_keep hm (ml_pos hm) h)) rfl ok_s1))
  have A2 := Lib.hid (fun W (h : Below w.heap.size w W) => sum_of (rq_done (r := b + c) (Add_q b c ok_b ok_c W (htab.below h) (ml_keep hm (ml_pos hm) h)) rfl ok_s2))
  have O5 := Lib.hid (fun W (h : Below w.heap.size w W) => order_of (Cmp_q (a + c) (b + c) ok_s1 ok_s2 W (ml_keep hm (ml_pos hm) h)))
  have P1 := Lib.hid (fun W (h : Below w.heap.size w W) => product_of (rq_done (r := a * c) (Mul_q a c ok_a ok_c W (htab.below h) (ml_keep hm (ml_pos hm) h)) rfl ok_p1))
  have P2 := Lib.hid (fun W (h : Below w.heap.size w W) => product_of (rq_done (r := b * c) (Mul_q b c ok_b ok_c W (htab.below h) (ml_keep hm (ml_pos hm) h)) rfl ok_p2))
  have O6 := Lib.hid (fun W (h : Below w.heap.size w W) => order_of (Cmp_q (a * c) (b * c) ok_p1 ok_p2 W (ml_keep hm (ml_pos hm) h)))
  rw [hx] at O1
  rw [hnx] at O4
  rw [cmpQ_sub, hx] at S2
  rw [cmpQ_add, hx] at O5
  rw [cmpQ_mul, hx] at O6
  rw [hx] at MI MA
  rw [if_pos (by omega)] at MI
  rw [if_neg (by omega)] at MA
  have htne : ((qstr a).toList == (qstr b).toList) = false := by
    rw [Go.Lib.toList_data, Go.Lib.toList_data, beq_eq_false_iff_ne]
    intro e
    have := qstr_inj (ba_ext e)
    rw [this] at hab
    exact Rat.lt_irrefl hab
  have HSR := Lib.hid (cmpQ_range c 0)
  rw [show cmpQ c 0 = sgnQ c from rfl] at HSR
  generalize sgnQ c = s at *
  generalize cmpQ a c = z at *
  generalize cmpQ b c = y at *
  generalize qstr (a + -b) = td at *
  generalize qstr (a + c) = ts1 at *
  generalize qstr (a * c) = tp1 at *
  generalize qstr (b + c) = ts2 at *
  generalize qstr (b * c) = tp2 at *
  generalize qstr (a) = ta at *
  generalize qstr (b) = tb at *
  generalize qstr (c) = tc at *
  have HB := Lib.hid (Below.refl w.heap.size w)
  clear htab hm hv hA hC ok_a ok_c ok_d ok_s1 ok_p1 hx hnx hB ok_b ok_s2 ok_p2 hab
  go_enter Tryz.func7, Tryz.ntmps7
  go_wp2_with fail
  refine HL.out.mono ?_
  rintro e w1 ⟨rfl, hb1⟩
  replace HB := Lib.hid (HB.out.trans (hb1.mono HB.out.size))
  clear hb1 HL
  go_wp2_with fail
  refine (HV.out w1).mono ?_
  rintro e w2 ⟨rfl, hb2⟩
  have hb3 := HB.out.alloc HB.out.size (.cells #[.string ta, .string tb, .string tc] 23)
  replace HB := Lib.hid (hb3.trans (hb2.mono hb3.size))
  clear hb2 hb3 HV
  go_wp2_with fail
  refine (O1.out _ HB.out).mono ?_
  rintro e u0 ⟨rfl, hb⟩
  replace HB := Lib.hid (HB.out.trans (hb.mono HB.out.size))
  clear hb O1
  go_wp2_with fail
  refine (O2.out _ HB.out).mono ?_
  rintro e u1 ⟨rfl, hb⟩
  replace HB := Lib.hid (HB.out.trans (hb.mono HB.out.size))
  clear hb O2
  go_wp2_with fail
  refine (O3.out _ HB.out).mono ?_
  rintro e u2 ⟨rfl, hb⟩
  replace HB := Lib.hid (HB.out.trans (hb.mono HB.out.size))
  clear hb O3
  go_wp2_with fail
  refine (S1.out _ HB.out).mono ?_
  rintro e u3 ⟨rfl, hb⟩
  replace HB := Lib.hid (HB.out.trans (hb.mono HB.out.size))
  clear hb S1
  go_wp2_with fail
  refine (MI.out _ HB.out).mono ?_
  rintro e u4 ⟨rfl, hb⟩
  replace HB := Lib.hid (HB.out.trans (hb.mono HB.out.size))
  clear hb MI
  go_wp2_with fail
  refine (MA.out _ HB.out).mono ?_
  rintro e u5 ⟨rfl, hb⟩
  replace HB := Lib.hid (HB.out.trans (hb.mono HB.out.size))
  clear hb MA
  go_wp2_with fail
  refine (SU.out _ HB.out).mono ?_
  rintro e u6 ⟨rfl, hb⟩
  replace HB := Lib.hid (HB.out.trans (hb.mono HB.out.size))
  clear hb SU
  go_wp2_with fail
  refine (S2.out _ HB.out).mono ?_
  rintro e u7 ⟨rfl, hb⟩
  replace HB := Lib.hid (HB.out.trans (hb.mono HB.out.size))
  clear hb S2
  go_wp2_with fail
  refine (O4.out _ HB.out).mono ?_
  rintro e u8 ⟨rfl, hb⟩
  replace HB := Lib.hid (HB.out.trans (hb.mono HB.out.size))
  clear hb O4
  go_wp2_with fail
  refine (A1.out _ HB.out).mono ?_
  rintro e u9 ⟨rfl, hb⟩
  replace HB := Lib.hid (HB.out.trans (hb.mono HB.out.size))
  clear hb A1
  go_wp2_with fail
  refine (A2.out _ HB.out).mono ?_
  rintro e u10 ⟨rfl, hb⟩
  replace HB := Lib.hid (HB.out.trans (hb.mono HB.out.size))
  clear hb A2
  go_wp2_with fail
  refine (O5.out _ HB.out).mono ?_
  rintro e u11 ⟨rfl, hb⟩
  replace HB := Lib.hid (HB.out.trans (hb.mono HB.out.size))
  clear hb O5
  go_wp2_with fail
  refine (P1.out _ HB.out).mono ?_
  rintro e u12 ⟨rfl, hb⟩
  replace HB := Lib.hid (HB.out.trans (hb.mono HB.out.size))
  clear hb P1
  go_wp2_with fail
  refine (P2.out _ HB.out).mono ?_
  rintro e u13 ⟨rfl, hb⟩
  replace HB := Lib.hid (HB.out.trans (hb.mono HB.out.size))
  clear hb P2
  go_wp2_with fail
  refine (O6.out _ HB.out).mono ?_
  rintro e u14 ⟨rfl, hb⟩
  replace HB := Lib.hid (HB.out.trans (hb.mono HB.out.size))
  clear hb O6
  rcases HSR.out with rfl | rfl | rfl
  · go_wp2_with fail
    go_ret
    exact ⟨rfl, HB.out⟩
  · go_wp2_with fail
    go_ret
    exact ⟨rfl, HB.out⟩
  · go_wp2_with fail
    go_ret
    exact ⟨rfl, HB.out⟩

set_option maxHeartbeats 12800000 in
set_option maxRecDepth 100000 in
theorem order_E1 (a c : Rat) (w : World) (htab : Tab w) (hm : ML w) (hv : allV2 300 [qstr a, qstr a, qstr c] = true) (hA : Sz 300 a) (hC : Sz 300 c)  (hy : cmpQ a c ≤ 0) :
    Calls Tryz.prog 7 #[.string (qstr a), .string (qstr a), .string (qstr c)] w fun e w' => e = .returned (.bool true) ∧ Below w.heap.size w w' := by
  have ok_a : QOk a := hA.qok (by omega) (by omega)
  have ok_c : QOk c := hC.qok (by omega) (by omega)
  have ok_d : QOk (a + -a) := (hA.add hA.neg).qok (by omega) (by omega)
  have ok_s1 : QOk (a + c) := (hA.add hC).qok (by omega) (by omega)
  have ok_p1 : QOk (a * c) := (hA.mul hC).qok (by omega) (by omega)
  have hx : cmpQ a a = 0 := cmpQ_self a
  have hnx : cmpQ a a = 0 := by rw [cmpQ_neg, hx] <;> rfl
  have HL := Lib.hid (lives2_any w htab hm)
  have HV := Lib.hid (fun (W : World) => valid2_any (W.alloc (.cells #[.string (qstr a), .string (qstr a), .string (qstr c)] 23)) W.heap.size 300 [qstr a, qstr a, qstr c] (by simp) (by simp) (by omega) (by intro x hx; simp at hx; rcases hx with rfl | rfl <;> exact Nat.le_trans (qstr_size (by assumption)) (by omega)) (three_cells _ _ _ _))
  rw [hv] at HV
  have O1 := Lib.hid (fun W (h : Below w.heap.size w W) => order_of (Cmp_q a a ok_a ok_a W (ml_keep hm (ml_pos hm) h)))
  have O2 := Lib.hid (fun W (h : Below w.heap.size w W) => order_of (Cmp_q a c ok_a ok_c W (ml_keep hm (ml_pos hm) h)))
  have O3 := Lib.hid (fun W (h : Below w.heap.size w W) => order_of (Cmp_q a c ok_a ok_c W (ml_keep hm (ml_pos hm) h)))
  have S1 := Lib.hid (fun W (h : Below w.heap.size w W) => Sign_q c ok_c W (ml_keep hm (ml_pos hm) h))
  have MI := Lib.hid (fun W (h : Below w.heap.size w W) => Min_q a a ok_a ok_a W (ml_keep hm (ml_pos hm) h))
  have MA := Lib.hid (fun W (h : Below w.heap.size w W) => Max_q a a ok_a ok_a W (ml_keep hm (ml_pos hm) h))
  have SU := Lib.hid (fun W (h : Below w.heap.size w W) => rq_done (r := a + -a) (Sub_q a a ok_a ok_a W (htab.below h) (ml_keep hm (ml_pos hm) h)) rfl ok_d)
  have S2 := Lib.hid (fun W (h : Below w.heap.size w W) => Sign_q (a + -a) ok_d W (ml_keep hm (ml_pos hm) h))
  have O4 := Lib.hid (fun W (h : Below w.heap.size w W) => order_of (Cmp_q a a ok_a ok_a W (ml_keep hm (ml_pos hm) h)))
  have A1 := Lib.hid (fun W (h : Below w.heap.size w W) => sum_of (rq_done (r := a + c) (Add_q a c ok_a ok_c W (htab.below h) (ml_keep hm (ml_pos hm) h)) rfl ok_s1))
  have A2 := Lib.hid (fun W (h : Below w.heap.size w W) => sum_of (rq_done (r := a + c) (Add_q a c ok_a ok_c W (htab.below h) (ml_keep hm (ml_pos hm) h)) rfl ok_s1))
  have O5 := Lib.hid (fun W (h : Below w.heap.size w W) => order_of (Cmp_q (a + c) (a + c) ok_s1 ok_s1 W (ml_keep hm (ml_pos hm) h)))
  have P1 := Lib.hid (fun W (h : Below w.heap.size w W) => product_of (rq_done (r := a * c) (Mul_q a c ok_a ok_c W (htab.below h) (ml_keep hm (ml_pos hm) h)) rfl ok_p1))
  have P2 := Lib.hid (fun W (h : Below w.heap.size w W) => product_of (rq_done (r := a * c) (Mul_q a c ok_a ok_c W (htab.below h) (ml_keep hm (ml_pos hm) h)) rfl ok_p1))
  have O6 := Lib.hid (fun W (h : Below w.heap.size w W) => order_of (Cmp_q (a * c) (a * c) ok_p1 ok_p1 W (ml_keep hm (ml_pos hm) h)))
  rw [hx] at O1
  rw [hnx] at O4
  rw [cmpQ_sub, hx] at S2
  rw [cmpQ_add, hx] at O5
  rw [cmpQ_mul, hx] at O6
  rw [hx] at MI MA
  rw [if_neg (by omega)] at MI
  rw [if_neg (by omega)] at MA
  have hz : ¬ 0 < cmpQ a c := by have := cmpQ_le.2 (cmpQ_le.1 hy); omega
  have HSR := Lib.hid (cmpQ_range c 0)
  rw [show cmpQ c 0 = sgnQ c from rfl] at HSR
  generalize sgnQ c = s at *
  generalize cmpQ a c = y at *
  generalize qstr (a + -a) = td at *
  generalize qstr (a + c) = ts1 at *
  generalize qstr (a * c) = tp1 at *
  generalize qstr (a) = ta at *
  generalize qstr (c) = tc at *
  have HB := Lib.hid (Below.refl w.heap.size w)
  clear htab hm hv hA hC ok_a ok_c ok_d ok_s1 ok_p1 hx hnx
  go_enter Tryz.func7, Tryz.ntmps7
  go_wp2_with fail
  refine HL.out.mono ?_
  rintro e w1 ⟨rfl, hb1⟩
  replace HB := Lib.hid (HB.out.trans (hb1.mono HB.out.size))
  clear hb1 HL
  go_wp2_with fail
  refine (HV.out w1).mono ?_
  rintro e w2 ⟨rfl, hb2⟩
  have hb3 := HB.out.alloc HB.out.size (.cells #[.string ta, .string ta, .string tc] 23)
  replace HB := Lib.hid (hb3.trans (hb2.mono hb3.size))
  clear hb2 hb3 HV
  go_wp2_with fail
  refine (O1.out _ HB.out).mono ?_
  rintro e u0 ⟨rfl, hb⟩
  replace HB := Lib.hid (HB.out.trans (hb.mono HB.out.size))
  clear hb O1
  go_wp2_with fail
  refine (O2.out _ HB.out).mono ?_
  rintro e u1 ⟨rfl, hb⟩
  replace HB := Lib.hid (HB.out.trans (hb.mono HB.out.size))
  clear hb O2
  go_wp2_with fail
  refine (O3.out _ HB.out).mono ?_
  rintro e u2 ⟨rfl, hb⟩
  replace HB := Lib.hid (HB.out.trans (hb.mono HB.out.size))
  clear hb O3
  go_wp2_with fail
  refine (S1.out _ HB.out).mono ?_
  rintro e u3 ⟨rfl, hb⟩
  replace HB := Lib.hid (HB.out.trans (hb.mono HB.out.size))
  clear hb S1
  go_wp2_with fail
  refine (MI.out _ HB.out).mono ?_
  rintro e u4 ⟨rfl, hb⟩
  replace HB := Lib.hid (HB.out.trans (hb.mono HB.out.size))
  clear hb MI
  go_wp2_with fail
  refine (MA.out _ HB.out).mono ?_
  rintro e u5 ⟨rfl, hb⟩
  replace HB := Lib.hid (HB.out.trans (hb.mono HB.out.size))
  clear hb MA
  go_wp2_with fail
  refine (SU.out _ HB.out).mono ?_
  rintro e u6 ⟨rfl, hb⟩
  replace HB := Lib.hid (HB.out.trans (hb.mono HB.out.size))
  clear hb SU
  go_wp2_with fail
  refine (S2.out _ HB.out).mono ?_
  rintro e u7 ⟨rfl, hb⟩
  replace HB := Lib.hid (HB.out.trans (hb.mono HB.out.size))
  clear hb S2
  go_wp2_with fail
  refine (O4.out _ HB.out).mono ?_
  rintro e u8 ⟨rfl, hb⟩
  replace HB := Lib.hid (HB.out.trans (hb.mono HB.out.size))
  clear hb O4
  go_wp2_with fail
  refine (A1.out _ HB.out).mono ?_
  rintro e u9 ⟨rfl, hb⟩
  replace HB := Lib.hid (HB.out.trans (hb.mono HB.out.size))
  clear hb A1
  go_wp2_with fail
  refine (A2.out _ HB.out).mono ?_
  rintro e u10 ⟨rfl, hb⟩
  replace HB := Lib.hid (HB.out.trans (hb.mono HB.out.size))
  clear hb A2
  go_wp2_with fail
  refine (O5.out _ HB.out).mono ?_
  rintro e u11 ⟨rfl, hb⟩
  replace HB := Lib.hid (HB.out.trans (hb.mono HB.out.size))
  clear hb O5
  go_wp2_with fail
  refine (P1.out _ HB.out).mono ?_
  rintro e u12 ⟨rfl, hb⟩
  replace HB := Lib.hid (HB.out.trans (hb.mono HB.out.size))
  clear hb P1
  go_wp2_with fail
  refine (P2.out _ HB.out).mono ?_
  rintro e u13 ⟨rfl, hb⟩
  replace HB := Lib.hid (HB.out.trans (hb.mono HB.out.size))
  clear hb P2
  go_wp2_with fail
  refine (O6.out _ HB.out).mono ?_
  rintro e u14 ⟨rfl, hb⟩
  replace HB := Lib.hid (HB.out.trans (hb.mono HB.out.size))
  clear hb O6
  rcases HSR.out with rfl | rfl | rfl
  · go_wp2_with fail
    go_ret
    exact ⟨rfl, HB.out⟩
  · go_wp2_with fail
    go_ret
    exact ⟨rfl, HB.out⟩
  · go_wp2_with fail
    go_ret
    exact ⟨rfl, HB.out⟩

set_option maxHeartbeats 12800000 in
set_option maxRecDepth 100000 in
theorem order_E0 (a c : Rat) (w : World) (htab : Tab w) (hm : ML w) (hv : allV2 300 [qstr a, qstr a, qstr c] = true) (hA : Sz 300 a) (hC : Sz 300 c)  (hy : ¬ cmpQ a c ≤ 0) :
    Calls Tryz.prog 7 #[.string (qstr a), .string (qstr a), .string (qstr c)] w fun e w' => e = .returned (.bool true) ∧ Below w.heap.size w w' := by
  have ok_a : QOk a := hA.qok (by omega) (by omega)
  have ok_c : QOk c := hC.qok (by omega) (by omega)
  have ok_d : QOk (a + -a) := (hA.add hA.neg).qok (by omega) (by omega)
  have ok_s1 : QOk (a + c) := (hA.add hC).qok (by omega) (by omega)
  have ok_p1 : QOk (a * c) := (hA.mul hC).qok (by omega) (by omega)
  have hx : cmpQ a a = 0 := cmpQ_self a
  have hnx : cmpQ a a = 0 := by rw [cmpQ_neg, hx] <;> rfl
  have HL := Lib.hid (lives2_any w htab hm)
  have HV := Lib.hid (fun (W : World) => valid2_any (W.alloc (.cells #[.string (qstr a), .string (qstr a), .string (qstr c)] 23)) W.heap.size 300 [qstr a, qstr a, qstr c] (by simp) (by simp) (by omega) (by intro x hx; simp at hx; rcases hx with rfl | rfl <;> exact Nat.le_trans (qstr_size (by assumption)) (by omega)) (three_cells _ _ _ _))
  rw [hv] at HV
  have O1 := Lib.hid (fun W (h : Below w.heap.size w W) => order_of (Cmp_q a a ok_a ok_a W (ml_keep hm (ml_pos hm) h)))
  have O2 := Lib.hid (fun W (h : Below w.heap.size w W) => order_of (Cmp_q a c ok_a ok_c W (ml_keep hm (ml_pos hm) h)))
  have O3 := Lib.hid (fun W (h : Below w.heap.size w W) => order_of (Cmp_q a c ok_a ok_c W (ml_keep hm (ml_pos hm) h)))
  have S1 := Lib.hid (fun W (h : Below w.heap.size w W) => Sign_q c ok_c W (ml_keep hm (ml_pos hm) h))
  have MI := Lib.hid (fun W (h : Below w.heap.size w W) => Min_q a a ok_a ok_a W (ml_keep hm (ml_pos hm) h))
  have MA := Lib.hid (fun W (h : Below w.heap.size w W) => Max_q a a ok_a ok_a W (ml_keep hm (ml_pos hm) h))
  have SU := Lib.hid (fun W (h : Below w.heap.size w W) => rq_done (r := a + -a) (Sub_q a a ok_a ok_a W (htab.below h) (ml_keep hm (ml_pos hm) h)) rfl ok_d)
  have S2 := Lib.hid (fun W (h : Below w.heap.size w W) => Sign_q (a + -a) ok_d W (ml_keep hm (ml_pos hm) h))
  have O4 := Lib.hid (fun W (h : Below w.heap.size w W) => order_of (Cmp_q a a ok_a ok_a W (ml_keep hm (ml_pos hm) h)))
  have A1 := Lib.hid (fun W (h : Below w.heap.size w W) => sum_of (rq_done (r := a + c) (Add_q a c ok_a ok_c W (htab.below h) (ml_keep hm (ml_pos hm) h)) rfl ok_s1))
  have A2 := Lib.hid (fun W (h : Below w.heap.size w W) => sum_of (rq_done (r := a + c) (Add_q a c ok_a ok_c W (htab.below h) (ml_keep hm (ml_pos hm) h)) rfl ok_s1))
  have O5 := Lib.hid (fun W (h : Below w.heap.size w W) => order_of (Cmp_q (a + c) (a + c) ok_s1 ok_s1 W (ml_keep hm (ml_pos hm) h)))
  have P1 := Lib.hid (fun W (h : Below w.heap.size w W) => product_of (rq_done (r := a * c) (Mul_q a c ok_a ok_c W (htab.below h) (ml_keep hm (ml_pos hm) h)) rfl ok_p1))
  have P2 := Lib.hid (fun W (h : Below w.heap.size w W) => product_of (rq_done (r := a * c) (Mul_q a c ok_a ok_c W (htab.below h) (ml_keep hm (ml_pos hm) h)) rfl ok_p1))
  have O6 := Lib.hid (fun W (h : Below w.heap.size w W) => order_of (Cmp_q (a * c) (a * c) ok_p1 ok_p1 W (ml_keep hm (ml_pos hm) h)))
  rw [hx] at O1
  rw [hnx] at O4
  rw [cmpQ_sub, hx] at S2
  rw [cmpQ_add, hx] at O5
  rw [cmpQ_mul, hx] at O6
  rw [hx] at MI MA
  rw [if_neg (by omega)] at MI
  rw [if_neg (by omega)] at MA
  have HSR := Lib.hid (cmpQ_range c 0)
  rw [show cmpQ c 0 = sgnQ c from rfl] at HSR
  generalize sgnQ c = s at *
  generalize cmpQ a c = y at *
  generalize qstr (a + -a) = td at *
  generalize qstr (a + c) = ts1 at *
  generalize qstr (a * c) = tp1 at *
  generalize qstr (a) = ta at *
  generalize qstr (c) = tc at *
  have HB := Lib.hid (Below.refl w.heap.size w)
  clear htab hm hv hA hC ok_a ok_c ok_d ok_s1 ok_p1 hx hnx
  go_enter Tryz.func7, Tryz.ntmps7
  go_wp2_with fail
  refine HL.out.mono ?_
  rintro e w1 ⟨rfl, hb1⟩
  replace HB := Lib.hid (HB.out.trans (hb1.mono HB.out.size))
  clear hb1 HL
  go_wp2_with fail
  refine (HV.out w1).mono ?_
  rintro e w2 ⟨rfl, hb2⟩
  have hb3 := HB.out.alloc HB.out.size (.cells #[.string ta, .string ta, .string tc] 23)
  replace HB := Lib.hid (hb3.trans (hb2.mono hb3.size))
  clear hb2 hb3 HV
  go_wp2_with fail
  refine (O1.out _ HB.out).mono ?_
  rintro e u0 ⟨rfl, hb⟩
  replace HB := Lib.hid (HB.out.trans (hb.mono HB.out.size))
  clear hb O1
  go_wp2_with fail
  refine (O2.out _ HB.out).mono ?_
  rintro e u1 ⟨rfl, hb⟩
  replace HB := Lib.hid (HB.out.trans (hb.mono HB.out.size))
  clear hb O2
  go_wp2_with fail
  refine (O3.out _ HB.out).mono ?_
  rintro e u2 ⟨rfl, hb⟩
  replace HB := Lib.hid (HB.out.trans (hb.mono HB.out.size))
  clear hb O3
  go_wp2_with fail
  refine (S1.out _ HB.out).mono ?_
  rintro e u3 ⟨rfl, hb⟩
  replace HB := Lib.hid (HB.out.trans (hb.mono HB.out.size))
  clear hb S1
  go_wp2_with fail
  refine (MI.out _ HB.out).mono ?_
  rintro e u4 ⟨rfl, hb⟩
  replace HB := Lib.hid (HB.out.trans (hb.mono HB.out.size))
  clear hb MI
  go_wp2_with fail
  refine (MA.out _ HB.out).mono ?_
  rintro e u5 ⟨rfl, hb⟩
  replace HB := Lib.hid (HB.out.trans (hb.mono HB.out.size))
  clear hb MA
  go_wp2_with fail
  refine (SU.out _ HB.out).mono ?_
  rintro e u6 ⟨rfl, hb⟩
  replace HB := Lib.hid (HB.out.trans (hb.mono HB.out.size))
  clear hb SU
  go_wp2_with fail
  refine (S2.out _ HB.out).mono ?_
  rintro e u7 ⟨rfl, hb⟩
  replace HB := Lib.hid (HB.out.trans (hb.mono HB.out.size))
  clear hb S2
  go_wp2_with fail
  refine (O4.out _ HB.out).mono ?_
  rintro e u8 ⟨rfl, hb⟩
  replace HB := Lib.hid (HB.out.trans (hb.mono HB.out.size))
  clear hb O4
  go_wp2_with fail
  refine (A1.out _ HB.out).mono ?_
  rintro e u9 ⟨rfl, hb⟩
  replace HB := Lib.hid (HB.out.trans (hb.mono HB.out.size))
  clear hb A1
  go_wp2_with fail
  refine (A2.out _ HB.out).mono ?_
  rintro e u10 ⟨rfl, hb⟩
  replace HB := Lib.hid (HB.out.trans (hb.mono HB.out.size))
  clear hb A2
  go_wp2_with fail
  refine (O5.out _ HB.out).mono ?_
  rintro e u11 ⟨rfl, hb⟩
  replace HB := Lib.hid (HB.out.trans (hb.mono HB.out.size))
  clear hb O5
  go_wp2_with fail
  refine (P1.out _ HB.out).mono ?_
  rintro e u12 ⟨rfl, hb⟩
  replace HB := Lib.hid (HB.out.trans (hb.mono HB.out.size))
  clear hb P1
  go_wp2_with fail
  refine (P2.out _ HB.out).mono ?_
  rintro e u13 ⟨rfl, hb⟩
  replace HB := Lib.hid (HB.out.trans (hb.mono HB.out.size))
  clear hb P2
  go_wp2_with fail
  refine (O6.out _ HB.out).mono ?_
  rintro e u14 ⟨rfl, hb⟩
  replace HB := Lib.hid (HB.out.trans (hb.mono HB.out.size))
  clear hb O6
  rcases HSR.out with rfl | rfl | rfl
  · go_wp2_with fail
    go_ret
    exact ⟨rfl, HB.out⟩
  · go_wp2_with fail
    go_ret
    exact ⟨rfl, HB.out⟩
  · go_wp2_with fail
    go_ret
    exact ⟨rfl, HB.out⟩

set_option maxHeartbeats 12800000 in
set_option maxRecDepth 100000 in
theorem order_G (a b c : Rat) (w : World) (htab : Tab w) (hm : ML w) (hv : allV2 300 [qstr a, qstr b, qstr c] = true) (hA : Sz 300 a) (hB : Sz 300 b) (hC : Sz 300 c) (hab : b < a) :
    Calls Tryz.prog 7 #[.string (qstr a), .string (qstr b), .string (qstr c)] w fun e w' => e = .returned (.bool true) ∧ Below w.heap.size w w' := by
  have ok_a : QOk a := hA.qok (by omega) (by omega)
  have ok_c : QOk c := hC.qok (by omega) (by omega)
  have ok_b : QOk b := hB.qok (by omega) (by omega)
  have ok_d : QOk (a + -b) := (hA.add hB.neg).qok (by omega) (by omega)
  have ok_s1 : QOk (a + c) := (hA.add hC).qok (by omega) (by omega)
  have ok_p1 : QOk (a * c) := (hA.mul hC).qok (by omega) (by omega)
  have ok_s2 : QOk (b + c) := (hB.add hC).qok (by omega) (by omega)
  have ok_p2 : QOk (b * c) := (hB.mul hC).qok (by omega) (by omega)
  have hx : cmpQ a b = 1 := cmpQ_gt hab
  have hnx : cmpQ b a = -1 := by rw [cmpQ_neg, hx] <;> rfl
  have HL := Lib.hid (lives2_any w htab hm)
  have HV := Lib.hid (fun (W : World) => valid2_any (W.alloc (.cells #[.string (qstr a), .string (qstr b), .string (qstr c)] 23)) W.heap.size 300 [qstr a, qstr b, qstr c] (by simp) (by simp) (by omega) (by intro x hx; simp at hx; rcases hx with rfl | rfl | rfl <;> exact Nat.le_trans (qstr_size (by assumption)) (by omega)) (three_cells _ _ _ _))
  rw [hv] at HV
  have O1 := Lib.hid (fun W (h : Below w.heap.size w W) => order_of (Cmp_q a b ok_a ok_b W (ml_keep hm (ml_pos hm) h)))
  have O2 := Lib.hid (fun W (h : Below w.heap.size w W) => order_of (Cmp_q b c ok_b ok_c W (ml_keep hm (ml_pos hm) h)))
  have O3 := Lib.hid (fun W (h : Below w.heap.size w W) => order_of (Cmp_q a c ok_a ok_c W (ml_keep hm (ml_pos hm) h)))
  have S1 := Lib.hid (fun W (h : Below w.heap.size w W) => Sign_q c ok_c W (ml_keep hm (ml_pos hm) h))
  have MI := Lib.hid (fun W (h : Below w.heap.size w W) => Min_q a b ok_a ok_b W (ml_keep hm (ml_pos hm) h))
  have MA := Lib.hid (fun W (h : Below w.heap.size w W) => Max_q a b ok_a ok_b W (ml_keep hm (ml_pos hm) h))
  have SU := Lib.hid (fun W (h : Below w.heap.size w W) => rq_done (r := a + -b) (Sub_q a b ok_a ok_b W (htab.below h) (ml_keep hm (ml_pos hm) h)) rfl ok_d)
  have S2 := Lib.hid (fun W (h : Below w.heap.size w W) => Sign_q (a + -b) ok_d W (ml_keep hm (ml_pos hm) h))
  have O4 := Lib.hid (fun W (h : Below w.heap.size w W) => order_of (Cmp_q b a ok_b ok_a W (ml_keep hm (ml_pos hm) h)))
  have A1 := Lib.hid (fun W (h : Below w.heap.size w W) => sum_of (rq_done (r := a + c) (Add_q a c ok_a ok_c W (htab.below h) (ml_keep hm (ml_pos hm) h)) rfl ok_s1))
  have A2 := Lib.hid (fun W (h : Below w.heap.size w W) => sum_of (rq_done (r := b + c) (Add_q b c ok_b ok_c W (htab.below h) (ml_keep hm (ml_pos hm) h)) rfl ok_s2))
  have O5 := Lib.hid (fun W (h : Below w.heap.size w W) => order_of (Cmp_q (a + c) (b + c) ok_s1 ok_s2 W (ml_keep hm (ml_pos hm) h)))
  have P1 := Lib.hid (fun W (h : Below w.heap.size w W) => product_of (rq_done (r := a * c) (Mul_q a c ok_a ok_c W (htab.below h) (ml_keep hm (ml_pos hm) h)) rfl ok_p1))
  have P2 := Lib.hid (fun W (h : Below w.heap.size w W) => product_of (rq_done (r := b * c) (Mul_q b c ok_b ok_c W (htab.below h) (ml_keep hm (ml_pos hm) h)) rfl ok_p2))
  have O6 := Lib.hid (fun W (h : Below w.heap.size w W) => order_of (Cmp_q (a * c) (b * c) ok_p1 ok_p2 W (ml_keep hm (ml_pos hm) h)))
  rw [hx] at O1
  rw [hnx] at O4
  rw [cmpQ_sub, hx] at S2
  rw [cmpQ_add, hx] at O5
  rw [cmpQ_mul, hx] at O6
  rw [hx] at MI MA
  rw [if_neg (by omega)] at MI
  rw [if_pos (by omega)] at MA
  have htne : ((qstr a).toList == (qstr b).toList) = false := by
    rw [Go.Lib.toList_data, Go.Lib.toList_data, beq_eq_false_iff_ne]
    intro e
    have := qstr_inj (ba_ext e)
    rw [this] at hab
    exact Rat.lt_irrefl hab
  have HSR := Lib.hid (cmpQ_range c 0)
  rw [show cmpQ c 0 = sgnQ c from rfl] at HSR
  generalize sgnQ c = s at *
  generalize cmpQ a c = z at *
  generalize cmpQ b c = y at *
  generalize qstr (a + -b) = td at *
  generalize qstr (a + c) = ts1 at *
  generalize qstr (a * c) = tp1 at *
  generalize qstr (b + c) = ts2 at *
  generalize qstr (b * c) = tp2 at *
  generalize qstr (a) = ta at *
  generalize qstr (b) = tb at *
  generalize qstr (c) = tc at *
  have HB := Lib.hid (Below.refl w.heap.size w)
  clear htab hm hv hA hC ok_a ok_c ok_d ok_s1 ok_p1 hx hnx hB ok_b ok_s2 ok_p2 hab
  go_enter Tryz.func7, Tryz.ntmps7
  go_wp2_with fail
  refine HL.out.mono ?_
  rintro e w1 ⟨rfl, hb1⟩
  replace HB := Lib.hid (HB.out.trans (hb1.mono HB.out.size))
  clear hb1 HL
  go_wp2_with fail
  refine (HV.out w1).mono ?_
  rintro e w2 ⟨rfl, hb2⟩
  have hb3 := HB.out.alloc HB.out.size (.cells #[.string ta, .string tb, .string tc] 23)
  replace HB := Lib.hid (hb3.trans (hb2.mono hb3.size))
  clear hb2 hb3 HV
  go_wp2_with fail
  refine (O1.out _ HB.out).mono ?_
  rintro e u0 ⟨rfl, hb⟩
  replace HB := Lib.hid (HB.out.trans (hb.mono HB.out.size))
  clear hb O1
  go_wp2_with fail
  refine (O2.out _ HB.out).mono ?_
  rintro e u1 ⟨rfl, hb⟩
  replace HB := Lib.hid (HB.out.trans (hb.mono HB.out.size))
  clear hb O2
  go_wp2_with fail
  refine (O3.out _ HB.out).mono ?_
  rintro e u2 ⟨rfl, hb⟩
  replace HB := Lib.hid (HB.out.trans (hb.mono HB.out.size))
  clear hb O3
  go_wp2_with fail
  refine (S1.out _ HB.out).mono ?_
  rintro e u3 ⟨rfl, hb⟩
  replace HB := Lib.hid (HB.out.trans (hb.mono HB.out.size))
  clear hb S1
  go_wp2_with fail
  refine (MI.out _ HB.out).mono ?_
  rintro e u4 ⟨rfl, hb⟩
  replace HB := Lib.hid (HB.out.trans (hb.mono HB.out.size))
  clear hb MI
  go_wp2_with fail
  refine (MA.out _ HB.out).mono ?_
  rintro e u5 ⟨rfl, hb⟩
  replace HB := Lib.hid (HB.out.trans (hb.mono HB.out.size))
  clear hb MA
  go_wp2_with fail
  refine (SU.out _ HB.out).mono ?_
  rintro e u6 ⟨rfl, hb⟩
  replace HB := Lib.hid (HB.out.trans (hb.mono HB.out.size))
  clear hb SU
  go_wp2_with fail
  refine (S2.out _ HB.out).mono ?_
  rintro e u7 ⟨rfl, hb⟩
  replace HB := Lib.hid (HB.out.trans (hb.mono HB.out.size))
  clear hb S2
  go_wp2_with fail
  refine (O4.out _ HB.out).mono ?_
  rintro e u8 ⟨rfl, hb⟩
  replace HB := Lib.hid (HB.out.trans (hb.mono HB.out.size))
  clear hb O4
  go_wp2_with fail
  refine (A1.out _ HB.out).mono ?_
  rintro e u9 ⟨rfl, hb⟩
  replace HB := Lib.hid (HB.out.trans (hb.mono HB.out.size))
  clear hb A1
  go_wp2_with fail
  refine (A2.out _ HB.out).mono ?_
  rintro e u10 ⟨rfl, hb⟩
  replace HB := Lib.hid (HB.out.trans (hb.mono HB.out.size))
  clear hb A2
  go_wp2_with fail
  refine (O5.out _ HB.out).mono ?_
  rintro e u11 ⟨rfl, hb⟩
  replace HB := Lib.hid (HB.out.trans (hb.mono HB.out.size))
  clear hb O5
  go_wp2_with fail
  refine (P1.out _ HB.out).mono ?_
  rintro e u12 ⟨rfl, hb⟩
  replace HB := Lib.hid (HB.out.trans (hb.mono HB.out.size))
  clear hb P1
  go_wp2_with fail
  refine (P2.out _ HB.out).mono ?_
  rintro e u13 ⟨rfl, hb⟩
  replace HB := Lib.hid (HB.out.trans (hb.mono HB.out.size))
  clear hb P2
  go_wp2_with fail
  refine (O6.out _ HB.out).mono ?_
  rintro e u14 ⟨rfl, hb⟩
  replace HB := Lib.hid (HB.out.trans (hb.mono HB.out.size))
  clear hb O6
  rcases HSR.out with rfl | rfl | rfl
  · go_wp2_with fail
    go_ret
    exact ⟨rfl, HB.out⟩
  · go_wp2_with fail
    go_ret
    exact ⟨rfl, HB.out⟩
  · go_wp2_with fail
    go_ret
    exact ⟨rfl, HB.out⟩

end Go.Proofs.YtadkijaofmcgfaaGreatDoor
