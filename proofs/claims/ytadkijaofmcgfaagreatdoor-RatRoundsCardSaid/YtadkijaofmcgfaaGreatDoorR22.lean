/-
  RatRounds returns true for any text.
-/
import Derived.Test.YtadkijaofmcgfaaGreatDoorP27
import Derived.Test.YtadkijaofmcgfaaGreatDoorP28
import Derived.Test.YtadkijaofmcgfaaGreatDoorR21
namespace Go.Proofs.YtadkijaofmcgfaaGreatDoor
open Go.RowKit NV
open Go.Lib (decDigits)

theorem flQ_le (q : Rat) : cmpQ (flQ q) q ≤ 0 := cmpQ_le.2 (Rat.floor_le q)
theorem lt_flQ (q : Rat) : cmpQ q (flQ q + 1) = -1 := by
  apply cmpQ_lt
  have := Rat.lt_floor_add_one q
  rw [Rat.intCast_add] at this
  exact this
/-- Both roundings are the same just for integers. -/
theorem fl_both (q : Rat) : flQ q = -flQ (-q) ↔ flQ q = q := by
  constructor
  · intro h
    apply Rat.le_antisymm (Rat.floor_le q)
    show q ≤ flQ q
    rw [h]
    have := Rat.neg_le_neg (Rat.floor_le (-q))
    rwa [Rat.neg_neg] at this
  · intro h
    have e : -q = ((-q.floor : Int) : Rat) := by rw [Rat.intCast_neg]; exact congrArg _ h.symm
    have : flQ (-q) = -q := by
      show (((-q).floor : Int) : Rat) = -q
      rw [e, Rat.floor_intCast]
    rw [this, Rat.neg_neg]; exact h

theorem Sz.floor {i : Nat} {p : Rat} (hp : Sz i p) : Sz (i + 1) (flQ p) := by
  obtain ⟨h1, h2, h3⟩ := fl_parts p
  have h10 : 0 < 10 ^ i := Nat.pow_pos (by omega)
  constructor
  · rw [h3, Nat.pow_succ]
    have := Nat.lt_of_le_of_lt (Nat.div_le_self (tp p) p.den) hp.1
    split <;> omega
  · rw [h1, Nat.pow_succ]; omega

theorem str_beq (s t : ByteArray) : (s.toList == t.toList) = decide (s = t) := by
  rw [Go.Lib.toList_data, Go.Lib.toList_data]
  by_cases h : s = t
  · subst h; simp
  · rw [decide_eq_false h, beq_eq_false_iff_ne]; exact fun e => h (ba_ext e)

set_option maxHeartbeats 3200000 in
set_option maxRecDepth 100000 in
theorem rounds_no (s : ByteArray) (w : World) (htab : Tab w) (hm : ML w) (hs : s.size ≤ 140737488351232) (hv : allV2 1000 [s] = false) :
    Calls Tryz.prog 9 #[.string s] w fun e w' => e = .returned (.bool true) ∧ Below w.heap.size w w' := by
  have HL := Lib.hid (lives2_any w htab hm)
  have HV := Lib.hid (fun (W : World) => valid2_any (W.alloc (.cells #[.string s] 23)) W.heap.size 1000 [s] (by simp) (by simp) (by omega) (by intro x hx; simp at hx; rcases hx with rfl; assumption) (one_cell2 s _))
  rw [hv] at HV
  clear htab hm hv
  go_enter Tryz.func9, Tryz.ntmps9
  go_wp2_with fail
  refine HL.out.mono ?_
  rintro e w1 ⟨rfl, hb1⟩
  have HB1 := Lib.hid hb1
  clear hb1
  go_wp2_with fail
  refine (HV.out w1).mono ?_
  rintro e w2 ⟨rfl, hb2⟩
  have hb3 := HB1.out.alloc HB1.out.size (.cells #[.string s] 23)
  have HB2 := Lib.hid (hb3.trans (hb2.mono hb3.size))
  clear hb2 hb3
  go_wp2_with fail
  go_ret
  exact ⟨rfl, HB2.out⟩

set_option maxHeartbeats 12800000 in
set_option maxRecDepth 100000 in
theorem rounds_int (a : Rat) (w : World) (htab : Tab w) (hm : ML w) (hv : allV2 1000 [qstr a] = true) (hA : Sz 1000 a) (hi : flQ a = a) :
    Calls Tryz.prog 9 #[.string (qstr a)] w fun e w' => e = .returned (.bool true) ∧ Below w.heap.size w w' := by
  have ok_a : QOk a := hA.qok (by omega) (by omega)
  have ok_f : QOk (flQ a) := hA.floor.qok (by omega) (by omega)
  have ok_n : QOk (-a) := hA.neg.qok (by omega) (by omega)
  have ok_d : QOk (flQ (-a)) := hA.neg.floor.qok (by omega) (by omega)
  have ok_c : QOk (-flQ (-a)) := hA.neg.floor.neg.qok (by omega) (by omega)
  have ok_s : QOk (flQ a + 1) := (hA.floor.add (show Sz 1 1 from ⟨by decide, by decide⟩)).qok (by omega) (by omega)
  have hfc : (decide (qstr (flQ a) = qstr (-flQ (-a)))) = true := by
    rw [← (fl_both a).2 hi]; exact decide_eq_true rfl
  have hfa : (decide (qstr (flQ a) = qstr a)) = true := by
    rw [hi]; exact decide_eq_true rfl
  have hd1 : ((dstr (flQ a).den).toList == [49]) = true := lit_eq [49] _ (by rw [(fl_parts a).1, dstr_one])
  have HL := Lib.hid (lives2_any w htab hm)
  have HV := Lib.hid (fun (W : World) => valid2_any (W.alloc (.cells #[.string (qstr a)] 23)) W.heap.size 1000 [qstr a] (by simp) (by simp) (by omega) (by intro x hx; simp at hx; rcases hx with rfl; exact Nat.le_trans (qstr_size (by assumption)) (by omega)) (one_cell2 _ _))
  rw [hv] at HV
  have I1 := Lib.hid (fun W (h : Below w.heap.size w W) => rq_done (Floor_q a ok_a W (htab.below h) (ml_keep hm (ml_pos hm) h)) rfl ok_f)
  have I2 := Lib.hid (fun W (h : Below w.heap.size w W) => rq_done (Ceil_q a ok_a W (htab.below h) (ml_keep hm (ml_pos hm) h)) rfl ok_c)
  have I3 := Lib.hid (fun W (h : Below w.heap.size w W) => rq_done (Neg_q a ok_a W (htab.below h) (ml_keep hm (ml_pos hm) h)) rfl ok_n)
  have I4 := Lib.hid (fun W (h : Below w.heap.size w W) => rq_done (Floor_q (-a) ok_n W (htab.below h) (ml_keep hm (ml_pos hm) h)) rfl ok_d)
  have I5 := Lib.hid (fun W (h : Below w.heap.size w W) => rq_done (Neg_q (flQ (-a)) ok_d W (htab.below h) (ml_keep hm (ml_pos hm) h)) rfl ok_c)
  have I6 := Lib.hid (fun W (h : Below w.heap.size w W) => Parts_q (flQ a) ok_f W (ml_keep hm (ml_pos hm) h))
  have I7 := Lib.hid (fun W (h : Below w.heap.size w W) => order_of (Cmp_q (flQ a) a ok_f ok_a W (ml_keep hm (ml_pos hm) h)))
  have I8 := Lib.hid (fun W (h : Below w.heap.size w W) => sum_of (rq_done (Add_q (flQ a) 1 ok_f one_ok' W (htab.below h) (ml_keep hm (ml_pos hm) h)) rfl ok_s))
  have I9 := Lib.hid (fun W (h : Below w.heap.size w W) => order_of (Cmp_q a (flQ a + 1) ok_a ok_s W (ml_keep hm (ml_pos hm) h)))
  have hle := flQ_le a
  rw [lt_flQ] at I9
  rw [qstr_one] at I8
  rw [← str_beq] at hfc hfa
  generalize istr (ng (flQ a)) (tp (flQ a)) = ti at *
  generalize dstr (flQ a).den = td at *
  generalize cmpQ (flQ a) a = x at *
  generalize qstr (flQ a + 1) = ts at *
  generalize qstr (-flQ (-a)) = tc at *
  generalize qstr (flQ (-a)) = tdn at *
  generalize qstr (flQ a) = tf at *
  generalize qstr (-a) = tn at *
  generalize qstr a = ta at *
  have HB := Lib.hid (Below.refl w.heap.size w)
  clear htab hm hv hA hi ok_a ok_f ok_n ok_d ok_c ok_s
  go_enter Tryz.func9, Tryz.ntmps9
  go_wp2_with fail
  refine HL.out.mono ?_
  rintro e w1 ⟨rfl, hb1⟩
  replace HB := Lib.hid (HB.out.trans (hb1.mono HB.out.size))
  clear hb1 HL
  go_wp2_with fail
  refine (HV.out w1).mono ?_
  rintro e w2 ⟨rfl, hb2⟩
  have hb3 := HB.out.alloc HB.out.size (.cells #[.string ta] 23)
  replace HB := Lib.hid (hb3.trans (hb2.mono hb3.size))
  clear hb2 hb3 HV
  go_wp2_with fail
  refine (I1.out _ HB.out).mono ?_
  rintro e u0 ⟨rfl, hb⟩
  replace HB := Lib.hid (HB.out.trans (hb.mono HB.out.size))
  clear hb I1
  go_wp2_with fail
  refine (I2.out _ HB.out).mono ?_
  rintro e u1 ⟨rfl, hb⟩
  replace HB := Lib.hid (HB.out.trans (hb.mono HB.out.size))
  clear hb I2
  go_wp2_with fail
  refine (I3.out _ HB.out).mono ?_
  rintro e u2 ⟨rfl, hb⟩
  replace HB := Lib.hid (HB.out.trans (hb.mono HB.out.size))
  clear hb I3
  go_wp2_with fail
  refine (I4.out _ HB.out).mono ?_
  rintro e u3 ⟨rfl, hb⟩
  replace HB := Lib.hid (HB.out.trans (hb.mono HB.out.size))
  clear hb I4
  go_wp2_with fail
  refine (I5.out _ HB.out).mono ?_
  rintro e u4 ⟨rfl, hb⟩
  replace HB := Lib.hid (HB.out.trans (hb.mono HB.out.size))
  clear hb I5
  go_wp2_with fail
  refine (I6.out _ HB.out).mono ?_
  rintro e u5 ⟨rfl, hb⟩
  replace HB := Lib.hid (HB.out.trans (hb.mono HB.out.size))
  clear hb I6
  go_wp2_with fail
  refine (I7.out _ HB.out).mono ?_
  rintro e u6 ⟨rfl, hb⟩
  replace HB := Lib.hid (HB.out.trans (hb.mono HB.out.size))
  clear hb I7
  go_wp2_with fail
  refine (I8.out _ HB.out).mono ?_
  rintro e u7 ⟨rfl, hb⟩
  replace HB := Lib.hid (HB.out.trans (hb.mono HB.out.size))
  clear hb I8
  go_wp2_with fail
  refine (I9.out _ HB.out).mono ?_
  rintro e u8 ⟨rfl, hb⟩
  replace HB := Lib.hid (HB.out.trans (hb.mono HB.out.size))
  clear hb I9
  go_wp2_with fail
  go_ret
  exact ⟨rfl, HB.out⟩

set_option maxHeartbeats 12800000 in
set_option maxRecDepth 100000 in
theorem rounds_not (a : Rat) (w : World) (htab : Tab w) (hm : ML w) (hv : allV2 1000 [qstr a] = true) (hA : Sz 1000 a) (hi : ¬ flQ a = a) :
    Calls Tryz.prog 9 #[.string (qstr a)] w fun e w' => e = .returned (.bool true) ∧ Below w.heap.size w w' := by
  have ok_a : QOk a := hA.qok (by omega) (by omega)
  have ok_f : QOk (flQ a) := hA.floor.qok (by omega) (by omega)
  have ok_n : QOk (-a) := hA.neg.qok (by omega) (by omega)
  have ok_d : QOk (flQ (-a)) := hA.neg.floor.qok (by omega) (by omega)
  have ok_c : QOk (-flQ (-a)) := hA.neg.floor.neg.qok (by omega) (by omega)
  have ok_s : QOk (flQ a + 1) := (hA.floor.add (show Sz 1 1 from ⟨by decide, by decide⟩)).qok (by omega) (by omega)
  have hfc : (decide (qstr (flQ a) = qstr (-flQ (-a)))) = false := by
    exact decide_eq_false (fun e => hi ((fl_both a).1 (qstr_inj e)))
  have hfa : (decide (qstr (flQ a) = qstr a)) = false := by
    exact decide_eq_false (fun e => hi (qstr_inj e))
  have hd1 : ((dstr (flQ a).den).toList == [49]) = true := lit_eq [49] _ (by rw [(fl_parts a).1, dstr_one])
  have HL := Lib.hid (lives2_any w htab hm)
  have HV := Lib.hid (fun (W : World) => valid2_any (W.alloc (.cells #[.string (qstr a)] 23)) W.heap.size 1000 [qstr a] (by simp) (by simp) (by omega) (by intro x hx; simp at hx; rcases hx with rfl; exact Nat.le_trans (qstr_size (by assumption)) (by omega)) (one_cell2 _ _))
  rw [hv] at HV
  have I1 := Lib.hid (fun W (h : Below w.heap.size w W) => rq_done (Floor_q a ok_a W (htab.below h) (ml_keep hm (ml_pos hm) h)) rfl ok_f)
  have I2 := Lib.hid (fun W (h : Below w.heap.size w W) => rq_done (Ceil_q a ok_a W (htab.below h) (ml_keep hm (ml_pos hm) h)) rfl ok_c)
  have I3 := Lib.hid (fun W (h : Below w.heap.size w W) => rq_done (Neg_q a ok_a W (htab.below h) (ml_keep hm (ml_pos hm) h)) rfl ok_n)
  have I4 := Lib.hid (fun W (h : Below w.heap.size w W) => rq_done (Floor_q (-a) ok_n W (htab.below h) (ml_keep hm (ml_pos hm) h)) rfl ok_d)
  have I5 := Lib.hid (fun W (h : Below w.heap.size w W) => rq_done (Neg_q (flQ (-a)) ok_d W (htab.below h) (ml_keep hm (ml_pos hm) h)) rfl ok_c)
  have I6 := Lib.hid (fun W (h : Below w.heap.size w W) => Parts_q (flQ a) ok_f W (ml_keep hm (ml_pos hm) h))
  have I7 := Lib.hid (fun W (h : Below w.heap.size w W) => order_of (Cmp_q (flQ a) a ok_f ok_a W (ml_keep hm (ml_pos hm) h)))
  have I8 := Lib.hid (fun W (h : Below w.heap.size w W) => sum_of (rq_done (Add_q (flQ a) 1 ok_f one_ok' W (htab.below h) (ml_keep hm (ml_pos hm) h)) rfl ok_s))
  have I9 := Lib.hid (fun W (h : Below w.heap.size w W) => order_of (Cmp_q a (flQ a + 1) ok_a ok_s W (ml_keep hm (ml_pos hm) h)))
  have hle := flQ_le a
  rw [lt_flQ] at I9
  rw [qstr_one] at I8
  rw [← str_beq] at hfc hfa
  generalize istr (ng (flQ a)) (tp (flQ a)) = ti at *
  generalize dstr (flQ a).den = td at *
  generalize cmpQ (flQ a) a = x at *
  generalize qstr (flQ a + 1) = ts at *
  generalize qstr (-flQ (-a)) = tc at *
  generalize qstr (flQ (-a)) = tdn at *
  generalize qstr (flQ a) = tf at *
  generalize qstr (-a) = tn at *
  generalize qstr a = ta at *
  have HB := Lib.hid (Below.refl w.heap.size w)
  clear htab hm hv hA hi ok_a ok_f ok_n ok_d ok_c ok_s
  go_enter Tryz.func9, Tryz.ntmps9
  go_wp2_with fail
  refine HL.out.mono ?_
  rintro e w1 ⟨rfl, hb1⟩
  replace HB := Lib.hid (HB.out.trans (hb1.mono HB.out.size))
  clear hb1 HL
  go_wp2_with fail
  refine (HV.out w1).mono ?_
  rintro e w2 ⟨rfl, hb2⟩
  have hb3 := HB.out.alloc HB.out.size (.cells #[.string ta] 23)
  replace HB := Lib.hid (hb3.trans (hb2.mono hb3.size))
  clear hb2 hb3 HV
  go_wp2_with fail
  refine (I1.out _ HB.out).mono ?_
  rintro e u0 ⟨rfl, hb⟩
  replace HB := Lib.hid (HB.out.trans (hb.mono HB.out.size))
  clear hb I1
  go_wp2_with fail
  refine (I2.out _ HB.out).mono ?_
  rintro e u1 ⟨rfl, hb⟩
  replace HB := Lib.hid (HB.out.trans (hb.mono HB.out.size))
  clear hb I2
  go_wp2_with fail
  refine (I3.out _ HB.out).mono ?_
  rintro e u2 ⟨rfl, hb⟩
  replace HB := Lib.hid (HB.out.trans (hb.mono HB.out.size))
  clear hb I3
  go_wp2_with fail
  refine (I4.out _ HB.out).mono ?_
  rintro e u3 ⟨rfl, hb⟩
  replace HB := Lib.hid (HB.out.trans (hb.mono HB.out.size))
  clear hb I4
  go_wp2_with fail
  refine (I5.out _ HB.out).mono ?_
  rintro e u4 ⟨rfl, hb⟩
  replace HB := Lib.hid (HB.out.trans (hb.mono HB.out.size))
  clear hb I5
  go_wp2_with fail
  refine (I6.out _ HB.out).mono ?_
  rintro e u5 ⟨rfl, hb⟩
  replace HB := Lib.hid (HB.out.trans (hb.mono HB.out.size))
  clear hb I6
  go_wp2_with fail
  refine (I7.out _ HB.out).mono ?_
  rintro e u6 ⟨rfl, hb⟩
  replace HB := Lib.hid (HB.out.trans (hb.mono HB.out.size))
  clear hb I7
  go_wp2_with fail
  refine (I8.out _ HB.out).mono ?_
  rintro e u7 ⟨rfl, hb⟩
  replace HB := Lib.hid (HB.out.trans (hb.mono HB.out.size))
  clear hb I8
  go_wp2_with fail
  refine (I9.out _ HB.out).mono ?_
  rintro e u8 ⟨rfl, hb⟩
  replace HB := Lib.hid (HB.out.trans (hb.mono HB.out.size))
  clear hb I9
  go_wp2_with fail
  go_ret
  exact ⟨rfl, HB.out⟩

end Go.Proofs.YtadkijaofmcgfaaGreatDoor
