/-
  The reference's Pow with an exponent below 0; Pow of both.
-/
import Derived.Test.YtgeohcpmoleocaaGreatDoorU19
namespace Go.Proofs.YtgeohcpmoleocaaGreatDoor
open Go.RowKit NV
open Go.Lib (decDigits)

theorem qok_inv {p r : Rat} (op : QOk p) (h0 : p ≠ 0) (hr : r = p⁻¹) : QOk r := by
  obtain ⟨h1, h2, _⟩ := inv_parts h0
  rw [hr]; exact ⟨by rw [h1]; exact op.2, by rw [h2]; exact op.1⟩

theorem rodd_min (w : World) :
    Calls Tryz.prog 89 #[.int .i64 (-9223372036854775808)] w fun e w' => e = .returned (.bool false) ∧ w = w' := by
  go_enter Tryz.func89, Tryz.ntmps89
  go_wp2_with fail
  go_ret
  exact ⟨ret_bool (by decide), rfl⟩

set_option maxHeartbeats 3200000 in
set_option maxRecDepth 100000 in
theorem rPow_zero {p : Rat} {n : Int} (w : World) (op : QOk p) (h0 : p = 0) (hn : n < 0) :
    Calls Tryz.prog 24 #[.string (qstr p), .int .i64 n] w (E2 6 w) := by
  have HT := Lib.hid (rread_q op w)
  have hl : ln (tp p) = 0 := by rw [h0]; exact ln_zero
  unfold E2
  clear h0
  clear op
  generalize qstr p = sp at HT ⊢
  go_enter Tryz.func24, Tryz.ntmps24
  go_wp2_with fail
  refine HT.out.mono ?_
  rintro e w1 ⟨v, rfl, hv, hb1⟩
  obtain ⟨a1, k1, a2, k2, rfl⟩ := hv.form
  rw [hl]
  obtain ⟨hb2, hq1⟩ := one_newQ w1 (ng p) (.slice a1 0 k1) (.slice a2 (ln p.den) k2)
  have HB := Lib.hid (hb1.trans (hb2.mono hb1.size))
  clear hv hb1 hb2 HT hl
  have c1 := hq1.c1
  clear hq1
  go_wp2_with fail
  go_ret2
  exact ⟨rfl, HB.out⟩

set_option maxHeartbeats 6400000 in
set_option maxRecDepth 100000 in
theorem rPow_neg_p {p r : Rat} {k : Nat} (w : World) (op : QOk p) (h0 : p ≠ 0) (hr : r = p⁻¹) (hk0 : 0 < k) (hk : k < 9223372036854775808) (hm : ng p = false) :
    Calls Tryz.prog 24 #[.string (qstr p), .int .i64 (-(k : Int))] w (RQ (r ^ k) w) := by
  have HT := Lib.hid (rread_q op w)
  unfold RQ
  obtain ⟨⟨t1, t2⟩, hT⟩ : ∃ T, wQ (r ^ k) = T := ⟨_, rfl⟩
  rw [hT]
  have HTT := Lib.hid hT
  clear hT
  obtain ⟨dd, hdd⟩ : ∃ dd, dd = decide (k % 2 = 1) := ⟨_, rfl⟩
  have HO := Lib.hid (qok_inv op h0 hr)
  have hm2 : ng r = false := by rw [hr, (inv_parts h0).2.2, hm]
  have HK := Lib.hid (show k ≤ 9223372036854775807 by omega)
  have MM := Lib.hid (show false = (ng r && decide (k % 2 = 1)) by rw [hm2]; (first | (rw [hdd]; simp) | simp))
  have HN := Lib.hid (And.intro h0 hr)
  have hl : (((ln (tp p) : Nat) : Int) == 0) = false := by
    have := ln_pos (tp_ne h0)
    rw [beq_eq_false_iff_ne]; omega
  have n1 : -(k : Int) < 0 := by omega
  have n2 : (-(k : Int) == -9223372036854775808) = false := by rw [beq_eq_false_iff_ne]; omega
  clear op h0 hr hdd hk0
  generalize qstr p = sp at HT ⊢
  go_enter Tryz.func24, Tryz.ntmps24
  go_wp2_with fail
  refine HT.out.mono ?_
  rintro e w1 ⟨v, rfl, hv, hb1⟩
  obtain ⟨a1, k1, a2, k2, rfl⟩ := hv.form
  rw [hm]
  obtain ⟨hb2, hq1⟩ := one_newQ w1 false (.slice a1 (ln (tp p)) k1) (.slice a2 (ln p.den) k2)
  have hv2 := hv.below hb2
  rw [hm] at hv2
  have HV := Lib.hid hv2
  have HB := Lib.hid (hb1.trans (hb2.mono hb1.size))
  have HQ1 := Lib.hid hq1
  have HSZ := Lib.hid hb1.size
  have c0 := hq1.c0
  have c1 := hq1.c1
  have c2 := hq1.c2
  clear hv hb1 hb2 hq1 hv2 HT
  go_wp2_with fail
  generalize w1.alloc (.cells #[.bool false, .slice a1 (ln (tp p)) k1, .slice a2 (ln p.den) k2] 88) = w2 at HV HB HQ1 c0 c1 c2 ⊢
  refine (rover_r HV.out HN.out.1 HN.out.2).mono ?_
  rintro e w3 ⟨z, rfl, hz, hb3⟩
  obtain ⟨a5, k5, a6, k6, rfl⟩ := hz.form
  obtain ⟨_, hx1, hy1⟩ := hz.nums
  replace HB := Lib.hid (HB.out.trans (hb3.mono HB.out.size))
  replace HQ1 := Lib.hid (HQ1.out.keep hb3)
  rw [hm2]
  have HX := Lib.hid (hx1.st3 HQ1.out false (.slice a5 (ln (tp r)) k5) (.slice a6 (ln r.den) k6))
  have HY := Lib.hid (hy1.st3 HQ1.out false (.slice a5 (ln (tp r)) k5) (.slice a6 (ln r.den) k6))
  clear hz hx1 hy1 hb3 HV c0 c1 c2
  have i0 := HQ1.out.c0
  have i1 := HQ1.out.c1
  have i2 := HQ1.out.c2
  have j0 := HQ1.out.z0
  have j1 := HQ1.out.z1
  have j2 := HQ1.out.z2
  replace HQ1 := Lib.hid (HQ1.out.st false (.slice a5 (ln (tp r)) k5) (.slice a6 (ln r.den) k6))
  replace HB := Lib.hid (below_st3 HB.out HSZ.out false (.slice a5 (ln (tp r)) k5) (.slice a6 (ln r.den) k6))
  have c0 := HQ1.out.c0
  have c1 := HQ1.out.c1
  have c2 := HQ1.out.c2
  unfold st3 at c0 c1 c2
  go_wp2_with fail
  change Calls Tryz.prog 90 _ (st3 w3 w1.heap.size false (.slice a5 (ln (tp r)) k5) (.slice a6 (ln r.den) k6)) _
  clear i0 i1 i2 j0 j1 j2
  generalize st3 w3 w1.heap.size false (.slice a5 (ln (tp r)) k5) (.slice a6 (ln r.den) k6) = w5 at HX HY HB HQ1 ⊢
  refine (ipower_any (a := tp r) (n := k) HX.out HO.out.1 HK.out).mono ?_
  rintro e w3 ⟨v1, rfl, hp1, hb3⟩
  replace HB := Lib.hid (HB.out.trans (hb3.mono HB.out.size))
  replace HQ1 := Lib.hid (HQ1.out.keep hb3)
  replace HY := Lib.hid (HY.out.below hb3)
  have HP1 := Lib.hid hp1
  have i2 := HQ1.out.c2
  clear hp1 hb3 HX c0 c1 c2
  go_wp2_with fail
  refine (ipower_any (a := r.den) (n := k) HY.out HO.out.2 HK.out).mono ?_
  rintro e w4 ⟨v2, rfl, hp2, hb4⟩
  replace HB := Lib.hid (HB.out.trans (hb4.mono HB.out.size))
  have HP2 := Lib.hid hp2
  have HB4 := Lib.hid hb4
  clear hp2 hb4 HY HQ1 i2
  by_cases ho : QOk (r ^ k)
  · obtain ⟨f1, f2, o1, o2⟩ := yes_fit ho
    rw [f1, f2]
    have hn1 := (HP1.out o1).below HB4.out
    have hn2 := HP2.out o2
    have hw := rwrite_q (qq_pow (p := r) (k := k) MM.out hn1 hn2) (ho.ql.mono (by omega))
    unfold RQ at hw
    rw [HTT.out] at hw
    have HW := Lib.hid hw
    clear hw
    obtain ⟨a7, k7, rfl⟩ := islice_any hn1
    obtain ⟨a8, k8, rfl⟩ := islice_any hn2
    clear hn1 hn2 f1 f2 o1 o2 ho HP1 HP2 HO HK HB4 MM HTT
    go_wp2_with fail
    refine HW.out.mono ?_
    rintro e w5 ⟨rfl, hb5⟩
    replace HB := Lib.hid (HB.out.trans (hb5.mono HB.out.size))
    clear hb5 HW
    go_wp2_with fail
    go_ret2
    exact ⟨rfl, HB.out⟩
  · obtain ⟨rfl, rfl⟩ : t1 = ⟨#[]⟩ ∧ t2 = 5 := by have := HTT.out.symm.trans (wQ_no ho); exact ⟨congrArg Prod.fst this, congrArg Prod.snd this⟩
    rcases not_fit ho with f1 | ⟨f1, f2⟩
    · rw [f1]
      clear f1 ho HP1 HP2 HO HK HB4 MM HTT
      go_wp2_with fail
      go_ret2
      exact ⟨rfl, HB.out⟩
    · rw [f1, f2]
      clear f1 f2 ho HP1 HP2 HO HK HB4 MM HTT
      go_wp2_with fail
      go_ret2
      exact ⟨rfl, HB.out⟩

set_option maxHeartbeats 6400000 in
set_option maxRecDepth 100000 in
theorem rPow_neg_m {p r : Rat} {k : Nat} (w : World) (op : QOk p) (h0 : p ≠ 0) (hr : r = p⁻¹) (hk0 : 0 < k) (hk : k < 9223372036854775808) (hm : ng p = true) :
    Calls Tryz.prog 24 #[.string (qstr p), .int .i64 (-(k : Int))] w (RQ (r ^ k) w) := by
  have HT := Lib.hid (rread_q op w)
  unfold RQ
  obtain ⟨⟨t1, t2⟩, hT⟩ : ∃ T, wQ (r ^ k) = T := ⟨_, rfl⟩
  rw [hT]
  have HTT := Lib.hid hT
  clear hT
  obtain ⟨dd, hdd⟩ : ∃ dd, dd = decide (k % 2 = 1) := ⟨_, rfl⟩
  have HO := Lib.hid (qok_inv op h0 hr)
  have hm2 : ng r = true := by rw [hr, (inv_parts h0).2.2, hm]
  have HK := Lib.hid (show k ≤ 9223372036854775807 by omega)
  have MM := Lib.hid (show dd = (ng r && decide (k % 2 = 1)) by rw [hm2]; (first | (rw [hdd]; simp) | simp))
  have HN := Lib.hid (And.intro h0 hr)
  have hl : (((ln (tp p) : Nat) : Int) == 0) = false := by
    have := ln_pos (tp_ne h0)
    rw [beq_eq_false_iff_ne]; omega
  have n1 : -(k : Int) < 0 := by omega
  have n2 : (-(k : Int) == -9223372036854775808) = false := by rw [beq_eq_false_iff_ne]; omega
  have HODD := Lib.hid (show ∀ W, Calls Tryz.prog 89 #[.int .i64 (-(k : Int))] W fun e w' => e = .returned (.bool dd) ∧ W = w' from fun W => hdd ▸ rodd_neg k W)
  clear op h0 hr hdd hk0
  generalize qstr p = sp at HT ⊢
  go_enter Tryz.func24, Tryz.ntmps24
  go_wp2_with fail
  refine HT.out.mono ?_
  rintro e w1 ⟨v, rfl, hv, hb1⟩
  obtain ⟨a1, k1, a2, k2, rfl⟩ := hv.form
  rw [hm]
  obtain ⟨hb2, hq1⟩ := one_newQ w1 true (.slice a1 (ln (tp p)) k1) (.slice a2 (ln p.den) k2)
  have hv2 := hv.below hb2
  rw [hm] at hv2
  have HV := Lib.hid hv2
  have HB := Lib.hid (hb1.trans (hb2.mono hb1.size))
  have HQ1 := Lib.hid hq1
  have HSZ := Lib.hid hb1.size
  have c0 := hq1.c0
  have c1 := hq1.c1
  have c2 := hq1.c2
  clear hv hb1 hb2 hq1 hv2 HT
  go_wp2_with fail
  generalize w1.alloc (.cells #[.bool true, .slice a1 (ln (tp p)) k1, .slice a2 (ln p.den) k2] 88) = w2 at HV HB HQ1 c0 c1 c2 ⊢
  refine (rover_r HV.out HN.out.1 HN.out.2).mono ?_
  rintro e w3 ⟨z, rfl, hz, hb3⟩
  obtain ⟨a5, k5, a6, k6, rfl⟩ := hz.form
  obtain ⟨_, hx1, hy1⟩ := hz.nums
  replace HB := Lib.hid (HB.out.trans (hb3.mono HB.out.size))
  replace HQ1 := Lib.hid (HQ1.out.keep hb3)
  rw [hm2]
  have HX := Lib.hid (hx1.st3 HQ1.out true (.slice a5 (ln (tp r)) k5) (.slice a6 (ln r.den) k6))
  have HY := Lib.hid (hy1.st3 HQ1.out true (.slice a5 (ln (tp r)) k5) (.slice a6 (ln r.den) k6))
  clear hz hx1 hy1 hb3 HV c0 c1 c2
  have i0 := HQ1.out.c0
  have i1 := HQ1.out.c1
  have i2 := HQ1.out.c2
  have j0 := HQ1.out.z0
  have j1 := HQ1.out.z1
  have j2 := HQ1.out.z2
  replace HQ1 := Lib.hid (HQ1.out.st true (.slice a5 (ln (tp r)) k5) (.slice a6 (ln r.den) k6))
  replace HB := Lib.hid (below_st3 HB.out HSZ.out true (.slice a5 (ln (tp r)) k5) (.slice a6 (ln r.den) k6))
  have c0 := HQ1.out.c0
  have c1 := HQ1.out.c1
  have c2 := HQ1.out.c2
  unfold st3 at c0 c1 c2
  go_wp2_with fail
  refine (HODD.out _).mono ?_
  rintro e w4 ⟨rfl, rfl⟩
  clear HODD
  go_wp2_with fail
  change Calls Tryz.prog 90 _ (st3 w3 w1.heap.size true (.slice a5 (ln (tp r)) k5) (.slice a6 (ln r.den) k6)) _
  clear i0 i1 i2 j0 j1 j2
  generalize st3 w3 w1.heap.size true (.slice a5 (ln (tp r)) k5) (.slice a6 (ln r.den) k6) = w5 at HX HY HB HQ1 ⊢
  refine (ipower_any (a := tp r) (n := k) HX.out HO.out.1 HK.out).mono ?_
  rintro e w3 ⟨v1, rfl, hp1, hb3⟩
  replace HB := Lib.hid (HB.out.trans (hb3.mono HB.out.size))
  replace HQ1 := Lib.hid (HQ1.out.keep hb3)
  replace HY := Lib.hid (HY.out.below hb3)
  have HP1 := Lib.hid hp1
  have i2 := HQ1.out.c2
  clear hp1 hb3 HX c0 c1 c2
  go_wp2_with fail
  refine (ipower_any (a := r.den) (n := k) HY.out HO.out.2 HK.out).mono ?_
  rintro e w4 ⟨v2, rfl, hp2, hb4⟩
  replace HB := Lib.hid (HB.out.trans (hb4.mono HB.out.size))
  have HP2 := Lib.hid hp2
  have HB4 := Lib.hid hb4
  clear hp2 hb4 HY HQ1 i2
  by_cases ho : QOk (r ^ k)
  · obtain ⟨f1, f2, o1, o2⟩ := yes_fit ho
    rw [f1, f2]
    have hn1 := (HP1.out o1).below HB4.out
    have hn2 := HP2.out o2
    have hw := rwrite_q (qq_pow (p := r) (k := k) MM.out hn1 hn2) (ho.ql.mono (by omega))
    unfold RQ at hw
    rw [HTT.out] at hw
    have HW := Lib.hid hw
    clear hw
    obtain ⟨a7, k7, rfl⟩ := islice_any hn1
    obtain ⟨a8, k8, rfl⟩ := islice_any hn2
    clear hn1 hn2 f1 f2 o1 o2 ho HP1 HP2 HO HK HB4 MM HTT
    go_wp2_with fail
    refine HW.out.mono ?_
    rintro e w5 ⟨rfl, hb5⟩
    replace HB := Lib.hid (HB.out.trans (hb5.mono HB.out.size))
    clear hb5 HW
    go_wp2_with fail
    go_ret2
    exact ⟨rfl, HB.out⟩
  · obtain ⟨rfl, rfl⟩ : t1 = ⟨#[]⟩ ∧ t2 = 5 := by have := HTT.out.symm.trans (wQ_no ho); exact ⟨congrArg Prod.fst this, congrArg Prod.snd this⟩
    rcases not_fit ho with f1 | ⟨f1, f2⟩
    · rw [f1]
      clear f1 ho HP1 HP2 HO HK HB4 MM HTT
      go_wp2_with fail
      go_ret2
      exact ⟨rfl, HB.out⟩
    · rw [f1, f2]
      clear f1 f2 ho HP1 HP2 HO HK HB4 MM HTT
      go_wp2_with fail
      go_ret2
      exact ⟨rfl, HB.out⟩

set_option maxHeartbeats 6400000 in
set_option maxRecDepth 100000 in
theorem rPow_min_p {p r : Rat} {E : Nat} (w : World) (op : QOk p) (h0 : p ≠ 0) (hr : r = p⁻¹) (hE : (E : Int) = 9223372036854775806) (hm : ng p = false) :
    Calls Tryz.prog 24 #[.string (qstr p), .int .i64 (-9223372036854775808)] w (RQ (r ^ E) w) := by
  have HT := Lib.hid (rread_q op w)
  unfold RQ
  obtain ⟨⟨t1, t2⟩, hT⟩ : ∃ T, wQ (r ^ E) = T := ⟨_, rfl⟩
  rw [hT]
  have HTT := Lib.hid hT
  clear hT
  obtain ⟨dd, hdd⟩ : ∃ dd, dd = decide (E % 2 = 1) := ⟨_, rfl⟩
  have HO := Lib.hid (qok_inv op h0 hr)
  have hm2 : ng r = false := by rw [hr, (inv_parts h0).2.2, hm]
  have HK := Lib.hid (show E ≤ 9223372036854775807 by omega)
  have MM := Lib.hid (show false = (ng r && decide (E % 2 = 1)) by rw [hm2]; simp)
  have HN := Lib.hid (And.intro h0 hr)
  have HE := Lib.hid hE
  have hl : (((ln (tp p) : Nat) : Int) == 0) = false := by
    have := ln_pos (tp_ne h0)
    rw [beq_eq_false_iff_ne]; omega
  clear op h0 hr hdd hE
  generalize qstr p = sp at HT ⊢
  go_enter Tryz.func24, Tryz.ntmps24
  go_wp2_with fail
  refine HT.out.mono ?_
  rintro e w1 ⟨v, rfl, hv, hb1⟩
  obtain ⟨a1, k1, a2, k2, rfl⟩ := hv.form
  rw [hm]
  obtain ⟨hb2, hq1⟩ := one_newQ w1 false (.slice a1 (ln (tp p)) k1) (.slice a2 (ln p.den) k2)
  have hv2 := hv.below hb2
  rw [hm] at hv2
  have HV := Lib.hid hv2
  have HB := Lib.hid (hb1.trans (hb2.mono hb1.size))
  have HQ1 := Lib.hid hq1
  have HSZ := Lib.hid hb1.size
  have c0 := hq1.c0
  have c1 := hq1.c1
  have c2 := hq1.c2
  clear hv hb1 hb2 hq1 hv2 HT
  go_wp2_with fail
  generalize w1.alloc (.cells #[.bool false, .slice a1 (ln (tp p)) k1, .slice a2 (ln p.den) k2] 88) = w2 at HV HB HQ1 c0 c1 c2 ⊢
  refine (rover_r HV.out HN.out.1 HN.out.2).mono ?_
  rintro e w3 ⟨z, rfl, hz, hb3⟩
  obtain ⟨a5, k5, a6, k6, rfl⟩ := hz.form
  obtain ⟨_, hx1, hy1⟩ := hz.nums
  replace HB := Lib.hid (HB.out.trans (hb3.mono HB.out.size))
  replace HQ1 := Lib.hid (HQ1.out.keep hb3)
  rw [hm2]
  have HX := Lib.hid (hx1.st3 HQ1.out false (.slice a5 (ln (tp r)) k5) (.slice a6 (ln r.den) k6))
  have HY := Lib.hid (hy1.st3 HQ1.out false (.slice a5 (ln (tp r)) k5) (.slice a6 (ln r.den) k6))
  clear hz hx1 hy1 hb3 HV c0 c1 c2
  have i0 := HQ1.out.c0
  have i1 := HQ1.out.c1
  have i2 := HQ1.out.c2
  have j0 := HQ1.out.z0
  have j1 := HQ1.out.z1
  have j2 := HQ1.out.z2
  replace HQ1 := Lib.hid (HQ1.out.st false (.slice a5 (ln (tp r)) k5) (.slice a6 (ln r.den) k6))
  replace HB := Lib.hid (below_st3 HB.out HSZ.out false (.slice a5 (ln (tp r)) k5) (.slice a6 (ln r.den) k6))
  have c0 := HQ1.out.c0
  have c1 := HQ1.out.c1
  have c2 := HQ1.out.c2
  unfold st3 at c0 c1 c2
  go_wp2_with fail
  change Calls Tryz.prog 90 _ (st3 w3 w1.heap.size false (.slice a5 (ln (tp r)) k5) (.slice a6 (ln r.den) k6)) _
  clear i0 i1 i2 j0 j1 j2
  generalize st3 w3 w1.heap.size false (.slice a5 (ln (tp r)) k5) (.slice a6 (ln r.den) k6) = w5 at HX HY HB HQ1 ⊢
  rw [← HE.out]
  refine (ipower_any (a := tp r) (n := E) HX.out HO.out.1 HK.out).mono ?_
  rintro e w3 ⟨v1, rfl, hp1, hb3⟩
  replace HB := Lib.hid (HB.out.trans (hb3.mono HB.out.size))
  replace HQ1 := Lib.hid (HQ1.out.keep hb3)
  replace HY := Lib.hid (HY.out.below hb3)
  have HP1 := Lib.hid hp1
  have i2 := HQ1.out.c2
  clear hp1 hb3 HX c0 c1 c2
  go_wp2_with fail
  refine (ipower_any (a := r.den) (n := E) HY.out HO.out.2 HK.out).mono ?_
  rintro e w4 ⟨v2, rfl, hp2, hb4⟩
  replace HB := Lib.hid (HB.out.trans (hb4.mono HB.out.size))
  have HP2 := Lib.hid hp2
  have HB4 := Lib.hid hb4
  clear hp2 hb4 HY HQ1 i2
  by_cases ho : QOk (r ^ E)
  · obtain ⟨f1, f2, o1, o2⟩ := yes_fit ho
    rw [f1, f2]
    have hn1 := (HP1.out o1).below HB4.out
    have hn2 := HP2.out o2
    have hw := rwrite_q (qq_pow (p := r) (k := E) MM.out hn1 hn2) (ho.ql.mono (by omega))
    unfold RQ at hw
    rw [HTT.out] at hw
    have HW := Lib.hid hw
    clear hw
    obtain ⟨a7, k7, rfl⟩ := islice_any hn1
    obtain ⟨a8, k8, rfl⟩ := islice_any hn2
    clear hn1 hn2 f1 f2 o1 o2 ho HP1 HP2 HO HK HB4 MM HTT
    go_wp2_with fail
    refine HW.out.mono ?_
    rintro e w5 ⟨rfl, hb5⟩
    replace HB := Lib.hid (HB.out.trans (hb5.mono HB.out.size))
    clear hb5 HW
    go_wp2_with fail
    go_ret2
    exact ⟨rfl, HB.out⟩
  · obtain ⟨rfl, rfl⟩ : t1 = ⟨#[]⟩ ∧ t2 = 5 := by have := HTT.out.symm.trans (wQ_no ho); exact ⟨congrArg Prod.fst this, congrArg Prod.snd this⟩
    rcases not_fit ho with f1 | ⟨f1, f2⟩
    · rw [f1]
      clear f1 ho HP1 HP2 HO HK HB4 MM HTT
      go_wp2_with fail
      go_ret2
      exact ⟨rfl, HB.out⟩
    · rw [f1, f2]
      clear f1 f2 ho HP1 HP2 HO HK HB4 MM HTT
      go_wp2_with fail
      go_ret2
      exact ⟨rfl, HB.out⟩

set_option maxHeartbeats 6400000 in
set_option maxRecDepth 100000 in
theorem rPow_min_m {p r : Rat} {E : Nat} (w : World) (op : QOk p) (h0 : p ≠ 0) (hr : r = p⁻¹) (hE : (E : Int) = 9223372036854775806) (hm : ng p = true) :
    Calls Tryz.prog 24 #[.string (qstr p), .int .i64 (-9223372036854775808)] w (RQ (r ^ E) w) := by
  have HT := Lib.hid (rread_q op w)
  unfold RQ
  obtain ⟨⟨t1, t2⟩, hT⟩ : ∃ T, wQ (r ^ E) = T := ⟨_, rfl⟩
  rw [hT]
  have HTT := Lib.hid hT
  clear hT
  obtain ⟨dd, hdd⟩ : ∃ dd, dd = decide (E % 2 = 1) := ⟨_, rfl⟩
  have HO := Lib.hid (qok_inv op h0 hr)
  have hm2 : ng r = true := by rw [hr, (inv_parts h0).2.2, hm]
  have HODD := Lib.hid (fun W => rodd_min W)
  have HK := Lib.hid (show E ≤ 9223372036854775807 by omega)
  have MM := Lib.hid (show false = (ng r && decide (E % 2 = 1)) by rw [hm2]; rw [show decide (E % 2 = 1) = false from decide_eq_false (by omega)]; rfl)
  have HN := Lib.hid (And.intro h0 hr)
  have HE := Lib.hid hE
  have hl : (((ln (tp p) : Nat) : Int) == 0) = false := by
    have := ln_pos (tp_ne h0)
    rw [beq_eq_false_iff_ne]; omega
  clear op h0 hr hdd hE
  generalize qstr p = sp at HT ⊢
  go_enter Tryz.func24, Tryz.ntmps24
  go_wp2_with fail
  refine HT.out.mono ?_
  rintro e w1 ⟨v, rfl, hv, hb1⟩
  obtain ⟨a1, k1, a2, k2, rfl⟩ := hv.form
  rw [hm]
  obtain ⟨hb2, hq1⟩ := one_newQ w1 true (.slice a1 (ln (tp p)) k1) (.slice a2 (ln p.den) k2)
  have hv2 := hv.below hb2
  rw [hm] at hv2
  have HV := Lib.hid hv2
  have HB := Lib.hid (hb1.trans (hb2.mono hb1.size))
  have HQ1 := Lib.hid hq1
  have HSZ := Lib.hid hb1.size
  have c0 := hq1.c0
  have c1 := hq1.c1
  have c2 := hq1.c2
  clear hv hb1 hb2 hq1 hv2 HT
  go_wp2_with fail
  generalize w1.alloc (.cells #[.bool true, .slice a1 (ln (tp p)) k1, .slice a2 (ln p.den) k2] 88) = w2 at HV HB HQ1 c0 c1 c2 ⊢
  refine (rover_r HV.out HN.out.1 HN.out.2).mono ?_
  rintro e w3 ⟨z, rfl, hz, hb3⟩
  obtain ⟨a5, k5, a6, k6, rfl⟩ := hz.form
  obtain ⟨_, hx1, hy1⟩ := hz.nums
  replace HB := Lib.hid (HB.out.trans (hb3.mono HB.out.size))
  replace HQ1 := Lib.hid (HQ1.out.keep hb3)
  rw [hm2]
  have HX := Lib.hid (hx1.st3 HQ1.out true (.slice a5 (ln (tp r)) k5) (.slice a6 (ln r.den) k6))
  have HY := Lib.hid (hy1.st3 HQ1.out true (.slice a5 (ln (tp r)) k5) (.slice a6 (ln r.den) k6))
  clear hz hx1 hy1 hb3 HV c0 c1 c2
  have i0 := HQ1.out.c0
  have i1 := HQ1.out.c1
  have i2 := HQ1.out.c2
  have j0 := HQ1.out.z0
  have j1 := HQ1.out.z1
  have j2 := HQ1.out.z2
  replace HQ1 := Lib.hid (HQ1.out.st true (.slice a5 (ln (tp r)) k5) (.slice a6 (ln r.den) k6))
  replace HB := Lib.hid (below_st3 HB.out HSZ.out true (.slice a5 (ln (tp r)) k5) (.slice a6 (ln r.den) k6))
  have c0 := HQ1.out.c0
  have c1 := HQ1.out.c1
  have c2 := HQ1.out.c2
  unfold st3 at c0 c1 c2
  go_wp2_with fail
  refine (HODD.out _).mono ?_
  rintro e w4 ⟨rfl, rfl⟩
  clear HODD
  go_wp2_with fail
  change Calls Tryz.prog 90 _ (st3 w3 w1.heap.size true (.slice a5 (ln (tp r)) k5) (.slice a6 (ln r.den) k6)) _
  clear i0 i1 i2 j0 j1 j2
  generalize st3 w3 w1.heap.size true (.slice a5 (ln (tp r)) k5) (.slice a6 (ln r.den) k6) = w5 at HX HY HB HQ1 ⊢
  rw [← HE.out]
  refine (ipower_any (a := tp r) (n := E) HX.out HO.out.1 HK.out).mono ?_
  rintro e w3 ⟨v1, rfl, hp1, hb3⟩
  replace HB := Lib.hid (HB.out.trans (hb3.mono HB.out.size))
  replace HQ1 := Lib.hid (HQ1.out.keep hb3)
  replace HY := Lib.hid (HY.out.below hb3)
  have HP1 := Lib.hid hp1
  have i2 := HQ1.out.c2
  clear hp1 hb3 HX c0 c1 c2
  go_wp2_with fail
  refine (ipower_any (a := r.den) (n := E) HY.out HO.out.2 HK.out).mono ?_
  rintro e w4 ⟨v2, rfl, hp2, hb4⟩
  replace HB := Lib.hid (HB.out.trans (hb4.mono HB.out.size))
  have HP2 := Lib.hid hp2
  have HB4 := Lib.hid hb4
  clear hp2 hb4 HY HQ1 i2
  by_cases ho : QOk (r ^ E)
  · obtain ⟨f1, f2, o1, o2⟩ := yes_fit ho
    rw [f1, f2]
    have hn1 := (HP1.out o1).below HB4.out
    have hn2 := HP2.out o2
    have hw := rwrite_q (qq_pow (p := r) (k := E) MM.out hn1 hn2) (ho.ql.mono (by omega))
    unfold RQ at hw
    rw [HTT.out] at hw
    have HW := Lib.hid hw
    clear hw
    obtain ⟨a7, k7, rfl⟩ := islice_any hn1
    obtain ⟨a8, k8, rfl⟩ := islice_any hn2
    clear hn1 hn2 f1 f2 o1 o2 ho HP1 HP2 HO HK HB4 MM HTT
    go_wp2_with fail
    refine HW.out.mono ?_
    rintro e w5 ⟨rfl, hb5⟩
    replace HB := Lib.hid (HB.out.trans (hb5.mono HB.out.size))
    clear hb5 HW
    go_wp2_with fail
    go_ret2
    exact ⟨rfl, HB.out⟩
  · obtain ⟨rfl, rfl⟩ : t1 = ⟨#[]⟩ ∧ t2 = 5 := by have := HTT.out.symm.trans (wQ_no ho); exact ⟨congrArg Prod.fst this, congrArg Prod.snd this⟩
    rcases not_fit ho with f1 | ⟨f1, f2⟩
    · rw [f1]
      clear f1 ho HP1 HP2 HO HK HB4 MM HTT
      go_wp2_with fail
      go_ret2
      exact ⟨rfl, HB.out⟩
    · rw [f1, f2]
      clear f1 f2 ho HP1 HP2 HO HK HB4 MM HTT
      go_wp2_with fail
      go_ret2
      exact ⟨rfl, HB.out⟩

theorem big_pow {a E : Nat} (ha : 2 ≤ a) (hE : 100000 ≤ E) : ¬ Ok (a ^ E) := by
  intro h
  unfold Ok at h
  obtain ⟨k, hk⟩ : ∃ k, k = 4000 := ⟨_, rfl⟩
  rw [← hk] at h
  have h2 := (dec_len_le (by omega)).1 h
  have h3 : 10 ^ k ≤ 16 ^ k := Nat.pow_le_pow_left (by omega) k
  have h4 : 16 ^ k = 2 ^ (4 * k) := by rw [show (16 : Nat) = 2 ^ 4 by rfl, ← Nat.pow_mul]
  have h5 : 2 ^ (4 * k) ≤ 2 ^ E := Nat.pow_le_pow_right (by omega) (by omega)
  have h6 : 2 ^ E ≤ a ^ E := Nat.pow_le_pow_left ha E
  omega

/-- A power with the least int is that with an exponent that is greater by 2. -/
theorem wQ_min {r : Rat} {E : Nat} (h0 : r ≠ 0) (hE : 100000 ≤ E) (he : E % 2 = 0) : wQ (r ^ (E + 2)) = wQ (r ^ E) := by
  by_cases h1 : tp r ≤ 1 ∧ r.den ≤ 1
  · have ht : tp r = 1 := by have := tp_ne h0; omega
    have hd : r.den = 1 := by have := r.den_nz; omega
    obtain ⟨a1, a2, a3⟩ := pow_parts r (E + 2)
    obtain ⟨b1, b2, b3⟩ := pow_parts r E
    rw [ht, Nat.one_pow] at a1 b1
    rw [hd, Nat.one_pow] at a2 b2
    have : r ^ (E + 2) = r ^ E := rat_ext (by rw [a3, b3]; congr 2; simp) (by rw [a1, b1]) (by rw [a2, b2])
    rw [this]
  · have hno : ∀ e, 100000 ≤ e → ¬ QOk (r ^ e) := by
      intro e he' hq
      obtain ⟨a1, a2, _⟩ := pow_parts r e
      unfold QOk at hq
      rw [a1, a2] at hq
      rcases (show 2 ≤ tp r ∨ 2 ≤ r.den by omega) with h | h
      · exact big_pow h he' hq.1
      · exact big_pow h he' hq.2
    rw [wQ_no (hno _ (by omega)), wQ_no (hno _ hE)]

theorem both_Pow (s : ByteArray) (n : Int) (hs : s.size ≤ 1000000) (n0 : -9223372036854775808 ≤ n) (n1 : n ≤ 9223372036854775807) :
    ∃ T : ByteArray × Nat, (∀ w, Tab w → ML w → Calls Tryz.prog 23 #[.string s, .int .i64 n] w (PR T w)) ∧ (∀ w, Calls Tryz.prog 24 #[.string s, .int .i64 n] w (PR T w)) := by
  by_cases h0 : rchk s = 0
  · obtain ⟨p, rfl, op⟩ := rchk_rat h0
    by_cases hn : 0 ≤ n
    · obtain ⟨k, rfl⟩ : ∃ k : Nat, n = (k : Int) := ⟨n.toNat, by omega⟩
      refine ⟨wQ (p ^ k), fun w htab hm => Pow_pos p op k (by omega) w htab hm, fun w => ?_⟩
      cases hm : ng p with
      | false => exact rPow_pos_p w op (by omega) hm
      | true => exact rPow_pos_m w op (by omega) hm
    · by_cases hz : p = 0
      · subst hz
        exact ⟨(⟨#[]⟩, 6), fun w _ hm => Pow_zero n (by omega) w hm, fun w => rPow_zero w op rfl (by omega)⟩
      · obtain ⟨k, rfl⟩ : ∃ k : Nat, n = -(k : Int) := ⟨(-n).toNat, by omega⟩
        obtain ⟨r, hr⟩ : ∃ r, r = p⁻¹ := ⟨_, rfl⟩
        refine ⟨wQ (r ^ k), fun w htab hm => Pow_neg p op k (by omega) (by omega) w htab hm hz r hr, fun w => ?_⟩
        by_cases hk : k < 9223372036854775808
        · cases hm : ng p with
          | false => exact rPow_neg_p w op hz hr (by omega) hk hm
          | true => exact rPow_neg_m w op hz hr (by omega) hk hm
        · have hk2 : -(k : Int) = -9223372036854775808 := by omega
          obtain ⟨E, hE⟩ : ∃ E : Nat, (E : Int) = 9223372036854775806 := ⟨9223372036854775806, rfl⟩
          have hkE : k = E + 2 := by omega
          have hr0 : r ≠ 0 := by
            intro e
            have := (inv_parts hz).1
            rw [← hr, e] at this
            have h2 := p.den_nz
            exact h2 (this.symm.trans rfl)
          rw [hk2, hkE, wQ_min hr0 (by omega) (by omega)]
          cases hm : ng p with
          | false => exact rPow_min_p w op hz hr hE hm
          | true => exact rPow_min_m w op hz hr hE hm
  · exact ⟨(⟨#[]⟩, _), fun w _ hm => Pow_err1 w hs hm rfl h0, fun w => rPow_err1 w (by omega) rfl h0⟩

end Go.Proofs.YtgeohcpmoleocaaGreatDoor
