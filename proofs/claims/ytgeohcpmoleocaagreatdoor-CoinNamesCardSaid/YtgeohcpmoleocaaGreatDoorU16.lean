/-
  The reference of rat: round of a number.
-/
import Derived.Test.YtgeohcpmoleocaaGreatDoorHF
namespace Go.Proofs.YtgeohcpmoleocaaGreatDoor
open Go.RowKit NV
open Go.Lib (decDigits)

set_option maxHeartbeats 3200000 in
set_option maxRecDepth 100000 in
theorem round_a {p r : Rat} (w : World) (op : QOk p) (hm : ng p = false) (hrem : tp p % p.den = 0) (h1 : ng r = false) (h2 : tp r = tp p / p.den) (h3 : r.den = 1) :
    Calls Tryz.prog 93 #[.string (qstr p), .bool false] w (RQ r w) := by
  have HT := Lib.hid (rread_q op w)
  have HL := Lib.hid op.ql
  have hlr : QL 1000 r := by
    refine ⟨?_, by rw [h3, ln_one]; omega⟩
    rw [h2]
    have h0 : ln (tp p / p.den) ≤ 445 := ln_div op.ql.1
    omega
  have HWR := Lib.hid (fun (W : World) (x y : Value) (hx : INum W x (tp p / p.den)) (hy : INum W y 1) => rwrite_q (v := .agg #[.bool false, x, y]) (q := r) ⟨x, y, by rw [h1], by rw [h2]; exact hx, by rw [h3]; exact hy⟩ (hlr.mono (by omega)))
  unfold RQ at HWR ⊢
  generalize wQ r = T at HWR ⊢
  obtain ⟨t1, t2⟩ := T
  have HD := Lib.hid p.den_nz
  have hr0 : ln (tp p % p.den) = 0 := by rw [hrem]; exact ln_zero
  clear op hrem h1 h2 h3 hlr
  generalize qstr p = sp at HT ⊢
  go_enter Tryz.func93, Tryz.ntmps93
  go_wp2_with fail
  refine HT.out.mono ?_
  rintro e w1 ⟨v, rfl, hv, hb1⟩
  obtain ⟨a1, k1, a2, k2, rfl⟩ := hv.form
  rw [hm]
  obtain ⟨hb2, hq1'⟩ := one_newQ w1 false (.slice a1 (ln (tp p)) k1) (.slice a2 (ln p.den) k2)
  have HV := Lib.hid (hv.below hb2)
  have HB := Lib.hid (hb1.trans (hb2.mono hb1.size))
  have HQ1 := Lib.hid hq1'
  clear hv hb1 hb2 hq1' HT
  go_wp2_with fail
  generalize w1.alloc (.cells #[.bool false, .slice a1 (ln (tp p)) k1, .slice a2 (ln p.den) k2] 88) = w2 at HV HB HQ1 ⊢
  refine (idivide_any HV.out.nums.2.1 HV.out.nums.2.2 (Nat.le_trans HL.out.1 (by omega)) (Nat.le_trans HL.out.2 (by omega)) HD.out).mono ?_
  rintro e w3 ⟨vp, vr, rfl, hvp, hvr, hb3⟩
  obtain ⟨a3, k3, rfl⟩ := islice_any hvp
  obtain ⟨a4, k4, rfl⟩ := islice_any hvr
  have HP := Lib.hid hvp
  replace HB := Lib.hid (HB.out.trans (hb3.mono HB.out.size))
  replace HQ1 := Lib.hid (HQ1.out.keep hb3)
  have i0 := HQ1.out.c0
  rw [hr0]
  clear hvp hvr hb3 HV
  go_wp2_with fail
  refine (rone_any _).mono ?_
  rintro e w6 ⟨o2, rfl, ho, hb6⟩
  obtain ⟨a7, k7, rfl⟩ := islice_any ho
  have HY := Lib.hid (HWR.out _ _ _ (HP.out.below hb6) ho)
  replace HB := Lib.hid (HB.out.trans (hb6.mono HB.out.size))
  clear ho hb6 HWR HP HQ1 i0
  go_wp2_with fail
  refine HY.out.mono ?_
  rintro e w7 ⟨rfl, hb7⟩
  replace HB := Lib.hid (HB.out.trans (hb7.mono HB.out.size))
  clear hb7 HY
  go_wp2_with fail
  go_ret2
  exact ⟨rfl, HB.out⟩

set_option maxHeartbeats 3200000 in
set_option maxRecDepth 100000 in
theorem round_b {p r : Rat} (w : World) (op : QOk p) (hm : ng p = false) (hrem : tp p % p.den ≠ 0) (h1 : ng r = false) (h2 : tp r = tp p / p.den) (h3 : r.den = 1) :
    Calls Tryz.prog 93 #[.string (qstr p), .bool false] w (RQ r w) := by
  have HT := Lib.hid (rread_q op w)
  have HL := Lib.hid op.ql
  have hlr : QL 1000 r := by
    refine ⟨?_, by rw [h3, ln_one]; omega⟩
    rw [h2]
    have h0 : ln (tp p / p.den) ≤ 445 := ln_div op.ql.1
    omega
  have HWR := Lib.hid (fun (W : World) (x y : Value) (hx : INum W x (tp p / p.den)) (hy : INum W y 1) => rwrite_q (v := .agg #[.bool false, x, y]) (q := r) ⟨x, y, by rw [h1], by rw [h2]; exact hx, by rw [h3]; exact hy⟩ (hlr.mono (by omega)))
  unfold RQ at HWR ⊢
  generalize wQ r = T at HWR ⊢
  obtain ⟨t1, t2⟩ := T
  have HD := Lib.hid p.den_nz
  have hr0 : (0 : Int) < ((ln (tp p % p.den) : Nat) : Int) := Int.natCast_pos.2 (ln_pos hrem)
  clear op hrem h1 h2 h3 hlr
  generalize qstr p = sp at HT ⊢
  go_enter Tryz.func93, Tryz.ntmps93
  go_wp2_with fail
  refine HT.out.mono ?_
  rintro e w1 ⟨v, rfl, hv, hb1⟩
  obtain ⟨a1, k1, a2, k2, rfl⟩ := hv.form
  rw [hm]
  obtain ⟨hb2, hq1'⟩ := one_newQ w1 false (.slice a1 (ln (tp p)) k1) (.slice a2 (ln p.den) k2)
  have HV := Lib.hid (hv.below hb2)
  have HB := Lib.hid (hb1.trans (hb2.mono hb1.size))
  have HQ1 := Lib.hid hq1'
  clear hv hb1 hb2 hq1' HT
  go_wp2_with fail
  generalize w1.alloc (.cells #[.bool false, .slice a1 (ln (tp p)) k1, .slice a2 (ln p.den) k2] 88) = w2 at HV HB HQ1 ⊢
  refine (idivide_any HV.out.nums.2.1 HV.out.nums.2.2 (Nat.le_trans HL.out.1 (by omega)) (Nat.le_trans HL.out.2 (by omega)) HD.out).mono ?_
  rintro e w3 ⟨vp, vr, rfl, hvp, hvr, hb3⟩
  obtain ⟨a3, k3, rfl⟩ := islice_any hvp
  obtain ⟨a4, k4, rfl⟩ := islice_any hvr
  have HP := Lib.hid hvp
  replace HB := Lib.hid (HB.out.trans (hb3.mono HB.out.size))
  replace HQ1 := Lib.hid (HQ1.out.keep hb3)
  have i0 := HQ1.out.c0
  skip
  clear hvp hvr hb3 HV
  go_wp2_with fail
  refine (rone_any _).mono ?_
  rintro e w6 ⟨o2, rfl, ho, hb6⟩
  obtain ⟨a7, k7, rfl⟩ := islice_any ho
  have HY := Lib.hid (HWR.out _ _ _ (HP.out.below hb6) ho)
  replace HB := Lib.hid (HB.out.trans (hb6.mono HB.out.size))
  clear ho hb6 HWR HP HQ1 i0
  go_wp2_with fail
  refine HY.out.mono ?_
  rintro e w7 ⟨rfl, hb7⟩
  replace HB := Lib.hid (HB.out.trans (hb7.mono HB.out.size))
  clear hb7 HY
  go_wp2_with fail
  go_ret2
  exact ⟨rfl, HB.out⟩

set_option maxHeartbeats 3200000 in
set_option maxRecDepth 100000 in
theorem round_c {p r : Rat} (w : World) (op : QOk p) (hm : ng p = false) (hrem : tp p % p.den = 0) (h1 : ng r = false) (h2 : tp r = tp p / p.den) (h3 : r.den = 1) :
    Calls Tryz.prog 93 #[.string (qstr p), .bool true] w (RQ r w) := by
  have HT := Lib.hid (rread_q op w)
  have HL := Lib.hid op.ql
  have hlr : QL 1000 r := by
    refine ⟨?_, by rw [h3, ln_one]; omega⟩
    rw [h2]
    have h0 : ln (tp p / p.den) ≤ 445 := ln_div op.ql.1
    omega
  have HWR := Lib.hid (fun (W : World) (x y : Value) (hx : INum W x (tp p / p.den)) (hy : INum W y 1) => rwrite_q (v := .agg #[.bool false, x, y]) (q := r) ⟨x, y, by rw [h1], by rw [h2]; exact hx, by rw [h3]; exact hy⟩ (hlr.mono (by omega)))
  unfold RQ at HWR ⊢
  generalize wQ r = T at HWR ⊢
  obtain ⟨t1, t2⟩ := T
  have HD := Lib.hid p.den_nz
  have hr0 : ln (tp p % p.den) = 0 := by rw [hrem]; exact ln_zero
  clear op hrem h1 h2 h3 hlr
  generalize qstr p = sp at HT ⊢
  go_enter Tryz.func93, Tryz.ntmps93
  go_wp2_with fail
  refine HT.out.mono ?_
  rintro e w1 ⟨v, rfl, hv, hb1⟩
  obtain ⟨a1, k1, a2, k2, rfl⟩ := hv.form
  rw [hm]
  obtain ⟨hb2, hq1'⟩ := one_newQ w1 false (.slice a1 (ln (tp p)) k1) (.slice a2 (ln p.den) k2)
  have HV := Lib.hid (hv.below hb2)
  have HB := Lib.hid (hb1.trans (hb2.mono hb1.size))
  have HQ1 := Lib.hid hq1'
  clear hv hb1 hb2 hq1' HT
  go_wp2_with fail
  generalize w1.alloc (.cells #[.bool false, .slice a1 (ln (tp p)) k1, .slice a2 (ln p.den) k2] 88) = w2 at HV HB HQ1 ⊢
  refine (idivide_any HV.out.nums.2.1 HV.out.nums.2.2 (Nat.le_trans HL.out.1 (by omega)) (Nat.le_trans HL.out.2 (by omega)) HD.out).mono ?_
  rintro e w3 ⟨vp, vr, rfl, hvp, hvr, hb3⟩
  obtain ⟨a3, k3, rfl⟩ := islice_any hvp
  obtain ⟨a4, k4, rfl⟩ := islice_any hvr
  have HP := Lib.hid hvp
  replace HB := Lib.hid (HB.out.trans (hb3.mono HB.out.size))
  replace HQ1 := Lib.hid (HQ1.out.keep hb3)
  have i0 := HQ1.out.c0
  rw [hr0]
  clear hvp hvr hb3 HV
  go_wp2_with fail
  refine (rone_any _).mono ?_
  rintro e w6 ⟨o2, rfl, ho, hb6⟩
  obtain ⟨a7, k7, rfl⟩ := islice_any ho
  have HY := Lib.hid (HWR.out _ _ _ (HP.out.below hb6) ho)
  replace HB := Lib.hid (HB.out.trans (hb6.mono HB.out.size))
  clear ho hb6 HWR HP HQ1 i0
  go_wp2_with fail
  refine HY.out.mono ?_
  rintro e w7 ⟨rfl, hb7⟩
  replace HB := Lib.hid (HB.out.trans (hb7.mono HB.out.size))
  clear hb7 HY
  go_wp2_with fail
  go_ret2
  exact ⟨rfl, HB.out⟩

set_option maxHeartbeats 3200000 in
set_option maxRecDepth 100000 in
theorem round_d {p r : Rat} (w : World) (op : QOk p) (hm : ng p = false) (hrem : tp p % p.den ≠ 0) (h1 : ng r = false) (h2 : tp r = tp p / p.den + 1) (h3 : r.den = 1) :
    Calls Tryz.prog 93 #[.string (qstr p), .bool true] w (RQ r w) := by
  have HT := Lib.hid (rread_q op w)
  have HL := Lib.hid op.ql
  have hlr : QL 1000 r := by
    refine ⟨?_, by rw [h3, ln_one]; omega⟩
    rw [h2]
    have h0 : ln (tp p / p.den) ≤ 445 := ln_div op.ql.1
    exact Nat.le_trans (ln_add h0 (show ln 1 ≤ 445 by rw [ln_one]; omega)) (by omega)
  have HWR := Lib.hid (fun (W : World) (x y : Value) (hx : INum W x (tp p / p.den + 1)) (hy : INum W y 1) => rwrite_q (v := .agg #[.bool false, x, y]) (q := r) ⟨x, y, by rw [h1], by rw [h2]; exact hx, by rw [h3]; exact hy⟩ (hlr.mono (by omega)))
  unfold RQ at HWR ⊢
  generalize wQ r = T at HWR ⊢
  obtain ⟨t1, t2⟩ := T
  have HD := Lib.hid p.den_nz
  have hr0 : (0 : Int) < ((ln (tp p % p.den) : Nat) : Int) := Int.natCast_pos.2 (ln_pos hrem)
  clear op hrem h1 h2 h3 hlr
  generalize qstr p = sp at HT ⊢
  go_enter Tryz.func93, Tryz.ntmps93
  go_wp2_with fail
  refine HT.out.mono ?_
  rintro e w1 ⟨v, rfl, hv, hb1⟩
  obtain ⟨a1, k1, a2, k2, rfl⟩ := hv.form
  rw [hm]
  obtain ⟨hb2, hq1'⟩ := one_newQ w1 false (.slice a1 (ln (tp p)) k1) (.slice a2 (ln p.den) k2)
  have HV := Lib.hid (hv.below hb2)
  have HB := Lib.hid (hb1.trans (hb2.mono hb1.size))
  have HQ1 := Lib.hid hq1'
  clear hv hb1 hb2 hq1' HT
  go_wp2_with fail
  generalize w1.alloc (.cells #[.bool false, .slice a1 (ln (tp p)) k1, .slice a2 (ln p.den) k2] 88) = w2 at HV HB HQ1 ⊢
  refine (idivide_any HV.out.nums.2.1 HV.out.nums.2.2 (Nat.le_trans HL.out.1 (by omega)) (Nat.le_trans HL.out.2 (by omega)) HD.out).mono ?_
  rintro e w3 ⟨vp, vr, rfl, hvp, hvr, hb3⟩
  obtain ⟨a3, k3, rfl⟩ := islice_any hvp
  obtain ⟨a4, k4, rfl⟩ := islice_any hvr
  have HP := Lib.hid hvp
  replace HB := Lib.hid (HB.out.trans (hb3.mono HB.out.size))
  replace HQ1 := Lib.hid (HQ1.out.keep hb3)
  have i0 := HQ1.out.c0
  skip
  clear hvp hvr hb3 HV
  go_wp2_with fail
  refine (rone_any w3).mono ?_
  rintro e w4 ⟨o, rfl, ho, hb4⟩
  obtain ⟨a5, k5, rfl⟩ := islice_any ho
  have HO := Lib.hid ho
  replace HP := Lib.hid (HP.out.below hb4)
  replace HB := Lib.hid (HB.out.trans (hb4.mono HB.out.size))
  replace HQ1 := Lib.hid (HQ1.out.keep hb4)
  clear i0 ho hb4
  go_wp2_with fail
  refine (iplus_any HP.out HO.out (Nat.le_trans (ln_div HL.out.1) (by omega)) (by rw [ln_one]; omega) (Nat.le_trans (ln_add (N := 445) (ln_div HL.out.1) (by rw [ln_one]; omega)) (by omega))).mono ?_
  rintro e w5 ⟨z, rfl, hz, hb5⟩
  obtain ⟨a6, k6, rfl⟩ := islice_any hz
  replace HP := Lib.hid hz
  replace HB := Lib.hid (HB.out.trans (hb5.mono HB.out.size))
  replace HQ1 := Lib.hid (HQ1.out.keep hb5)
  have i0 := HQ1.out.c0
  clear hz hb5 HO
  go_wp2_with fail
  refine (rone_any _).mono ?_
  rintro e w6 ⟨o2, rfl, ho, hb6⟩
  obtain ⟨a7, k7, rfl⟩ := islice_any ho
  have HY := Lib.hid (HWR.out _ _ _ (HP.out.below hb6) ho)
  replace HB := Lib.hid (HB.out.trans (hb6.mono HB.out.size))
  clear ho hb6 HWR HP HQ1 i0
  go_wp2_with fail
  refine HY.out.mono ?_
  rintro e w7 ⟨rfl, hb7⟩
  replace HB := Lib.hid (HB.out.trans (hb7.mono HB.out.size))
  clear hb7 HY
  go_wp2_with fail
  go_ret2
  exact ⟨rfl, HB.out⟩

set_option maxHeartbeats 3200000 in
set_option maxRecDepth 100000 in
theorem round_e {p r : Rat} (w : World) (op : QOk p) (hm : ng p = true) (hrem : tp p % p.den = 0) (hq0 : tp p / p.den ≠ 0) (h1 : ng r = true) (h2 : tp r = tp p / p.den) (h3 : r.den = 1) :
    Calls Tryz.prog 93 #[.string (qstr p), .bool false] w (RQ r w) := by
  have HT := Lib.hid (rread_q op w)
  have HL := Lib.hid op.ql
  have hlr : QL 1000 r := by
    refine ⟨?_, by rw [h3, ln_one]; omega⟩
    rw [h2]
    have h0 : ln (tp p / p.den) ≤ 445 := ln_div op.ql.1
    omega
  have HWR := Lib.hid (fun (W : World) (x y : Value) (hx : INum W x (tp p / p.den)) (hy : INum W y 1) => rwrite_q (v := .agg #[.bool true, x, y]) (q := r) ⟨x, y, by rw [h1], by rw [h2]; exact hx, by rw [h3]; exact hy⟩ (hlr.mono (by omega)))
  unfold RQ at HWR ⊢
  generalize wQ r = T at HWR ⊢
  obtain ⟨t1, t2⟩ := T
  have HD := Lib.hid p.den_nz
  have hr0 : ln (tp p % p.den) = 0 := by rw [hrem]; exact ln_zero
  have HQP := Lib.hid (show decide (0 < ln (tp p / p.den)) = true from decide_eq_true (ln_pos hq0))
  clear op hrem hq0 h1 h2 h3 hlr
  generalize qstr p = sp at HT ⊢
  go_enter Tryz.func93, Tryz.ntmps93
  go_wp2_with fail
  refine HT.out.mono ?_
  rintro e w1 ⟨v, rfl, hv, hb1⟩
  obtain ⟨a1, k1, a2, k2, rfl⟩ := hv.form
  rw [hm]
  obtain ⟨hb2, hq1'⟩ := one_newQ w1 true (.slice a1 (ln (tp p)) k1) (.slice a2 (ln p.den) k2)
  have HV := Lib.hid (hv.below hb2)
  have HB := Lib.hid (hb1.trans (hb2.mono hb1.size))
  have HQ1 := Lib.hid hq1'
  clear hv hb1 hb2 hq1' HT
  go_wp2_with fail
  generalize w1.alloc (.cells #[.bool true, .slice a1 (ln (tp p)) k1, .slice a2 (ln p.den) k2] 88) = w2 at HV HB HQ1 ⊢
  refine (idivide_any HV.out.nums.2.1 HV.out.nums.2.2 (Nat.le_trans HL.out.1 (by omega)) (Nat.le_trans HL.out.2 (by omega)) HD.out).mono ?_
  rintro e w3 ⟨vp, vr, rfl, hvp, hvr, hb3⟩
  obtain ⟨a3, k3, rfl⟩ := islice_any hvp
  obtain ⟨a4, k4, rfl⟩ := islice_any hvr
  have HP := Lib.hid hvp
  replace HB := Lib.hid (HB.out.trans (hb3.mono HB.out.size))
  replace HQ1 := Lib.hid (HQ1.out.keep hb3)
  have i0 := HQ1.out.c0
  rw [hr0]
  clear hvp hvr hb3 HV
  go_wp2_with fail
  refine (rone_any _).mono ?_
  rintro e w6 ⟨o2, rfl, ho, hb6⟩
  obtain ⟨a7, k7, rfl⟩ := islice_any ho
  have HY := Lib.hid (HWR.out _ _ _ (HP.out.below hb6) ho)
  replace HB := Lib.hid (HB.out.trans (hb6.mono HB.out.size))
  clear ho hb6 HWR HP HQ1 i0
  go_wp2_with fail
  rw [HQP.out]
  refine HY.out.mono ?_
  rintro e w7 ⟨rfl, hb7⟩
  replace HB := Lib.hid (HB.out.trans (hb7.mono HB.out.size))
  clear hb7 HY
  go_wp2_with fail
  go_ret2
  exact ⟨rfl, HB.out⟩

set_option maxHeartbeats 3200000 in
set_option maxRecDepth 100000 in
theorem round_f {p r : Rat} (w : World) (op : QOk p) (hm : ng p = true) (hrem : tp p % p.den ≠ 0) (h1 : ng r = true) (h2 : tp r = tp p / p.den + 1) (h3 : r.den = 1) :
    Calls Tryz.prog 93 #[.string (qstr p), .bool false] w (RQ r w) := by
  have HT := Lib.hid (rread_q op w)
  have HL := Lib.hid op.ql
  have hlr : QL 1000 r := by
    refine ⟨?_, by rw [h3, ln_one]; omega⟩
    rw [h2]
    have h0 : ln (tp p / p.den) ≤ 445 := ln_div op.ql.1
    exact Nat.le_trans (ln_add h0 (show ln 1 ≤ 445 by rw [ln_one]; omega)) (by omega)
  have HWR := Lib.hid (fun (W : World) (x y : Value) (hx : INum W x (tp p / p.den + 1)) (hy : INum W y 1) => rwrite_q (v := .agg #[.bool true, x, y]) (q := r) ⟨x, y, by rw [h1], by rw [h2]; exact hx, by rw [h3]; exact hy⟩ (hlr.mono (by omega)))
  unfold RQ at HWR ⊢
  generalize wQ r = T at HWR ⊢
  obtain ⟨t1, t2⟩ := T
  have HD := Lib.hid p.den_nz
  have hr0 : (0 : Int) < ((ln (tp p % p.den) : Nat) : Int) := Int.natCast_pos.2 (ln_pos hrem)
  have HQP := Lib.hid (show decide (0 < ln (tp p / p.den + 1)) = true from decide_eq_true (ln_pos (Nat.succ_ne_zero _)))
  clear op hrem h1 h2 h3 hlr
  generalize qstr p = sp at HT ⊢
  go_enter Tryz.func93, Tryz.ntmps93
  go_wp2_with fail
  refine HT.out.mono ?_
  rintro e w1 ⟨v, rfl, hv, hb1⟩
  obtain ⟨a1, k1, a2, k2, rfl⟩ := hv.form
  rw [hm]
  obtain ⟨hb2, hq1'⟩ := one_newQ w1 true (.slice a1 (ln (tp p)) k1) (.slice a2 (ln p.den) k2)
  have HV := Lib.hid (hv.below hb2)
  have HB := Lib.hid (hb1.trans (hb2.mono hb1.size))
  have HQ1 := Lib.hid hq1'
  clear hv hb1 hb2 hq1' HT
  go_wp2_with fail
  generalize w1.alloc (.cells #[.bool true, .slice a1 (ln (tp p)) k1, .slice a2 (ln p.den) k2] 88) = w2 at HV HB HQ1 ⊢
  refine (idivide_any HV.out.nums.2.1 HV.out.nums.2.2 (Nat.le_trans HL.out.1 (by omega)) (Nat.le_trans HL.out.2 (by omega)) HD.out).mono ?_
  rintro e w3 ⟨vp, vr, rfl, hvp, hvr, hb3⟩
  obtain ⟨a3, k3, rfl⟩ := islice_any hvp
  obtain ⟨a4, k4, rfl⟩ := islice_any hvr
  have HP := Lib.hid hvp
  replace HB := Lib.hid (HB.out.trans (hb3.mono HB.out.size))
  replace HQ1 := Lib.hid (HQ1.out.keep hb3)
  have i0 := HQ1.out.c0
  skip
  clear hvp hvr hb3 HV
  go_wp2_with fail
  refine (rone_any w3).mono ?_
  rintro e w4 ⟨o, rfl, ho, hb4⟩
  obtain ⟨a5, k5, rfl⟩ := islice_any ho
  have HO := Lib.hid ho
  replace HP := Lib.hid (HP.out.below hb4)
  replace HB := Lib.hid (HB.out.trans (hb4.mono HB.out.size))
  replace HQ1 := Lib.hid (HQ1.out.keep hb4)
  clear i0 ho hb4
  go_wp2_with fail
  refine (iplus_any HP.out HO.out (Nat.le_trans (ln_div HL.out.1) (by omega)) (by rw [ln_one]; omega) (Nat.le_trans (ln_add (N := 445) (ln_div HL.out.1) (by rw [ln_one]; omega)) (by omega))).mono ?_
  rintro e w5 ⟨z, rfl, hz, hb5⟩
  obtain ⟨a6, k6, rfl⟩ := islice_any hz
  replace HP := Lib.hid hz
  replace HB := Lib.hid (HB.out.trans (hb5.mono HB.out.size))
  replace HQ1 := Lib.hid (HQ1.out.keep hb5)
  have i0 := HQ1.out.c0
  clear hz hb5 HO
  go_wp2_with fail
  refine (rone_any _).mono ?_
  rintro e w6 ⟨o2, rfl, ho, hb6⟩
  obtain ⟨a7, k7, rfl⟩ := islice_any ho
  have HY := Lib.hid (HWR.out _ _ _ (HP.out.below hb6) ho)
  replace HB := Lib.hid (HB.out.trans (hb6.mono HB.out.size))
  clear ho hb6 HWR HP HQ1 i0
  go_wp2_with fail
  rw [HQP.out]
  refine HY.out.mono ?_
  rintro e w7 ⟨rfl, hb7⟩
  replace HB := Lib.hid (HB.out.trans (hb7.mono HB.out.size))
  clear hb7 HY
  go_wp2_with fail
  go_ret2
  exact ⟨rfl, HB.out⟩

set_option maxHeartbeats 3200000 in
set_option maxRecDepth 100000 in
theorem round_g {p r : Rat} (w : World) (op : QOk p) (hm : ng p = true) (hrem : tp p % p.den = 0) (hq0 : tp p / p.den ≠ 0) (h1 : ng r = true) (h2 : tp r = tp p / p.den) (h3 : r.den = 1) :
    Calls Tryz.prog 93 #[.string (qstr p), .bool true] w (RQ r w) := by
  have HT := Lib.hid (rread_q op w)
  have HL := Lib.hid op.ql
  have hlr : QL 1000 r := by
    refine ⟨?_, by rw [h3, ln_one]; omega⟩
    rw [h2]
    have h0 : ln (tp p / p.den) ≤ 445 := ln_div op.ql.1
    omega
  have HWR := Lib.hid (fun (W : World) (x y : Value) (hx : INum W x (tp p / p.den)) (hy : INum W y 1) => rwrite_q (v := .agg #[.bool true, x, y]) (q := r) ⟨x, y, by rw [h1], by rw [h2]; exact hx, by rw [h3]; exact hy⟩ (hlr.mono (by omega)))
  unfold RQ at HWR ⊢
  generalize wQ r = T at HWR ⊢
  obtain ⟨t1, t2⟩ := T
  have HD := Lib.hid p.den_nz
  have hr0 : ln (tp p % p.den) = 0 := by rw [hrem]; exact ln_zero
  have HQP := Lib.hid (show decide (0 < ln (tp p / p.den)) = true from decide_eq_true (ln_pos hq0))
  clear op hrem hq0 h1 h2 h3 hlr
  generalize qstr p = sp at HT ⊢
  go_enter Tryz.func93, Tryz.ntmps93
  go_wp2_with fail
  refine HT.out.mono ?_
  rintro e w1 ⟨v, rfl, hv, hb1⟩
  obtain ⟨a1, k1, a2, k2, rfl⟩ := hv.form
  rw [hm]
  obtain ⟨hb2, hq1'⟩ := one_newQ w1 true (.slice a1 (ln (tp p)) k1) (.slice a2 (ln p.den) k2)
  have HV := Lib.hid (hv.below hb2)
  have HB := Lib.hid (hb1.trans (hb2.mono hb1.size))
  have HQ1 := Lib.hid hq1'
  clear hv hb1 hb2 hq1' HT
  go_wp2_with fail
  generalize w1.alloc (.cells #[.bool true, .slice a1 (ln (tp p)) k1, .slice a2 (ln p.den) k2] 88) = w2 at HV HB HQ1 ⊢
  refine (idivide_any HV.out.nums.2.1 HV.out.nums.2.2 (Nat.le_trans HL.out.1 (by omega)) (Nat.le_trans HL.out.2 (by omega)) HD.out).mono ?_
  rintro e w3 ⟨vp, vr, rfl, hvp, hvr, hb3⟩
  obtain ⟨a3, k3, rfl⟩ := islice_any hvp
  obtain ⟨a4, k4, rfl⟩ := islice_any hvr
  have HP := Lib.hid hvp
  replace HB := Lib.hid (HB.out.trans (hb3.mono HB.out.size))
  replace HQ1 := Lib.hid (HQ1.out.keep hb3)
  have i0 := HQ1.out.c0
  rw [hr0]
  clear hvp hvr hb3 HV
  go_wp2_with fail
  refine (rone_any _).mono ?_
  rintro e w6 ⟨o2, rfl, ho, hb6⟩
  obtain ⟨a7, k7, rfl⟩ := islice_any ho
  have HY := Lib.hid (HWR.out _ _ _ (HP.out.below hb6) ho)
  replace HB := Lib.hid (HB.out.trans (hb6.mono HB.out.size))
  clear ho hb6 HWR HP HQ1 i0
  go_wp2_with fail
  rw [HQP.out]
  refine HY.out.mono ?_
  rintro e w7 ⟨rfl, hb7⟩
  replace HB := Lib.hid (HB.out.trans (hb7.mono HB.out.size))
  clear hb7 HY
  go_wp2_with fail
  go_ret2
  exact ⟨rfl, HB.out⟩

set_option maxHeartbeats 3200000 in
set_option maxRecDepth 100000 in
theorem round_h {p r : Rat} (w : World) (op : QOk p) (hm : ng p = true) (hrem : tp p % p.den ≠ 0) (hq0 : tp p / p.den = 0) (h1 : ng r = false) (h2 : tp r = tp p / p.den) (h3 : r.den = 1) :
    Calls Tryz.prog 93 #[.string (qstr p), .bool true] w (RQ r w) := by
  have HT := Lib.hid (rread_q op w)
  have HL := Lib.hid op.ql
  have hlr : QL 1000 r := by
    refine ⟨?_, by rw [h3, ln_one]; omega⟩
    rw [h2]
    have h0 : ln (tp p / p.den) ≤ 445 := ln_div op.ql.1
    omega
  have HWR := Lib.hid (fun (W : World) (x y : Value) (hx : INum W x (tp p / p.den)) (hy : INum W y 1) => rwrite_q (v := .agg #[.bool false, x, y]) (q := r) ⟨x, y, by rw [h1], by rw [h2]; exact hx, by rw [h3]; exact hy⟩ (hlr.mono (by omega)))
  unfold RQ at HWR ⊢
  generalize wQ r = T at HWR ⊢
  obtain ⟨t1, t2⟩ := T
  have HD := Lib.hid p.den_nz
  have hr0 : (0 : Int) < ((ln (tp p % p.den) : Nat) : Int) := Int.natCast_pos.2 (ln_pos hrem)
  have HQP := Lib.hid (show decide (0 < ln (tp p / p.den)) = false from by rw [hq0, ln_zero]; rfl)
  clear op hrem hq0 h1 h2 h3 hlr
  generalize qstr p = sp at HT ⊢
  go_enter Tryz.func93, Tryz.ntmps93
  go_wp2_with fail
  refine HT.out.mono ?_
  rintro e w1 ⟨v, rfl, hv, hb1⟩
  obtain ⟨a1, k1, a2, k2, rfl⟩ := hv.form
  rw [hm]
  obtain ⟨hb2, hq1'⟩ := one_newQ w1 true (.slice a1 (ln (tp p)) k1) (.slice a2 (ln p.den) k2)
  have HV := Lib.hid (hv.below hb2)
  have HB := Lib.hid (hb1.trans (hb2.mono hb1.size))
  have HQ1 := Lib.hid hq1'
  clear hv hb1 hb2 hq1' HT
  go_wp2_with fail
  generalize w1.alloc (.cells #[.bool true, .slice a1 (ln (tp p)) k1, .slice a2 (ln p.den) k2] 88) = w2 at HV HB HQ1 ⊢
  refine (idivide_any HV.out.nums.2.1 HV.out.nums.2.2 (Nat.le_trans HL.out.1 (by omega)) (Nat.le_trans HL.out.2 (by omega)) HD.out).mono ?_
  rintro e w3 ⟨vp, vr, rfl, hvp, hvr, hb3⟩
  obtain ⟨a3, k3, rfl⟩ := islice_any hvp
  obtain ⟨a4, k4, rfl⟩ := islice_any hvr
  have HP := Lib.hid hvp
  replace HB := Lib.hid (HB.out.trans (hb3.mono HB.out.size))
  replace HQ1 := Lib.hid (HQ1.out.keep hb3)
  have i0 := HQ1.out.c0
  skip
  clear hvp hvr hb3 HV
  go_wp2_with fail
  refine (rone_any _).mono ?_
  rintro e w6 ⟨o2, rfl, ho, hb6⟩
  obtain ⟨a7, k7, rfl⟩ := islice_any ho
  have HY := Lib.hid (HWR.out _ _ _ (HP.out.below hb6) ho)
  replace HB := Lib.hid (HB.out.trans (hb6.mono HB.out.size))
  clear ho hb6 HWR HP HQ1 i0
  go_wp2_with fail
  rw [HQP.out]
  refine HY.out.mono ?_
  rintro e w7 ⟨rfl, hb7⟩
  replace HB := Lib.hid (HB.out.trans (hb7.mono HB.out.size))
  clear hb7 HY
  go_wp2_with fail
  go_ret2
  exact ⟨rfl, HB.out⟩

set_option maxHeartbeats 3200000 in
set_option maxRecDepth 100000 in
theorem round_i {p r : Rat} (w : World) (op : QOk p) (hm : ng p = true) (hrem : tp p % p.den ≠ 0) (hq0 : tp p / p.den ≠ 0) (h1 : ng r = true) (h2 : tp r = tp p / p.den) (h3 : r.den = 1) :
    Calls Tryz.prog 93 #[.string (qstr p), .bool true] w (RQ r w) := by
  have HT := Lib.hid (rread_q op w)
  have HL := Lib.hid op.ql
  have hlr : QL 1000 r := by
    refine ⟨?_, by rw [h3, ln_one]; omega⟩
    rw [h2]
    have h0 : ln (tp p / p.den) ≤ 445 := ln_div op.ql.1
    omega
  have HWR := Lib.hid (fun (W : World) (x y : Value) (hx : INum W x (tp p / p.den)) (hy : INum W y 1) => rwrite_q (v := .agg #[.bool true, x, y]) (q := r) ⟨x, y, by rw [h1], by rw [h2]; exact hx, by rw [h3]; exact hy⟩ (hlr.mono (by omega)))
  unfold RQ at HWR ⊢
  generalize wQ r = T at HWR ⊢
  obtain ⟨t1, t2⟩ := T
  have HD := Lib.hid p.den_nz
  have hr0 : (0 : Int) < ((ln (tp p % p.den) : Nat) : Int) := Int.natCast_pos.2 (ln_pos hrem)
  have HQP := Lib.hid (show decide (0 < ln (tp p / p.den)) = true from decide_eq_true (ln_pos hq0))
  clear op hrem hq0 h1 h2 h3 hlr
  generalize qstr p = sp at HT ⊢
  go_enter Tryz.func93, Tryz.ntmps93
  go_wp2_with fail
  refine HT.out.mono ?_
  rintro e w1 ⟨v, rfl, hv, hb1⟩
  obtain ⟨a1, k1, a2, k2, rfl⟩ := hv.form
  rw [hm]
  obtain ⟨hb2, hq1'⟩ := one_newQ w1 true (.slice a1 (ln (tp p)) k1) (.slice a2 (ln p.den) k2)
  have HV := Lib.hid (hv.below hb2)
  have HB := Lib.hid (hb1.trans (hb2.mono hb1.size))
  have HQ1 := Lib.hid hq1'
  clear hv hb1 hb2 hq1' HT
  go_wp2_with fail
  generalize w1.alloc (.cells #[.bool true, .slice a1 (ln (tp p)) k1, .slice a2 (ln p.den) k2] 88) = w2 at HV HB HQ1 ⊢
  refine (idivide_any HV.out.nums.2.1 HV.out.nums.2.2 (Nat.le_trans HL.out.1 (by omega)) (Nat.le_trans HL.out.2 (by omega)) HD.out).mono ?_
  rintro e w3 ⟨vp, vr, rfl, hvp, hvr, hb3⟩
  obtain ⟨a3, k3, rfl⟩ := islice_any hvp
  obtain ⟨a4, k4, rfl⟩ := islice_any hvr
  have HP := Lib.hid hvp
  replace HB := Lib.hid (HB.out.trans (hb3.mono HB.out.size))
  replace HQ1 := Lib.hid (HQ1.out.keep hb3)
  have i0 := HQ1.out.c0
  skip
  clear hvp hvr hb3 HV
  go_wp2_with fail
  refine (rone_any _).mono ?_
  rintro e w6 ⟨o2, rfl, ho, hb6⟩
  obtain ⟨a7, k7, rfl⟩ := islice_any ho
  have HY := Lib.hid (HWR.out _ _ _ (HP.out.below hb6) ho)
  replace HB := Lib.hid (HB.out.trans (hb6.mono HB.out.size))
  clear ho hb6 HWR HP HQ1 i0
  go_wp2_with fail
  rw [HQP.out]
  refine HY.out.mono ?_
  rintro e w7 ⟨rfl, hb7⟩
  replace HB := Lib.hid (HB.out.trans (hb7.mono HB.out.size))
  clear hb7 HY
  go_wp2_with fail
  go_ret2
  exact ⟨rfl, HB.out⟩

end Go.Proofs.YtgeohcpmoleocaaGreatDoor
