/-
  The reference's Pow with an exponent below 0; Pow of both.
-/
import Derived.Test.YtofanopnibbaeaaGreatDoorU19
namespace Go.Proofs.YtofanopnibbaeaaGreatDoor
open Go.RowKit NV
open Go.Lib (decDigits)

theorem qok_inv {p r : Rat} (op : QOk p) (h0 : p ≠ 0) (hr : r = p⁻¹) : QOk r := by
  obtain ⟨h1, h2, _⟩ := inv_parts h0
  rw [hr]; exact ⟨by rw [h1]; exact op.2, by rw [h2]; exact op.1⟩

set_option maxHeartbeats 6400000 in
set_option maxRecDepth 100000 in
theorem rPow_neg_p {p r : Rat} {k : Nat} (w : World) (op : QOk p) (h0 : p ≠ 0) (hr : r = p⁻¹) (hk0 : 0 < k) (hk : k < 9223372036854775808) (hm : ng p = false) :
    Calls Tryz.prog 74 #[.string (qstr p), .int .i64 (-(k : Int))] w (RQ (r ^ k) w) := by
  have HT := Lib.hid (rread_q op w)
  unfold RQ
  obtain ⟨⟨t1, t2⟩, hT⟩ : ∃ T, wQ (r ^ k) = T := ⟨_, rfl⟩
  rw [hT]
  have HTT := Lib.hid hT
  clear hT
  obtain ⟨dd, hdd⟩ : ∃ dd, dd = decide (k % 2 = 1) := ⟨_, rfl⟩
  have HO := Lib.hid (qok_inv op h0 hr)
  have hm2 : ng r = false := by rw [hr, (inv_parts h0).2.2, hm]
  have HK := Lib.hid (show k ≤ 9223372036854775807 by omega)
  have MM := Lib.hid (show false = (ng r && decide (k % 2 = 1)) by rw [hm2]; (first | (rw [hdd]; simp) | simp))
  have HN := Lib.hid (And.intro h0 hr)
  have hl : (((ln (tp p) : Nat) : Int) == 0) = false := by
    have := ln_pos (tp_ne h0)
    rw [beq_eq_false_iff_ne]; omega
  have n1 : -(k : Int) < 0 := by omega
  have n2 : (-(k : Int) == -9223372036854775808) = false := by rw [beq_eq_false_iff_ne]; omega
  clear op h0 hr hdd hk0
  generalize qstr p = sp at HT ⊢
  go_enter Tryz.func74, Tryz.ntmps74
  go_wp2_with fail
  refine HT.out.mono ?_
  rintro e w1 ⟨v, rfl, hv, hb1⟩
  obtain ⟨a1, k1, a2, k2, rfl⟩ := hv.form
  rw [hm]
  obtain ⟨hb2, hq1⟩ := one_newQ w1 false (.slice a1 (ln (tp p)) k1) (.slice a2 (ln p.den) k2)
  have hv2 := hv.below hb2
  rw [hm] at hv2
  have HV := Lib.hid hv2
  have HB := Lib.hid (hb1.trans (hb2.mono hb1.size))
  have HQ1 := Lib.hid hq1
  have HSZ := Lib.hid hb1.size
  have c0 := hq1.c0
  have c1 := hq1.c1
  have c2 := hq1.c2
  clear hv hb1 hb2 hq1 hv2 HT
  go_wp2_with fail
  generalize w1.alloc (.cells #[.bool false, .slice a1 (ln (tp p)) k1, .slice a2 (ln p.den) k2] 121) = w2 at HV HB HQ1 c0 c1 c2 ⊢
  refine (rover_r HV.out HN.out.1 HN.out.2).mono ?_
  rintro e w3 ⟨z, rfl, hz, hb3⟩
  obtain ⟨a5, k5, a6, k6, rfl⟩ := hz.form
  obtain ⟨_, hx1, hy1⟩ := hz.nums
  replace HB := Lib.hid (HB.out.trans (hb3.mono HB.out.size))
  replace HQ1 := Lib.hid (HQ1.out.keep hb3)
  rw [hm2]
  have HX := Lib.hid (hx1.st3 HQ1.out false (.slice a5 (ln (tp r)) k5) (.slice a6 (ln r.den) k6))
  have HY := Lib.hid (hy1.st3 HQ1.out false (.slice a5 (ln (tp r)) k5) (.slice a6 (ln r.den) k6))
  clear hz hx1 hy1 hb3 HV c0 c1 c2
  have i0 := HQ1.out.c0
  have i1 := HQ1.out.c1
  have i2 := HQ1.out.c2
  have j0 := HQ1.out.z0
  have j1 := HQ1.out.z1
  have j2 := HQ1.out.z2
  replace HQ1 := Lib.hid (HQ1.out.st false (.slice a5 (ln (tp r)) k5) (.slice a6 (ln r.den) k6))
  replace HB := Lib.hid (below_st3 HB.out HSZ.out false (.slice a5 (ln (tp r)) k5) (.slice a6 (ln r.den) k6))
  have c0 := HQ1.out.c0
  have c1 := HQ1.out.c1
  have c2 := HQ1.out.c2
  unfold st3 at c0 c1 c2
  go_wp2_with fail
  change Calls Tryz.prog 149 _ (st3 w3 w1.heap.size false (.slice a5 (ln (tp r)) k5) (.slice a6 (ln r.den) k6)) _
  clear i0 i1 i2 j0 j1 j2
  generalize st3 w3 w1.heap.size false (.slice a5 (ln (tp r)) k5) (.slice a6 (ln r.den) k6) = w5 at HX HY HB HQ1 ⊢
  refine (ipower_any (a := tp r) (n := k) HX.out HO.out.1 HK.out).mono ?_
  rintro e w3 ⟨v1, rfl, hp1, hb3⟩
  replace HB := Lib.hid (HB.out.trans (hb3.mono HB.out.size))
  replace HQ1 := Lib.hid (HQ1.out.keep hb3)
  replace HY := Lib.hid (HY.out.below hb3)
  have HP1 := Lib.hid hp1
  have i2 := HQ1.out.c2
  clear hp1 hb3 HX c0 c1 c2
  go_wp2_with fail
  refine (ipower_any (a := r.den) (n := k) HY.out HO.out.2 HK.out).mono ?_
  rintro e w4 ⟨v2, rfl, hp2, hb4⟩
  replace HB := Lib.hid (HB.out.trans (hb4.mono HB.out.size))
  have HP2 := Lib.hid hp2
  have HB4 := Lib.hid hb4
  clear hp2 hb4 HY HQ1 i2
  by_cases ho : QOk (r ^ k)
  · obtain ⟨f1, f2, o1, o2⟩ := yes_fit ho
    rw [f1, f2]
    have hn1 := (HP1.out o1).below HB4.out
    have hn2 := HP2.out o2
    have hw := rwrite_q (qq_pow (p := r) (k := k) MM.out hn1 hn2) (ho.ql.mono (by omega))
    unfold RQ at hw
    rw [HTT.out] at hw
    have HW := Lib.hid hw
    clear hw
    obtain ⟨a7, k7, rfl⟩ := islice_any hn1
    obtain ⟨a8, k8, rfl⟩ := islice_any hn2
    clear hn1 hn2 f1 f2 o1 o2 ho HP1 HP2 HO HK HB4 MM HTT
    go_wp2_with fail
    refine HW.out.mono ?_
    rintro e w5 ⟨rfl, hb5⟩
    replace HB := Lib.hid (HB.out.trans (hb5.mono HB.out.size))
    clear hb5 HW
    go_wp2_with fail
    go_ret2
    exact ⟨rfl, HB.out⟩
  · obtain ⟨rfl, rfl⟩ : t1 = ⟨#[]⟩ ∧ t2 = 5 := by have := HTT.out.symm.trans (wQ_no ho); exact ⟨congrArg Prod.fst this, congrArg Prod.snd this⟩
    rcases not_fit ho with f1 | ⟨f1, f2⟩
    · rw [f1]
      clear f1 ho HP1 HP2 HO HK HB4 MM HTT
      go_wp2_with fail
      go_ret2
      exact ⟨rfl, HB.out⟩
    · rw [f1, f2]
      clear f1 f2 ho HP1 HP2 HO HK HB4 MM HTT
      go_wp2_with fail
      go_ret2
      exact ⟨rfl, HB.out⟩

end Go.Proofs.YtofanopnibbaeaaGreatDoor
