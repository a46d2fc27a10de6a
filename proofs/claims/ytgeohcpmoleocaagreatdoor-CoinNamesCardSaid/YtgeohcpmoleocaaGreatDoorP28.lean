/-
  rat's Floor, Ceil, Abs, Parts and Check of a number.
-/
import Derived.Test.YtgeohcpmoleocaaGreatDoorHI
namespace Go.Proofs.YtgeohcpmoleocaaGreatDoor
open Go.RowKit NV
open Go.Lib (decDigits)

/-- The greatest integer that is not greater than q. -/
def flQ (q : Rat) : Rat := ((q.floor : Int) : Rat)

theorem fl_parts (q : Rat) : (flQ q).den = 1 ∧ ng (flQ q) = ng q ∧ tp (flQ q) = tp q / q.den + (if ng q = true ∧ tp q % q.den ≠ 0 then 1 else 0) := by
  have hd := q.den_pos
  have hf : (flQ q).num = q.num / (q.den : Int) := by
    show (q.floor : Int) = _
    exact Rat.floor_def q
  refine ⟨rfl, ?_, ?_⟩
  · unfold ng
    rw [hf]
    apply decide_eq_decide.2
    constructor
    · intro h
      by_cases h2 : q.num < 0
      · exact h2
      · have : 0 ≤ q.num / (q.den : Int) := Int.ediv_nonneg (by omega) (by omega)
        omega
    · intro h; exact Int.ediv_neg_of_neg_of_pos h (by omega)
  · have e : tp (flQ q) = (q.num / (q.den : Int)).natAbs := by unfold tp; rw [hf]
    rw [e, num_of q]
    generalize q.den = d at *
    generalize tp q = n at *
    cases h : ng q with
    | false =>
      rw [if_neg (by simp), if_neg (by simp), Nat.add_zero, ← Int.natCast_ediv, Int.natAbs_natCast]
    | true =>
      rw [if_pos rfl]
      by_cases hz : n % d = 0
      · rw [if_neg (by simp [hz]), Nat.add_zero]
        obtain ⟨k, rfl⟩ := Nat.dvd_of_mod_eq_zero hz
        rw [Nat.mul_div_cancel_left _ hd, Int.natCast_mul, ← Int.mul_neg, Int.mul_ediv_cancel_left _ (by omega)]
        simp
      · rw [if_pos ⟨rfl, hz⟩]
        have h1 : -(n : Int) / (d : Int) = -((n / d : Nat) : Int) - 1 := by
          have hm := Nat.mod_lt n hd
          have hdm := Nat.div_add_mod n d
          have : -(n : Int) = (d : Int) * (-((n / d : Nat) : Int) - 1) + ((d - n % d : Nat) : Int) := by
            have hc : (n : Int) = (d : Int) * ((n / d : Nat) : Int) + ((n % d : Nat) : Int) := by rw [← Int.natCast_mul, ← Int.natCast_add, hdm]
            rw [hc, Int.mul_sub, Int.mul_neg, Int.mul_one, Int.ofNat_sub (Nat.le_of_lt hm)]
            omega
          rw [this, Int.add_comm, Int.add_mul_ediv_left _ _ (by omega), Int.ediv_eq_zero_of_lt (by omega) (by omega)]
          omega
        rw [h1]; generalize n / d = t; omega

/-- q without its sign. -/
def absQ (q : Rat) : Rat := if ng q then -q else q
theorem abs_parts (q : Rat) : (absQ q).den = q.den ∧ ng (absQ q) = false ∧ tp (absQ q) = tp q := by
  unfold absQ
  obtain ⟨h1, h2, h3⟩ := neg_parts q
  cases h : ng q
  · simp [h]
  · rw [if_pos rfl]; exact ⟨h2, by rw [h3, h]; rfl, h1⟩

theorem inv_pow (q : Rat) (k : Nat) : (q⁻¹) ^ k = (q ^ k)⁻¹ := by
  induction k with
  | zero => rw [Rat.pow_zero, Rat.pow_zero]; exact (Rat.inv_eq_of_mul_eq_one (Rat.mul_one 1)).symm
  | succ k ih => rw [Rat.pow_succ, Rat.pow_succ, ih, Rat.inv_mul_rev, Rat.mul_comm]

theorem FR.resultF {w : World} {b : Nat} {m : Bool} {n d : Value} {tmps : Array Value} (h : FR w b m n d) (ht : tmps.getD 2 undef = .pointer (some ⟨b, 0, none⟩)) : (results Tryz.f92 tmps).run Tryz.prog w = .ok (.agg #[.bool m, n, d]) w := by
  have hl := h.load
  have ht' : tmps[2]?.getD undef = .pointer (some ⟨b, 0, none⟩) := by rw [← ht]; simp
  simp [results, ht', asAddr, hl]

set_option maxHeartbeats 6400000 in
set_option maxRecDepth 100000 in
theorem floor_A {w : World} {m : Bool} {x y : Value} {n d : Nat} (hx : Num w x n) (hy : Num w y d) (l1 : ln n ≤ 100000) (l2 : ln d ≤ 100000) (g1 : d ≠ 0) (hm : m = false) :
    Calls Tryz.prog 92 #[.agg #[.bool m, x, y]] w fun e w' => ∃ v, e = .returned v ∧ FNum w' v m (n / d) 1 ∧ Below w.heap.size w w' := by
  subst hm
  obtain ⟨a1, k1, rfl⟩ := slice_any hx
  obtain ⟨a2, k2, rfl⟩ := slice_any hy
  obtain ⟨hb0, hq1, hq2⟩ := two_frac w false false (.slice a1 (ln n) k1) (.slice a2 (ln d) k2) (.slice none 0 0) (.slice none 0 0)
  have l3 : ln (n / d) ≤ 100000 := ln_div l1
  have HD := Lib.hid (divide_any (hx.below hb0) (hy.below hb0) (by omega) (by omega) g1)
  have HL := Lib.hid (show ln (n / d) ≤ 1073741824 by omega)
  have HB := Lib.hid hb0
  have HQ1 := Lib.hid hq1
  have HQ2 := Lib.hid hq2
  clear hx hy hb0 hq1 hq2 l1 l2 l3 g1
  generalize hnd : n / d = nd at *
  generalize n % d = nr at *
  clear hnd
  go_enter Tryz.func92, Tryz.ntmps92
  go_wp2_with fail
  generalize (w.alloc (.cells #[.bool false, .slice a1 (ln n) k1, .slice a2 (ln d) k2] 83)).alloc (.cells #[.bool false, .slice none 0 0, .slice none 0 0] 83) = w0 at HD HB HQ1 HQ2 ⊢
  refine HD.out.mono ?_
  rintro e w1 ⟨vq, vr, rfl, hvq, hvr, hb1⟩
  obtain ⟨aq, kq, rfl⟩ := slice_any hvq
  obtain ⟨ar, kr, rfl⟩ := slice_any hvr
  replace HQ1 := Lib.hid (HQ1.out.keep hb1)
  replace HQ2 := Lib.hid (HQ2.out.keep hb1)
  replace HB := Lib.hid (HB.out.trans (hb1.mono HB.out.size))
  have HVQ := Lib.hid hvq
  have HVR := Lib.hid hvr
  clear hvq hvr hb1 HD
  have c0 := HQ1.out.c0
  go_wp2_with fail
  clear c0
  have HS := Lib.hid (show ∀ W, Below w1.heap.size w1 W → W.cell? ⟨w.heap.size, 0, none⟩ = some (.bool false) from fun W h => (HQ1.out.keep h).c0)
  have HT := Lib.hid (show ∀ W m x y, Below w1.heap.size w1 W → (st3 W (w.heap.size + 1) m x y).cell? ⟨w.heap.size, 0, none⟩ = some (.bool false) from fun W m x y h => ((HQ1.out.keep h).stOther (g := w.heap.size + 1) (by omega) m x y).c0)
  have hD := (Below.refl w1.heap.size w1).drew
  go_region_held3 (fun W => W.cell? ⟨w.heap.size, 0, none⟩ = some (.bool false))
    (first | exact HS.out _ hD | exact HS.out _ (by assumption) | exact HT.out _ _ _ _ (by assumption))
    (first
      | (go_at_call 163; refine (One_any _).mono ?_; rintro e u1 ⟨rfl, hn1, hb1⟩; have hB1 := hD.trans (hb1.mono hD.size); have i0 := (HQ2.out.keep hB1).c0; have i1 := (HQ2.out.keep hB1).c1; have i2 := (HQ2.out.keep hB1).c2; have j0 := (HQ2.out.keep hB1).z0; have j1 := (HQ2.out.keep hB1).z1; have j2 := (HQ2.out.keep hB1).z2))
  have hq := (HQ2.out.keep hB1).st false (.slice aq (ln nd) kq) (.slice (some ⟨w1.drew.heap.size, 0, none⟩) 1 1)
  have hn2 := (HVQ.out.below hB1).st3 i0 false (.slice aq (ln nd) kq) (.slice (some ⟨w1.drew.heap.size, 0, none⟩) 1 1)
  have hn3 := hn1.st3 i0 false (.slice aq (ln nd) kq) (.slice (some ⟨w1.drew.heap.size, 0, none⟩) 1 1)
  have hbf := below_st3 (HB.out.trans (hB1.mono HB.out.size)) (show w.heap.size ≤ w.heap.size + 1 by omega) false (.slice aq (ln nd) kq) (.slice (some ⟨w1.drew.heap.size, 0, none⟩) 1 1)
  have HF := Lib.hid (And.intro hq (And.intro hn2 (And.intro hn3 hbf)))
  clear hq hn1 hn2 hn3 hbf i0 i1 i2 j0 j1 j2 hb1 hB1 hD
  go_wp2_with fail
  exact bodyPost_ret (HF.out.1.resultF rfl) rfl ⟨_, rfl, ⟨_, _, rfl, HF.out.2.1, HF.out.2.2.1⟩, HF.out.2.2.2⟩

set_option maxHeartbeats 6400000 in
set_option maxRecDepth 100000 in
theorem floor_B {w : World} {m : Bool} {x y : Value} {n d : Nat} (hx : Num w x n) (hy : Num w y d) (l1 : ln n ≤ 100000) (l2 : ln d ≤ 100000) (g1 : d ≠ 0) (hm : m = true) (hr : n % d = 0) :
    Calls Tryz.prog 92 #[.agg #[.bool m, x, y]] w fun e w' => ∃ v, e = .returned v ∧ FNum w' v m (n / d) 1 ∧ Below w.heap.size w w' := by
  subst hm
  obtain ⟨a1, k1, rfl⟩ := slice_any hx
  obtain ⟨a2, k2, rfl⟩ := slice_any hy
  obtain ⟨hb0, hq1, hq2⟩ := two_frac w true false (.slice a1 (ln n) k1) (.slice a2 (ln d) k2) (.slice none 0 0) (.slice none 0 0)
  have l3 : ln (n / d) ≤ 100000 := ln_div l1
  have HD := Lib.hid (divide_any (hx.below hb0) (hy.below hb0) (by omega) (by omega) g1)
  have HL := Lib.hid (show ln (n / d) ≤ 1073741824 by omega)
  have HB := Lib.hid hb0
  have HQ1 := Lib.hid hq1
  have HQ2 := Lib.hid hq2
  have HR := Lib.hid (show zeroB (n % d) = true from decide_eq_true hr)
  clear hx hy hb0 hq1 hq2 l1 l2 l3 g1 hr
  generalize hnd : n / d = nd at *
  generalize n % d = nr at *
  clear hnd
  go_enter Tryz.func92, Tryz.ntmps92
  go_wp2_with fail
  generalize (w.alloc (.cells #[.bool true, .slice a1 (ln n) k1, .slice a2 (ln d) k2] 83)).alloc (.cells #[.bool false, .slice none 0 0, .slice none 0 0] 83) = w0 at HD HB HQ1 HQ2 ⊢
  refine HD.out.mono ?_
  rintro e w1 ⟨vq, vr, rfl, hvq, hvr, hb1⟩
  obtain ⟨aq, kq, rfl⟩ := slice_any hvq
  obtain ⟨ar, kr, rfl⟩ := slice_any hvr
  replace HQ1 := Lib.hid (HQ1.out.keep hb1)
  replace HQ2 := Lib.hid (HQ2.out.keep hb1)
  replace HB := Lib.hid (HB.out.trans (hb1.mono HB.out.size))
  have HVQ := Lib.hid hvq
  have HVR := Lib.hid hvr
  clear hvq hvr hb1 HD
  have c0 := HQ1.out.c0
  go_wp2_with fail
  refine (HR.out ▸ nzero_any HVR.out).mono ?_
  rintro e w2 ⟨rfl, rfl⟩
  go_wp2_with fail
  clear c0
  have HS := Lib.hid (show ∀ W, Below w1.heap.size w1 W → W.cell? ⟨w.heap.size, 0, none⟩ = some (.bool true) from fun W h => (HQ1.out.keep h).c0)
  have HT := Lib.hid (show ∀ W m x y, Below w1.heap.size w1 W → (st3 W (w.heap.size + 1) m x y).cell? ⟨w.heap.size, 0, none⟩ = some (.bool true) from fun W m x y h => ((HQ1.out.keep h).stOther (g := w.heap.size + 1) (by omega) m x y).c0)
  have hD := (Below.refl w1.heap.size w1).drew
  go_region_held3 (fun W => W.cell? ⟨w.heap.size, 0, none⟩ = some (.bool true))
    (first | exact HS.out _ hD | exact HS.out _ (by assumption) | exact HT.out _ _ _ _ (by assumption))
    (first
      | (go_at_call 163; refine (One_any _).mono ?_; rintro e u1 ⟨rfl, hn1, hb1⟩; have hB1 := hD.trans (hb1.mono hD.size); have i0 := (HQ2.out.keep hB1).c0; have i1 := (HQ2.out.keep hB1).c1; have i2 := (HQ2.out.keep hB1).c2; have j0 := (HQ2.out.keep hB1).z0; have j1 := (HQ2.out.keep hB1).z1; have j2 := (HQ2.out.keep hB1).z2))
  have hq := (HQ2.out.keep hB1).st true (.slice aq (ln nd) kq) (.slice (some ⟨w1.drew.heap.size, 0, none⟩) 1 1)
  have hn2 := (HVQ.out.below hB1).st3 i0 true (.slice aq (ln nd) kq) (.slice (some ⟨w1.drew.heap.size, 0, none⟩) 1 1)
  have hn3 := hn1.st3 i0 true (.slice aq (ln nd) kq) (.slice (some ⟨w1.drew.heap.size, 0, none⟩) 1 1)
  have hbf := below_st3 (HB.out.trans (hB1.mono HB.out.size)) (show w.heap.size ≤ w.heap.size + 1 by omega) true (.slice aq (ln nd) kq) (.slice (some ⟨w1.drew.heap.size, 0, none⟩) 1 1)
  have HF := Lib.hid (And.intro hq (And.intro hn2 (And.intro hn3 hbf)))
  clear hq hn1 hn2 hn3 hbf i0 i1 i2 j0 j1 j2 hb1 hB1 hD
  go_wp2_with fail
  exact bodyPost_ret (HF.out.1.resultF rfl) rfl ⟨_, rfl, ⟨_, _, rfl, HF.out.2.1, HF.out.2.2.1⟩, HF.out.2.2.2⟩

set_option maxHeartbeats 6400000 in
set_option maxRecDepth 100000 in
theorem floor_C {w : World} {m : Bool} {x y : Value} {n d : Nat} (hx : Num w x n) (hy : Num w y d) (l1 : ln n ≤ 100000) (l2 : ln d ≤ 100000) (g1 : d ≠ 0) (hm : m = true) (hr : n % d ≠ 0) :
    Calls Tryz.prog 92 #[.agg #[.bool m, x, y]] w fun e w' => ∃ v, e = .returned v ∧ FNum w' v m (n / d + 1) 1 ∧ Below w.heap.size w w' := by
  subst hm
  obtain ⟨a1, k1, rfl⟩ := slice_any hx
  obtain ⟨a2, k2, rfl⟩ := slice_any hy
  obtain ⟨hb0, hq1, hq2⟩ := two_frac w true false (.slice a1 (ln n) k1) (.slice a2 (ln d) k2) (.slice none 0 0) (.slice none 0 0)
  have l3 : ln (n / d) ≤ 100000 := ln_div l1
  have HD := Lib.hid (divide_any (hx.below hb0) (hy.below hb0) (by omega) (by omega) g1)
  have HL := Lib.hid (show ln (n / d) ≤ 1073741824 by omega)
  have HB := Lib.hid hb0
  have HQ1 := Lib.hid hq1
  have HQ2 := Lib.hid hq2
  have HR := Lib.hid (show zeroB (n % d) = false from decide_eq_false hr)
  clear hx hy hb0 hq1 hq2 l1 l2 l3 g1 hr
  generalize hnd : n / d = nd at *
  generalize n % d = nr at *
  clear hnd
  go_enter Tryz.func92, Tryz.ntmps92
  go_wp2_with fail
  generalize (w.alloc (.cells #[.bool true, .slice a1 (ln n) k1, .slice a2 (ln d) k2] 83)).alloc (.cells #[.bool false, .slice none 0 0, .slice none 0 0] 83) = w0 at HD HB HQ1 HQ2 ⊢
  refine HD.out.mono ?_
  rintro e w1 ⟨vq, vr, rfl, hvq, hvr, hb1⟩
  obtain ⟨aq, kq, rfl⟩ := slice_any hvq
  obtain ⟨ar, kr, rfl⟩ := slice_any hvr
  replace HQ1 := Lib.hid (HQ1.out.keep hb1)
  replace HQ2 := Lib.hid (HQ2.out.keep hb1)
  replace HB := Lib.hid (HB.out.trans (hb1.mono HB.out.size))
  have HVQ := Lib.hid hvq
  have HVR := Lib.hid hvr
  clear hvq hvr hb1 HD
  have c0 := HQ1.out.c0
  go_wp2_with fail
  refine (HR.out ▸ nzero_any HVR.out).mono ?_
  rintro e w2 ⟨rfl, rfl⟩
  go_wp2_with fail
  refine (One_any _).mono ?_
  rintro e w2 ⟨rfl, ho, hb2⟩
  replace HVQ := Lib.hid (HVQ.out.below hb2)
  replace HQ1 := Lib.hid (HQ1.out.keep hb2)
  replace HQ2 := Lib.hid (HQ2.out.keep hb2)
  replace HB := Lib.hid (HB.out.trans (hb2.mono HB.out.size))
  have HO := Lib.hid ho
  have l1 : ln 1 = 1 := ln_one
  clear ho hb2 c0
  go_wp2_with fail
  refine (plus_any HVQ.out HO.out HL.out (by rw [l1]; omega)).mono ?_
  rintro e w3 ⟨vs, rfl, hvs, hb3⟩
  replace hvs := hvs.num
  obtain ⟨as1, ks1, rfl⟩ := slice_any hvs
  replace HQ1 := Lib.hid (HQ1.out.keep hb3)
  replace HQ2 := Lib.hid (HQ2.out.keep hb3)
  replace HB := Lib.hid (HB.out.trans (hb3.mono HB.out.size))
  have HV := Lib.hid hvs
  clear hvs hb3 l1
  go_wp2_with fail
  have HS := Lib.hid (show ∀ W, Below w3.heap.size w3 W → W.cell? ⟨w.heap.size, 0, none⟩ = some (.bool true) from fun W h => (HQ1.out.keep h).c0)
  have HT := Lib.hid (show ∀ W m x y, Below w3.heap.size w3 W → (st3 W (w.heap.size + 1) m x y).cell? ⟨w.heap.size, 0, none⟩ = some (.bool true) from fun W m x y h => ((HQ1.out.keep h).stOther (g := w.heap.size + 1) (by omega) m x y).c0)
  have hD := (Below.refl w3.heap.size w3).drew
  go_region_held3 (fun W => W.cell? ⟨w.heap.size, 0, none⟩ = some (.bool true))
    (first | exact HS.out _ hD | exact HS.out _ (by assumption) | exact HT.out _ _ _ _ (by assumption))
    (first
      | (go_at_call 163; refine (One_any _).mono ?_; rintro e u1 ⟨rfl, hn1, hb1⟩; have hB1 := hD.trans (hb1.mono hD.size); have i0 := (HQ2.out.keep hB1).c0; have i1 := (HQ2.out.keep hB1).c1; have i2 := (HQ2.out.keep hB1).c2; have j0 := (HQ2.out.keep hB1).z0; have j1 := (HQ2.out.keep hB1).z1; have j2 := (HQ2.out.keep hB1).z2))
  have hq := (HQ2.out.keep hB1).st true (.slice as1 (ln (nd + 1)) ks1) (.slice (some ⟨w3.drew.heap.size, 0, none⟩) 1 1)
  have hn2 := (HV.out.below hB1).st3 i0 true (.slice as1 (ln (nd + 1)) ks1) (.slice (some ⟨w3.drew.heap.size, 0, none⟩) 1 1)
  have hn3 := hn1.st3 i0 true (.slice as1 (ln (nd + 1)) ks1) (.slice (some ⟨w3.drew.heap.size, 0, none⟩) 1 1)
  have hbf := below_st3 (HB.out.trans (hB1.mono HB.out.size)) (show w.heap.size ≤ w.heap.size + 1 by omega) true (.slice as1 (ln (nd + 1)) ks1) (.slice (some ⟨w3.drew.heap.size, 0, none⟩) 1 1)
  have HF := Lib.hid (And.intro hq (And.intro hn2 (And.intro hn3 hbf)))
  clear hq hn1 hn2 hn3 hbf i0 i1 i2 j0 j1 j2 hb1 hB1 hD
  go_wp2_with fail
  exact bodyPost_ret (HF.out.1.resultF rfl) rfl ⟨_, rfl, ⟨_, _, rfl, HF.out.2.1, HF.out.2.2.1⟩, HF.out.2.2.2⟩

theorem QL.abs {M : Nat} {p : Rat} (hp : QL M p) : QL M (absQ p) := by
  obtain ⟨h1, h2, h3⟩ := abs_parts p
  exact ⟨by rw [h3]; exact hp.1, by rw [h1]; exact hp.2⟩

theorem floor_q {w : World} {v : Value} {p : Rat} (hp : FQ w v p) (lp : QL 100000 p) :
    Calls Tryz.prog 92 #[v] w fun e w' => ∃ z, e = .returned z ∧ FQ w' z (flQ p) ∧ Below w.heap.size w w' := by
  obtain ⟨x1, y1, rfl, hx1, hy1⟩ := hp
  obtain ⟨h1, h2, h3⟩ := fl_parts p
  cases hm : ng p with
  | false =>
    refine (floor_A hx1 hy1 lp.1 lp.2 p.den_nz rfl).mono ?_
    rintro e w' ⟨z, rfl, hz, hb⟩
    rw [hm, if_neg (by simp), Nat.add_zero] at h3
    exact ⟨z, rfl, fnum_of hz (h2.trans hm) h3 h1, hb⟩
  | true =>
    by_cases hr : tp p % p.den = 0
    · refine (floor_B hx1 hy1 lp.1 lp.2 p.den_nz rfl hr).mono ?_
      rintro e w' ⟨z, rfl, hz, hb⟩
      rw [if_neg (by simp [hr]), Nat.add_zero] at h3
      exact ⟨z, rfl, fnum_of hz (h2.trans hm) h3 h1, hb⟩
    · refine (floor_C hx1 hy1 lp.1 lp.2 p.den_nz rfl hr).mono ?_
      rintro e w' ⟨z, rfl, hz, hb⟩
      rw [if_pos ⟨hm, hr⟩] at h3
      exact ⟨z, rfl, fnum_of hz (h2.trans hm) h3 h1, hb⟩

theorem QL.floor {M : Nat} {p : Rat} (hp : QL M p) : QL (M + 1) (flQ p) := by
  obtain ⟨h1, h2, h3⟩ := fl_parts p
  constructor
  · rw [h3]
    have : ln (if ng p = true ∧ tp p % p.den ≠ 0 then 1 else 0) ≤ M := by
      split
      · rename_i h
        rw [ln_one]
        have : tp p ≠ 0 := ng_zero h.1
        have := ln_pos this
        have := hp.1
        omega
      · rw [ln_zero]; omega
    exact ln_add (ln_div hp.1) this
  · rw [h1, ln_one]; omega

theorem magnitude_q {w : World} {v : Value} {p : Rat} (hp : FQ w v p) :
    Calls Tryz.prog 82 #[v] w fun e w' => ∃ z, e = .returned z ∧ FQ w' z (absQ p) ∧ Below w.heap.size w w' := by
  obtain ⟨x1, y1, rfl, hx1, hy1⟩ := hp
  obtain ⟨h1, h2, h3⟩ := abs_parts p
  refine (magnitude_any hx1 hy1).mono ?_
  rintro e w' ⟨rfl, hb⟩
  exact ⟨_, rfl, fnum_of ⟨x1, y1, rfl, hx1.below hb, hy1.below hb⟩ h2 h3 h1, hb⟩

set_option maxHeartbeats 3200000 in
set_option maxRecDepth 100000 in
theorem floor_clo {w : World} {v : Value} {p : Rat} (hp : FQ w v p) (lp : QL 445 p) (htab : Tab w) :
    Calls Tryz.prog 91 #[v] w (RQ (flQ p) w) := by
  obtain ⟨a1, k1, a2, k2, rfl⟩ := hp.form
  have hb0 : Below w.heap.size w (w.alloc (.cells #[.bool (ng p), .slice a1 (ln (tp p)) k1, .slice a2 (ln p.den) k2] 83)) := (Below.refl _ _).alloc (Nat.le_refl _) _
  have HZ := Lib.hid (hp.below hb0)
  have HT := Lib.hid (htab.below hb0)
  have HB := Lib.hid hb0
  have HL := Lib.hid lp
  clear hp htab hb0 lp
  go_enter Tryz.func91, Tryz.ntmps91
  go_wp2_with fail
  generalize w.alloc (.cells #[.bool (ng p), .slice a1 (ln (tp p)) k1, .slice a2 (ln p.den) k2] 83) = w0 at HZ HT HB ⊢
  refine (floor_q HZ.out (HL.out.mono (by omega))).mono ?_
  rintro e u0 ⟨z0, rfl, hz, hb1⟩
  obtain ⟨b0, l0, c0, m0, rfl⟩ := hz.form
  replace HZ := Lib.hid hz
  replace HT := Lib.hid (HT.out.below hb1)
  replace HB := Lib.hid (HB.out.trans (hb1.mono HB.out.size))
  clear hz hb1
  go_wp2_with fail
  refine (write_q HZ.out ((HL.out.floor).mono (by omega)) HT.out).mono ?_
  rintro e w2 ⟨rfl, hb2⟩
  replace HB := Lib.hid (HB.out.trans (hb2.mono HB.out.size))
  clear hb2
  go_wp2_with fail
  go_ret2
  exact ⟨rfl, HB.out⟩

set_option maxHeartbeats 1600000 in
theorem Floor_q (p : Rat) (hp : QOk p) (w : World) (htab : Tab w) (hm : ML w) :
    Calls Tryz.prog 26 #[.string (qstr p)] w (RQ (flQ p) w) := by
  have e1 : ∀ args w, (callFunc 91 args).run Tryz.prog w = .ok (.enter 91 args) w := enters_of Tryz.func91 (by kernel_rfl) rfl
  have HC := Lib.hid (withOne_ok 91 #[] e1 (qstr p) w (qsmall hp) hm (qstr_chk hp) (.string (wQ (flQ p)).1) (.int .i64 ((wQ (flQ p)).2 : Int))
    (fun W v hb hv => floor_clo (fq_of hv) hp.ql (htab.below hb)))
  clear htab hm hp
  go_enter Tryz.func26, Tryz.ntmps26
  go_wp2_with fail
  refine HC.out.mono ?_
  rintro e w1 ⟨rfl, hb⟩
  have HB := Lib.hid hb
  clear hb HC
  go_wp2_with fail
  go_ret2
  exact ⟨rfl, HB.out⟩

set_option maxHeartbeats 3200000 in
set_option maxRecDepth 100000 in
theorem ceil_clo {w : World} {v : Value} {p : Rat} (hp : FQ w v p) (lp : QL 445 p) (htab : Tab w) :
    Calls Tryz.prog 94 #[v] w (RQ (-flQ (-p)) w) := by
  obtain ⟨a1, k1, a2, k2, rfl⟩ := hp.form
  have hb0 : Below w.heap.size w (w.alloc (.cells #[.bool (ng p), .slice a1 (ln (tp p)) k1, .slice a2 (ln p.den) k2] 83)) := (Below.refl _ _).alloc (Nat.le_refl _) _
  have HZ := Lib.hid (hp.below hb0)
  have HT := Lib.hid (htab.below hb0)
  have HB := Lib.hid hb0
  have HL := Lib.hid lp
  clear hp htab hb0 lp
  go_enter Tryz.func94, Tryz.ntmps94
  go_wp2_with fail
  generalize w.alloc (.cells #[.bool (ng p), .slice a1 (ln (tp p)) k1, .slice a2 (ln p.den) k2] 83) = w0 at HZ HT HB ⊢
  refine (negated_q HZ.out).mono ?_
  rintro e u0 ⟨z0, rfl, hz, hb1⟩
  obtain ⟨b0, l0, c0, m0, rfl⟩ := hz.form
  replace HZ := Lib.hid hz
  replace HT := Lib.hid (HT.out.below hb1)
  replace HB := Lib.hid (HB.out.trans (hb1.mono HB.out.size))
  clear hz hb1
  go_wp2_with fail
  refine (floor_q HZ.out (HL.out.neg.mono (by omega))).mono ?_
  rintro e u1 ⟨z1, rfl, hz, hb1⟩
  obtain ⟨b1, l1, c1, m1, rfl⟩ := hz.form
  replace HZ := Lib.hid hz
  replace HT := Lib.hid (HT.out.below hb1)
  replace HB := Lib.hid (HB.out.trans (hb1.mono HB.out.size))
  clear hz hb1
  go_wp2_with fail
  refine (negated_q HZ.out).mono ?_
  rintro e u2 ⟨z2, rfl, hz, hb1⟩
  obtain ⟨b2, l2, c2, m2, rfl⟩ := hz.form
  replace HZ := Lib.hid hz
  replace HT := Lib.hid (HT.out.below hb1)
  replace HB := Lib.hid (HB.out.trans (hb1.mono HB.out.size))
  clear hz hb1
  go_wp2_with fail
  refine (write_q HZ.out ((HL.out.neg.floor.neg).mono (by omega)) HT.out).mono ?_
  rintro e w2 ⟨rfl, hb2⟩
  replace HB := Lib.hid (HB.out.trans (hb2.mono HB.out.size))
  clear hb2
  go_wp2_with fail
  go_ret2
  exact ⟨rfl, HB.out⟩

set_option maxHeartbeats 1600000 in
theorem Ceil_q (p : Rat) (hp : QOk p) (w : World) (htab : Tab w) (hm : ML w) :
    Calls Tryz.prog 28 #[.string (qstr p)] w (RQ (-flQ (-p)) w) := by
  have e1 : ∀ args w, (callFunc 94 args).run Tryz.prog w = .ok (.enter 94 args) w := enters_of Tryz.func94 (by kernel_rfl) rfl
  have HC := Lib.hid (withOne_ok 94 #[] e1 (qstr p) w (qsmall hp) hm (qstr_chk hp) (.string (wQ (-flQ (-p))).1) (.int .i64 ((wQ (-flQ (-p))).2 : Int))
    (fun W v hb hv => ceil_clo (fq_of hv) hp.ql (htab.below hb)))
  clear htab hm hp
  go_enter Tryz.func28, Tryz.ntmps28
  go_wp2_with fail
  refine HC.out.mono ?_
  rintro e w1 ⟨rfl, hb⟩
  have HB := Lib.hid hb
  clear hb HC
  go_wp2_with fail
  go_ret2
  exact ⟨rfl, HB.out⟩

set_option maxHeartbeats 3200000 in
set_option maxRecDepth 100000 in
theorem abs_clo {w : World} {v : Value} {p : Rat} (hp : FQ w v p) (lp : QL 445 p) (htab : Tab w) :
    Calls Tryz.prog 81 #[v] w (RQ (absQ p) w) := by
  obtain ⟨a1, k1, a2, k2, rfl⟩ := hp.form
  have hb0 : Below w.heap.size w (w.alloc (.cells #[.bool (ng p), .slice a1 (ln (tp p)) k1, .slice a2 (ln p.den) k2] 83)) := (Below.refl _ _).alloc (Nat.le_refl _) _
  have HZ := Lib.hid (hp.below hb0)
  have HT := Lib.hid (htab.below hb0)
  have HB := Lib.hid hb0
  have HL := Lib.hid lp
  clear hp htab hb0 lp
  go_enter Tryz.func81, Tryz.ntmps81
  go_wp2_with fail
  generalize w.alloc (.cells #[.bool (ng p), .slice a1 (ln (tp p)) k1, .slice a2 (ln p.den) k2] 83) = w0 at HZ HT HB ⊢
  refine (magnitude_q HZ.out).mono ?_
  rintro e u0 ⟨z0, rfl, hz, hb1⟩
  obtain ⟨b0, l0, c0, m0, rfl⟩ := hz.form
  replace HZ := Lib.hid hz
  replace HT := Lib.hid (HT.out.below hb1)
  replace HB := Lib.hid (HB.out.trans (hb1.mono HB.out.size))
  clear hz hb1
  go_wp2_with fail
  refine (write_q HZ.out ((HL.out.abs).mono (by omega)) HT.out).mono ?_
  rintro e w2 ⟨rfl, hb2⟩
  replace HB := Lib.hid (HB.out.trans (hb2.mono HB.out.size))
  clear hb2
  go_wp2_with fail
  go_ret2
  exact ⟨rfl, HB.out⟩

set_option maxHeartbeats 1600000 in
theorem Abs_q (p : Rat) (hp : QOk p) (w : World) (htab : Tab w) (hm : ML w) :
    Calls Tryz.prog 19 #[.string (qstr p)] w (RQ (absQ p) w) := by
  have e1 : ∀ args w, (callFunc 81 args).run Tryz.prog w = .ok (.enter 81 args) w := enters_of Tryz.func81 (by kernel_rfl) rfl
  have HC := Lib.hid (withOne_ok 81 #[] e1 (qstr p) w (qsmall hp) hm (qstr_chk hp) (.string (wQ (absQ p)).1) (.int .i64 ((wQ (absQ p)).2 : Int))
    (fun W v hb hv => abs_clo (fq_of hv) hp.ql (htab.below hb)))
  clear htab hm hp
  go_enter Tryz.func19, Tryz.ntmps19
  go_wp2_with fail
  refine HC.out.mono ?_
  rintro e w1 ⟨rfl, hb⟩
  have HB := Lib.hid hb
  clear hb HC
  go_wp2_with fail
  go_ret2
  exact ⟨rfl, HB.out⟩

set_option maxHeartbeats 1600000 in
/-- rat.Check of any text. -/
theorem qcheck_any (s : ByteArray) (w : World) (hs : s.size ≤ 1000000) (hm : ML w) :
    Calls Tryz.prog 34 #[.string s] w fun e w' => e = .returned (.int .i64 ((rchk s : Nat) : Int)) ∧ Below w.heap.size w w' := by
  have HR := Lib.hid (read_any s w hs hm)
  clear hm
  go_enter Tryz.func34, Tryz.ntmps34
  go_wp2_with fail
  refine HR.out.mono ?_
  rintro e w1 ⟨⟨m, a1, L1, k1, a2, L2, k2, rfl, -⟩, hb⟩
  have HB := Lib.hid (hb.alloc hb.size (.cells #[.bool m, .slice a1 L1 k1, .slice a2 L2 k2] 83))
  have HB2 := Lib.hid hb
  clear hb HR
  go_wp2_with fail
  go_ret
  exact ⟨rfl, by first | exact HB.out | exact HB2.out⟩

set_option maxHeartbeats 1600000 in
/-- Parts of a number. -/
theorem Parts_q (p : Rat) (hp : QOk p) (w : World) (hm : ML w) :
    Calls Tryz.prog 30 #[.string (qstr p)] w fun e w' => e = .returned (.tuple #[.string (istr (ng p) (tp p)), .string (dstr p.den), .int .i64 0]) ∧ Below w.heap.size w w' := by
  have hk := qcheck_any (qstr p) w (qsmall hp) hm
  rw [qstr_chk hp] at hk
  have HK := Lib.hid hk
  obtain ⟨q1, q2, _⟩ := qstr_parts p
  have hsz : (qstr p).size < 4294967281 := by have := qstr_size hp; omega
  have HC := Lib.hid (fun W (h : Below w.heap.size w W) => cut_any (qstr p) W hsz (ml_keep hm (ml_pos hm) h))
  rw [q1, q2] at HC
  generalize (decide (cutAt (qstr p).data.toList < (qstr p).size)) = D at *
  generalize qstr p = s at *
  clear hk q1 q2 hsz hp hm
  go_enter Tryz.func30, Tryz.ntmps30
  go_wp2_with fail
  refine HK.out.mono ?_
  rintro e w1 ⟨rfl, hb1⟩
  have HB := Lib.hid hb1
  clear hb1 HK
  go_wp2_with fail
  refine (HC.out _ HB.out).mono ?_
  rintro e w2 ⟨rfl, q, rfl⟩
  have HB2 := Lib.hid (below_drewN HB.out q)
  clear HC
  go_wp2_with fail
  go_ret3
  exact ⟨rfl, HB2.out⟩

end Go.Proofs.YtgeohcpmoleocaaGreatDoor
