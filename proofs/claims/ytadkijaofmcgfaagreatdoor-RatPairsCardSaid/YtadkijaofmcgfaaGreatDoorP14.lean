/-
  exact.Fraction's Plus: the signs differ.
-/
import Derived.Test.YtadkijaofmcgfaaGreatDoorP12
namespace Go.Proofs.YtadkijaofmcgfaaGreatDoor
open Go.RowKit NV

set_option maxHeartbeats 6400000 in
set_option maxRecDepth 100000 in
theorem fplus_C {w : World} {m1 m2 : Bool} {x1 y1 x2 y2 : Value} {n1 d1 n2 d2 : Nat} (hx1 : Num w x1 n1) (hy1 : Num w y1 d1) (hx2 : Num w x2 n2) (hy2 : Num w y2 d2)
    (l1 : ln n1 ≤ 100000) (l2 : ln d1 ≤ 100000) (l3 : ln n2 ≤ 100000) (l4 : ln d2 ≤ 100000) (g1 : d1 ≠ 0) (hm : m1 ≠ m2) (hc : (n1 * (d2 / Nat.gcd d1 d2)) < (n2 * (d1 / Nat.gcd d1 d2))) :
    Calls Tryz.prog 64 #[.agg #[.bool m1, x1, y1], .agg #[.bool m2, x2, y2]] w fun e w' => ∃ v, e = .returned v ∧
      FNum w' v (m2 && !zeroB (((n2 * (d1 / Nat.gcd d1 d2)) - (n1 * (d2 / Nat.gcd d1 d2))) / Nat.gcd ((n2 * (d1 / Nat.gcd d1 d2)) - (n1 * (d2 / Nat.gcd d1 d2))) (Nat.gcd d1 d2))) (((n2 * (d1 / Nat.gcd d1 d2)) - (n1 * (d2 / Nat.gcd d1 d2))) / Nat.gcd ((n2 * (d1 / Nat.gcd d1 d2)) - (n1 * (d2 / Nat.gcd d1 d2))) (Nat.gcd d1 d2)) (d1 / Nat.gcd d1 d2 * (d2 / Nat.gcd ((n2 * (d1 / Nat.gcd d1 d2)) - (n1 * (d2 / Nat.gcd d1 d2))) (Nat.gcd d1 d2))) ∧ Below w.heap.size w w' := by
  have p1 : Nat.gcd d1 d2 ≠ 0 := Nat.ne_of_gt (Nat.gcd_pos_of_pos_left _ (Nat.pos_of_ne_zero g1))
  have p2 : Nat.gcd ((n2 * (d1 / Nat.gcd d1 d2)) - (n1 * (d2 / Nat.gcd d1 d2))) (Nat.gcd d1 d2) ≠ 0 := Nat.ne_of_gt (Nat.gcd_pos_of_pos_right _ (Nat.pos_of_ne_zero p1))
  have q1 : ln (Nat.gcd d1 d2) ≤ 100000 := gcd_ln l2 l4
  have r1 : ln (d1 / Nat.gcd d1 d2) ≤ 100000 := ln_div l2
  have r2 : ln (d2 / Nat.gcd d1 d2) ≤ 100000 := ln_div l4
  have r3 : ln (n1 * (d2 / Nat.gcd d1 d2)) ≤ 200000 := ln_mul l1 r2
  have r4 : ln (n2 * (d1 / Nat.gcd d1 d2)) ≤ 200000 := ln_mul l3 r1
  have r5 : ln ((n2 * (d1 / Nat.gcd d1 d2)) - (n1 * (d2 / Nat.gcd d1 d2))) ≤ 200001 := Nat.le_trans (ln_sub r4) (by omega)
  have r6 : ln (Nat.gcd ((n2 * (d1 / Nat.gcd d1 d2)) - (n1 * (d2 / Nat.gcd d1 d2))) (Nat.gcd d1 d2)) ≤ 200001 := gcd_ln r5 (by omega)
  have r7 : ln (d2 / Nat.gcd ((n2 * (d1 / Nat.gcd d1 d2)) - (n1 * (d2 / Nat.gcd d1 d2))) (Nat.gcd d1 d2)) ≤ 100000 := ln_div l4
  have HL := Lib.hid (show (ln n1 ≤ 1000000 ∧ ln d1 ≤ 1000000 ∧ ln n2 ≤ 1000000 ∧ ln d2 ≤ 1000000) ∧ ln (Nat.gcd d1 d2) ≤ 1000000 ∧ ln (Nat.gcd ((n2 * (d1 / Nat.gcd d1 d2)) - (n1 * (d2 / Nat.gcd d1 d2))) (Nat.gcd d1 d2)) ≤ 1000000 ∧ ln ((n2 * (d1 / Nat.gcd d1 d2)) - (n1 * (d2 / Nat.gcd d1 d2))) ≤ 1000000 by omega)
  have HR := Lib.hid (show ln (d1 / Nat.gcd d1 d2) ≤ 2000000 ∧ ln (d2 / Nat.gcd d1 d2) ≤ 2000000 ∧ ln n1 ≤ 2000000 ∧ ln n2 ≤ 2000000 ∧ ln (d2 / Nat.gcd ((n2 * (d1 / Nat.gcd d1 d2)) - (n1 * (d2 / Nat.gcd d1 d2))) (Nat.gcd d1 d2)) ≤ 2000000 by omega)
  have HM := Lib.hid (show ln (n1 * (d2 / Nat.gcd d1 d2)) ≤ 1073741824 ∧ ln (n2 * (d1 / Nat.gcd d1 d2)) ≤ 1073741824 by omega)
  have HP := Lib.hid (And.intro p1 p2)
  have hmm : (m1 == m2) = false := by rw [beq_eq_false_iff_ne]; exact hm
  have HC := Lib.hid (Nat.le_of_lt hc)
  have hcc : ¬ (0 : Int) ≤ cmpN (n1 * (d2 / Nat.gcd d1 d2)) (n2 * (d1 / Nat.gcd d1 d2)) := by have := cmpN_low hc; omega
  clear hm hc
  clear l1 l2 l3 l4 q1 r1 r2 r3 r4 r5 r6 r7 p1 p2 g1
  obtain ⟨a1, k1, rfl⟩ := slice_any hx1
  obtain ⟨a2, k2, rfl⟩ := slice_any hy1
  obtain ⟨a3, k3, rfl⟩ := slice_any hx2
  obtain ⟨a4, k4, rfl⟩ := slice_any hy2
  have HX1 := Lib.hid hx1
  have HY1 := Lib.hid hy1
  have HX2 := Lib.hid hx2
  have HY2 := Lib.hid hy2
  clear hx1 hy1 hx2 hy2
  go_enter Tryz.func64, Tryz.ntmps64
  go_wp2_with fail
  obtain ⟨hb0, hq1, hq2, hq3⟩ := three_new w m1 m2 false (.slice a1 (ln n1) k1) (.slice a2 (ln d1) k2) (.slice a3 (ln n2) k3) (.slice a4 (ln d2) k4) (.slice none 0 0) (.slice none 0 0)
  generalize ((w.alloc (.cells #[.bool m1, .slice a1 (ln n1) k1, .slice a2 (ln d1) k2] 49)).alloc (.cells #[.bool m2, .slice a3 (ln n2) k3, .slice a4 (ln d2) k4] 49)).alloc (.cells #[.bool false, .slice none 0 0, .slice none 0 0] 49) = w0 at hb0 hq1 hq2 hq3 ⊢
  replace HX1 := Lib.hid (HX1.out.below hb0)
  replace HY1 := Lib.hid (HY1.out.below hb0)
  replace HX2 := Lib.hid (HX2.out.below hb0)
  replace HY2 := Lib.hid (HY2.out.below hb0)
  have HB := Lib.hid hb0
  have HQ1 := Lib.hid hq1
  have HQ2 := Lib.hid hq2
  have HQ3 := Lib.hid hq3
  have c12 := hq1.c2
  have c22 := hq2.c2
  clear hb0 hq1 hq2 hq3
  go_wp2_with fail
  refine (gcd_any HY1.out HY2.out HL.out.1.2.1 HL.out.1.2.2.2).mono ?_
  rintro e w1 ⟨vg, rfl, hvg, hBw1⟩
  obtain ⟨ag, kg, rfl⟩ := slice_any hvg
  replace HX1 := Lib.hid (HX1.out.below hBw1)
  replace HY1 := Lib.hid (HY1.out.below hBw1)
  replace HX2 := Lib.hid (HX2.out.below hBw1)
  replace HY2 := Lib.hid (HY2.out.below hBw1)
  replace HQ1 := Lib.hid (HQ1.out.keep hBw1)
  replace HQ2 := Lib.hid (HQ2.out.keep hBw1)
  replace HQ3 := Lib.hid (HQ3.out.keep hBw1)
  replace HB := Lib.hid (HB.out.trans (hBw1.mono HB.out.size))
  have HVg := Lib.hid hvg
  clear c12 c22 hvg hBw1
  have HS_w1 := Lib.hid (show ∀ W, Below w1.heap.size w1 W → W.cell? ⟨w.heap.size, 0, none⟩ = some (.bool m1) ∧ W.cell? ⟨w.heap.size, 1, none⟩ = some (.slice a1 (ln n1) k1) ∧ W.cell? ⟨w.heap.size, 2, none⟩ = some (.slice a2 (ln d1) k2) ∧ W.cell? ⟨w.heap.size + 1, 0, none⟩ = some (.bool m2) ∧ W.cell? ⟨w.heap.size + 1, 1, none⟩ = some (.slice a3 (ln n2) k3) ∧ W.cell? ⟨w.heap.size + 1, 2, none⟩ = some (.slice a4 (ln d2) k4) from fun W h =>
      ⟨(HQ1.out.keep h).c0, (HQ1.out.keep h).c1, (HQ1.out.keep h).c2, (HQ2.out.keep h).c0, (HQ2.out.keep h).c1, (HQ2.out.keep h).c2⟩)
  have hD1 := (Below.refl w1.heap.size w1).drew
  go_wp2_with fail
  go_region_held3 (fun W => W.cell? ⟨w.heap.size, 0, none⟩ = some (.bool m1) ∧ W.cell? ⟨w.heap.size, 1, none⟩ = some (.slice a1 (ln n1) k1) ∧ W.cell? ⟨w.heap.size, 2, none⟩ = some (.slice a2 (ln d1) k2) ∧ W.cell? ⟨w.heap.size + 1, 0, none⟩ = some (.bool m2) ∧ W.cell? ⟨w.heap.size + 1, 1, none⟩ = some (.slice a3 (ln n2) k3) ∧ W.cell? ⟨w.heap.size + 1, 2, none⟩ = some (.slice a4 (ln d2) k4))
    (first | exact HS_w1.out _ hD1 | exact HS_w1.out _ (by assumption))
    (first
      | (go_at_call_of 127 (Value.slice a2 (ln d1) k2); refine (lift_num (w0 := w1) (by assumption) (over_any (a := d1) (b := Nat.gcd d1 d2) (HY1.out.below (by assumption)) (HVg.out.below (by assumption)) HL.out.1.2.1 HL.out.2.1 HP.out.1)).mono ?_; rintro e u1 ⟨vl, rfl, hvl, hbl, hBl⟩; obtain ⟨al, kl, rfl⟩ := slice_any hvl)
      | (go_at_call_of 127 (Value.slice a4 (ln d2) k4); refine (lift_num (w0 := w1) (by assumption) (over_any (a := d2) (b := Nat.gcd d1 d2) (HY2.out.below (by assumption)) (HVg.out.below (by assumption)) HL.out.1.2.2.2 HL.out.2.1 HP.out.1)).mono ?_; rintro e w2 ⟨vr, rfl, hvr, hbr, hBr⟩; obtain ⟨ar, kr, rfl⟩ := slice_any hvr))
  replace HX1 := Lib.hid (HX1.out.below hBr)
  replace HY1 := Lib.hid (HY1.out.below hBr)
  replace HX2 := Lib.hid (HX2.out.below hBr)
  replace HY2 := Lib.hid (HY2.out.below hBr)
  replace HVg := Lib.hid (HVg.out.below hBr)
  replace HQ1 := Lib.hid (HQ1.out.keep hBr)
  replace HQ2 := Lib.hid (HQ2.out.keep hBr)
  replace HQ3 := Lib.hid (HQ3.out.keep hBr)
  replace HB := Lib.hid (HB.out.trans (hBr.mono HB.out.size))
  have HVl := Lib.hid (hvl.below hbr)
  have HVr := Lib.hid hvr
  clear hvl hbl hBl hvr hbr hBr hD1 HS_w1
  have c10 := HQ1.out.c0
  go_wp2_with fail
  have hbs : Below w2.heap.size w2 (w2.alloc (.cells #[.bool m1, .slice none 0 0, .slice none 0 0] 49)) := (Below.refl _ _).alloc (Nat.le_refl _) _
  have hqs := FR.new w2 m1 (.slice none 0 0) (.slice none 0 0)
  have hsz := HB.out.size
  have h3lt := HQ3.out.lt
  obtain ⟨bs, hbse⟩ : ∃ bs, bs = w2.heap.size := ⟨_, rfl⟩
  rw [← hbse] at hqs ⊢
  have hne : w.heap.size + 2 < bs := by omega
  have HBS := Lib.hid (show Below w2.heap.size w2 (w2.alloc (.cells #[.bool m1, .slice none 0 0, .slice none 0 0] 49)) from hbs)
  generalize w2.alloc (.cells #[.bool m1, .slice none 0 0, .slice none 0 0] 49) = w3 at hbs hqs HBS ⊢
  replace HX1 := Lib.hid (HX1.out.below hbs)
  replace HX2 := Lib.hid (HX2.out.below hbs)
  replace HY2 := Lib.hid (HY2.out.below hbs)
  replace HVg := Lib.hid (HVg.out.below hbs)
  replace HVl := Lib.hid (HVl.out.below hbs)
  replace HVr := Lib.hid (HVr.out.below hbs)
  replace HQ1 := Lib.hid (HQ1.out.keep hbs)
  replace HQ2 := Lib.hid (HQ2.out.keep hbs)
  replace HQ3 := Lib.hid (HQ3.out.keep hbs)
  replace HB := Lib.hid (HB.out.trans (hbs.mono HB.out.size))
  have HQS := Lib.hid hqs
  have HNE := Lib.hid (show w.heap.size + 2 < bs ∧ w.heap.size ≤ bs by omega)
  clear c10 hbs hqs hsz h3lt hbse hne HBS HY1
  have HS_w3 := Lib.hid (show ∀ W, Below w3.heap.size w3 W → W.cell? ⟨w.heap.size, 0, none⟩ = some (.bool m1) ∧ W.cell? ⟨w.heap.size, 1, none⟩ = some (.slice a1 (ln n1) k1) ∧ W.cell? ⟨w.heap.size, 2, none⟩ = some (.slice a2 (ln d1) k2) ∧ W.cell? ⟨w.heap.size + 1, 0, none⟩ = some (.bool m2) ∧ W.cell? ⟨w.heap.size + 1, 1, none⟩ = some (.slice a3 (ln n2) k3) ∧ W.cell? ⟨w.heap.size + 1, 2, none⟩ = some (.slice a4 (ln d2) k4) from fun W h =>
      ⟨(HQ1.out.keep h).c0, (HQ1.out.keep h).c1, (HQ1.out.keep h).c2, (HQ2.out.keep h).c0, (HQ2.out.keep h).c1, (HQ2.out.keep h).c2⟩)
  have hD3 := (Below.refl w3.heap.size w3).drew
  go_wp2_with fail
  go_region_held3 (fun W => W.cell? ⟨w.heap.size, 0, none⟩ = some (.bool m1) ∧ W.cell? ⟨w.heap.size, 1, none⟩ = some (.slice a1 (ln n1) k1) ∧ W.cell? ⟨w.heap.size, 2, none⟩ = some (.slice a2 (ln d1) k2) ∧ W.cell? ⟨w.heap.size + 1, 0, none⟩ = some (.bool m2) ∧ W.cell? ⟨w.heap.size + 1, 1, none⟩ = some (.slice a3 (ln n2) k3) ∧ W.cell? ⟨w.heap.size + 1, 2, none⟩ = some (.slice a4 (ln d2) k4))
    (first | exact HS_w3.out _ hD3 | exact HS_w3.out _ (by assumption))
    (first
      | (go_at_call_of 128 (Value.slice a1 (ln n1) k1); refine (lift_num (w0 := w3) (by assumption) (times_any (a := n1) (b := (d2 / Nat.gcd d1 d2)) (HX1.out.below (by assumption)) (HVr.out.below (by assumption)) HR.out.2.2.1 HR.out.2.1)).mono ?_; rintro e u2 ⟨vo, rfl, hvo, hbo, hBo⟩; obtain ⟨ao, ko, rfl⟩ := slice_any hvo)
      | (go_at_call_of 128 (Value.slice a3 (ln n2) k3); refine (lift_num (w0 := w3) (by assumption) (times_any (a := n2) (b := (d1 / Nat.gcd d1 d2)) (HX2.out.below (by assumption)) (HVl.out.below (by assumption)) HR.out.2.2.2.1 HR.out.1)).mono ?_; rintro e w4 ⟨vtt, rfl, hvtt, hbtt, hBtt⟩; obtain ⟨att, ktt, rfl⟩ := slice_any hvtt))
  replace HY2 := Lib.hid (HY2.out.below hBtt)
  replace HVg := Lib.hid (HVg.out.below hBtt)
  replace HVl := Lib.hid (HVl.out.below hBtt)
  replace HQ1 := Lib.hid (HQ1.out.keep hBtt)
  replace HQ2 := Lib.hid (HQ2.out.keep hBtt)
  replace HQ3 := Lib.hid (HQ3.out.keep hBtt)
  replace HQS := Lib.hid (HQS.out.keep hBtt)
  replace HB := Lib.hid (HB.out.trans (hBtt.mono HB.out.size))
  have HVo := Lib.hid (hvo.below hbtt)
  have HVt := Lib.hid hvtt
  clear hvo hbo hBo hvtt hbtt hBtt hD3 HS_w3 HVr HX1 HX2
  have c10 := HQ1.out.c0
  have c20 := HQ2.out.c0
  go_wp2_with fail
  refine (ncmp_any HVo.out HVt.out HM.out.1 HM.out.2).mono ?_
  rintro e w5 ⟨rfl, hBcm⟩
  replace HY2 := Lib.hid (HY2.out.below hBcm)
  replace HVg := Lib.hid (HVg.out.below hBcm)
  replace HVl := Lib.hid (HVl.out.below hBcm)
  replace HVo := Lib.hid (HVo.out.below hBcm)
  replace HVt := Lib.hid (HVt.out.below hBcm)
  replace HQ1 := Lib.hid (HQ1.out.keep hBcm)
  replace HQ2 := Lib.hid (HQ2.out.keep hBcm)
  replace HQ3 := Lib.hid (HQ3.out.keep hBcm)
  replace HQS := Lib.hid (HQS.out.keep hBcm)
  replace HB := Lib.hid (HB.out.trans (hBcm.mono HB.out.size))
  clear hBcm c10 c20 HQ1
  have HK := Lib.hid (show ∀ W, Below w5.heap.size w5 W → W.cell? ⟨w.heap.size + 1, 0, none⟩ = some (.bool m2) from fun W h => (HQ2.out.keep h).c0)
  have HK1 := Lib.hid (show ∀ W x, Below w5.heap.size w5 W → (W.setCell ⟨bs, 1, none⟩ x).cell? ⟨w.heap.size + 1, 0, none⟩ = some (.bool m2) from fun W x h => ((HQ2.out.keep h).setOther (g := bs) (by have := HNE.out; omega) 1 x).c0)
  have HK2 := Lib.hid (show ∀ W x y, Below w5.heap.size w5 W → ((W.setCell ⟨bs, 1, none⟩ x).setCell ⟨bs, 0, none⟩ y).cell? ⟨w.heap.size + 1, 0, none⟩ = some (.bool m2) from fun W x y h => (((HQ2.out.keep h).setOther (g := bs) (by have := HNE.out; omega) 1 x).setOther (g := bs) (by have := HNE.out; omega) 0 y).c0)
  have hD5 := (Below.refl w5.heap.size w5).drew
  go_wp2_with fail
  go_region_held3 (fun W => W.cell? ⟨w.heap.size + 1, 0, none⟩ = some (.bool m2))
    (first | exact HK.out _ hD5 | exact HK.out _ (by assumption) | exact HK1.out _ _ (by assumption) | exact HK2.out _ _ _ (by assumption))
    (first
      | (go_at_call 131; refine (lift_own (w0 := w5) (by assumption) (minus_any (a := (n2 * (d1 / Nat.gcd d1 d2))) (b := (n1 * (d2 / Nat.gcd d1 d2))) (HVt.out.below (by assumption)) (HVo.out.below (by assumption)) HM.out.2 HC.out)).mono ?_; rintro e u6 ⟨vs, rfl, hvs, hbs, hBs⟩; obtain ⟨asu, ksu, rfl⟩ := slice_any hvs; have i0 := (HQS.out.keep hBs).c0; have i1 := (HQS.out.keep hBs).c1; have i2 := (HQS.out.keep hBs).c2; have j0 := (HQS.out.keep hBs).z0; have j1 := (HQS.out.keep hBs).z1; have j2 := (HQS.out.keep hBs).z2))
  replace HY2 := Lib.hid (HY2.out.below hBs)
  replace HVg := Lib.hid (HVg.out.below hBs)
  replace HVl := Lib.hid (HVl.out.below hBs)
  replace HQ2 := Lib.hid (HQ2.out.keep hBs)
  replace HQ3 := Lib.hid (HQ3.out.keep hBs)
  replace HQS := Lib.hid (HQS.out.keep hBs)
  replace HB := Lib.hid (HB.out.trans (hBs.mono HB.out.size))
  have HVs := Lib.hid hvs
  have hq6 := HQS.out.set1 (.slice asu (ln ((n2 * (d1 / Nat.gcd d1 d2)) - (n1 * (d2 / Nat.gcd d1 d2)))) ksu)
  replace HY2 := Lib.hid ((HY2.out.setCell i0 1 (.slice asu (ln ((n2 * (d1 / Nat.gcd d1 d2)) - (n1 * (d2 / Nat.gcd d1 d2)))) ksu)).setCell hq6.c0 0 (.bool m2))
  replace HVg := Lib.hid ((HVg.out.setCell i0 1 (.slice asu (ln ((n2 * (d1 / Nat.gcd d1 d2)) - (n1 * (d2 / Nat.gcd d1 d2)))) ksu)).setCell hq6.c0 0 (.bool m2))
  replace HVl := Lib.hid ((HVl.out.setCell i0 1 (.slice asu (ln ((n2 * (d1 / Nat.gcd d1 d2)) - (n1 * (d2 / Nat.gcd d1 d2)))) ksu)).setCell hq6.c0 0 (.bool m2))
  replace HVs := Lib.hid ((HVs.out.setCell i0 1 (.slice asu (ln ((n2 * (d1 / Nat.gcd d1 d2)) - (n1 * (d2 / Nat.gcd d1 d2)))) ksu)).setCell hq6.c0 0 (.bool m2))
  replace HQ2 := Lib.hid ((HQ2.out.setOther (g := bs) (by have := HNE.out; omega) 1 (.slice asu (ln ((n2 * (d1 / Nat.gcd d1 d2)) - (n1 * (d2 / Nat.gcd d1 d2)))) ksu)).setOther (g := bs) (by have := HNE.out; omega) 0 (.bool m2))
  replace HQ3 := Lib.hid ((HQ3.out.setOther (g := bs) (by have := HNE.out; omega) 1 (.slice asu (ln ((n2 * (d1 / Nat.gcd d1 d2)) - (n1 * (d2 / Nat.gcd d1 d2)))) ksu)).setOther (g := bs) (by have := HNE.out; omega) 0 (.bool m2))
  replace HQS := Lib.hid (hq6.set0 m2)
  replace HB := Lib.hid ((HB.out.setCell (p := ⟨bs, 1, none⟩) HNE.out.2 (.slice asu (ln ((n2 * (d1 / Nat.gcd d1 d2)) - (n1 * (d2 / Nat.gcd d1 d2)))) ksu)).setCell (p := ⟨bs, 0, none⟩) HNE.out.2 (.bool m2))
  clear i0 i1 i2 j0 j1 j2 hvs hbs hBs HVo HVt hD5 HK HK1 HK2 hq6 hcc
  generalize (u6.setCell ⟨bs, 1, none⟩ (.slice asu (ln ((n2 * (d1 / Nat.gcd d1 d2)) - (n1 * (d2 / Nat.gcd d1 d2)))) ksu)).setCell ⟨bs, 0, none⟩ (.bool m2) = w6 at HY2 HVg HVl HVs HQ2 HQ3 HQS HB ⊢
  have i1 := HQS.out.c1
  go_wp2_with fail
  clear i1
  refine (gcd_any HVs.out HVg.out HL.out.2.2.2 HL.out.2.1).mono ?_
  rintro e w7 ⟨vrr, rfl, hvrr, hBrr⟩
  obtain ⟨arr, krr, rfl⟩ := slice_any hvrr
  replace HY2 := Lib.hid (HY2.out.below hBrr)
  replace HVl := Lib.hid (HVl.out.below hBrr)
  replace HVs := Lib.hid (HVs.out.below hBrr)
  replace HQ2 := Lib.hid (HQ2.out.keep hBrr)
  replace HQ3 := Lib.hid (HQ3.out.keep hBrr)
  replace HQS := Lib.hid (HQS.out.keep hBrr)
  replace HB := Lib.hid (HB.out.trans (hBrr.mono HB.out.size))
  have HVr := Lib.hid hvrr
  clear hvrr hBrr HVg
  have hk1 : w7.drew.cell? ⟨bs, 1, none⟩ = some (.slice asu (ln ((n2 * (d1 / Nat.gcd d1 d2)) - (n1 * (d2 / Nat.gcd d1 d2)))) ksu) := (HQS.out.keep ((Below.refl w7.heap.size w7).drew)).c1
  have HK := Lib.hid (show ∀ W, Below w7.heap.size w7 W → W.cell? ⟨w.heap.size + 1, 2, none⟩ = some (.slice a4 (ln d2) k4) from fun W h => (HQ2.out.keep h).c2)
  have HK1 := Lib.hid (show ∀ W x, Below w7.heap.size w7 W → (W.setCell ⟨bs, 1, none⟩ x).cell? ⟨w.heap.size + 1, 2, none⟩ = some (.slice a4 (ln d2) k4) from fun W x h => ((HQ2.out.keep h).setOther (g := bs) (by have := HNE.out; omega) 1 x).c2)
  have HK2 := Lib.hid (show ∀ W x y, Below w7.heap.size w7 W → ((W.setCell ⟨bs, 1, none⟩ x).setCell ⟨bs, 2, none⟩ y).cell? ⟨w.heap.size + 1, 2, none⟩ = some (.slice a4 (ln d2) k4) from fun W x y h => (((HQ2.out.keep h).setOther (g := bs) (by have := HNE.out; omega) 1 x).setOther (g := bs) (by have := HNE.out; omega) 2 y).c2)
  have hD7 := (Below.refl w7.heap.size w7).drew
  go_wp2_with fail
  have hk2 := HK.out _ hD7
  go_region_with
    (first
      | (go_at_call_of 127 (Value.slice asu (ln ((n2 * (d1 / Nat.gcd d1 d2)) - (n1 * (d2 / Nat.gcd d1 d2)))) ksu); refine (lift_num (w0 := w7) (by assumption) (over_any (a := ((n2 * (d1 / Nat.gcd d1 d2)) - (n1 * (d2 / Nat.gcd d1 d2)))) (b := Nat.gcd ((n2 * (d1 / Nat.gcd d1 d2)) - (n1 * (d2 / Nat.gcd d1 d2))) (Nat.gcd d1 d2)) (HVs.out.below (by assumption)) (HVr.out.below (by assumption)) HL.out.2.2.2 HL.out.2.2.1 HP.out.2)).mono ?_; rintro e u8 ⟨vp, rfl, hvp, hbp, hBp⟩; obtain ⟨ap, kp, rfl⟩ := slice_any hvp; have hk3 := HK.out _ hBp)
      | (go_at_call_of 127 (Value.slice a4 (ln d2) k4); refine (lift_num (w0 := w7) (by assumption) (over_any (a := d2) (b := Nat.gcd ((n2 * (d1 / Nat.gcd d1 d2)) - (n1 * (d2 / Nat.gcd d1 d2))) (Nat.gcd d1 d2)) (HY2.out.below (by assumption)) (HVr.out.below (by assumption)) HL.out.1.2.2.2 HL.out.2.2.1 HP.out.2)).mono ?_; rintro e u9 ⟨vq, rfl, hvq, hbq, hBq⟩; obtain ⟨aq, kq, rfl⟩ := slice_any hvq)
      | (go_at_call_of 128 (Value.slice al (ln (d1 / Nat.gcd d1 d2)) kl); refine (lift_num (w0 := w7) (by assumption) (times_any (a := (d1 / Nat.gcd d1 d2)) (b := d2 / Nat.gcd ((n2 * (d1 / Nat.gcd d1 d2)) - (n1 * (d2 / Nat.gcd d1 d2))) (Nat.gcd d1 d2)) (HVl.out.below (by assumption)) hvq HR.out.1 HR.out.2.2.2.2)).mono ?_; rintro e u10 ⟨vz, rfl, hvz, hbz, hBz⟩; obtain ⟨az, kz, rfl⟩ := slice_any hvz; have i0 := (HQS.out.keep hBz).c0; have i1 := (HQS.out.keep hBz).c1; have i2 := (HQS.out.keep hBz).c2; have j0 := (HQS.out.keep hBz).z0; have j1 := (HQS.out.keep hBz).z1; have j2 := (HQS.out.keep hBz).z2))
  all_goals (
    have hqs := (HQS.out.keep hBz).set1 (.slice ap (ln (((n2 * (d1 / Nat.gcd d1 d2)) - (n1 * (d2 / Nat.gcd d1 d2))) / Nat.gcd ((n2 * (d1 / Nat.gcd d1 d2)) - (n1 * (d2 / Nat.gcd d1 d2))) (Nat.gcd d1 d2))) kp)
    have hnp := (((hvp.below hbq).below hbz).setCell i0 1 (.slice ap (ln (((n2 * (d1 / Nat.gcd d1 d2)) - (n1 * (d2 / Nat.gcd d1 d2))) / Nat.gcd ((n2 * (d1 / Nat.gcd d1 d2)) - (n1 * (d2 / Nat.gcd d1 d2))) (Nat.gcd d1 d2))) kp)).setCell hqs.c0 2 (.slice az (ln (d1 / Nat.gcd d1 d2 * (d2 / Nat.gcd ((n2 * (d1 / Nat.gcd d1 d2)) - (n1 * (d2 / Nat.gcd d1 d2))) (Nat.gcd d1 d2)))) kz)
    have hnz := (hvz.setCell i0 1 (.slice ap (ln (((n2 * (d1 / Nat.gcd d1 d2)) - (n1 * (d2 / Nat.gcd d1 d2))) / Nat.gcd ((n2 * (d1 / Nat.gcd d1 d2)) - (n1 * (d2 / Nat.gcd d1 d2))) (Nat.gcd d1 d2))) kp)).setCell hqs.c0 2 (.slice az (ln (d1 / Nat.gcd d1 d2 * (d2 / Nat.gcd ((n2 * (d1 / Nat.gcd d1 d2)) - (n1 * (d2 / Nat.gcd d1 d2))) (Nat.gcd d1 d2)))) kz)
    have hq3 := ((HQ3.out.keep hBz).setOther (g := bs) (by have := HNE.out; omega) 1 (.slice ap (ln (((n2 * (d1 / Nat.gcd d1 d2)) - (n1 * (d2 / Nat.gcd d1 d2))) / Nat.gcd ((n2 * (d1 / Nat.gcd d1 d2)) - (n1 * (d2 / Nat.gcd d1 d2))) (Nat.gcd d1 d2))) kp)).setOther (g := bs) (by have := HNE.out; omega) 2 (.slice az (ln (d1 / Nat.gcd d1 d2 * (d2 / Nat.gcd ((n2 * (d1 / Nat.gcd d1 d2)) - (n1 * (d2 / Nat.gcd d1 d2))) (Nat.gcd d1 d2)))) kz)
    have hqf := hqs.set2 (.slice az (ln (d1 / Nat.gcd d1 d2 * (d2 / Nat.gcd ((n2 * (d1 / Nat.gcd d1 d2)) - (n1 * (d2 / Nat.gcd d1 d2))) (Nat.gcd d1 d2)))) kz)
    replace HB := Lib.hid (((HB.out.trans (hBz.mono HB.out.size)).setCell (p := ⟨bs, 1, none⟩) HNE.out.2 (.slice ap (ln (((n2 * (d1 / Nat.gcd d1 d2)) - (n1 * (d2 / Nat.gcd d1 d2))) / Nat.gcd ((n2 * (d1 / Nat.gcd d1 d2)) - (n1 * (d2 / Nat.gcd d1 d2))) (Nat.gcd d1 d2))) kp)).setCell (p := ⟨bs, 2, none⟩) HNE.out.2 (.slice az (ln (d1 / Nat.gcd d1 d2 * (d2 / Nat.gcd ((n2 * (d1 / Nat.gcd d1 d2)) - (n1 * (d2 / Nat.gcd d1 d2))) (Nat.gcd d1 d2)))) kz))
    generalize (u10.setCell ⟨bs, 1, none⟩ (.slice ap (ln (((n2 * (d1 / Nat.gcd d1 d2)) - (n1 * (d2 / Nat.gcd d1 d2))) / Nat.gcd ((n2 * (d1 / Nat.gcd d1 d2)) - (n1 * (d2 / Nat.gcd d1 d2))) (Nat.gcd d1 d2))) kp)).setCell ⟨bs, 2, none⟩ (.slice az (ln (d1 / Nat.gcd d1 d2 * (d2 / Nat.gcd ((n2 * (d1 / Nat.gcd d1 d2)) - (n1 * (d2 / Nat.gcd d1 d2))) (Nat.gcd d1 d2)))) kz) = w11 at hnp hnz hq3 hqf HB ⊢
    have HNP := Lib.hid hnp
    have HNZ := Lib.hid hnz
    replace HQ3 := Lib.hid hq3
    have c0 := hqf.c0
    have c1 := hqf.c1
    have c2 := hqf.c2
    clear hqs hnp hnz hq3 hqf i0 i1 i2 j0 j1 j2 hvp hbp hBp hvq hbq hBq hvz hbz hBz hk1 hk2 hk3 HK HK1 HK2 hD7 HVr HVs HVl HY2 HQS HQ2
    go_wp2_with fail
    refine (normal_any (m := m2) (n := (((n2 * (d1 / Nat.gcd d1 d2)) - (n1 * (d2 / Nat.gcd d1 d2))) / Nat.gcd ((n2 * (d1 / Nat.gcd d1 d2)) - (n1 * (d2 / Nat.gcd d1 d2))) (Nat.gcd d1 d2))) (d := (d1 / Nat.gcd d1 d2 * (d2 / Nat.gcd ((n2 * (d1 / Nat.gcd d1 d2)) - (n1 * (d2 / Nat.gcd d1 d2))) (Nat.gcd d1 d2)))) HNP.out HNZ.out).mono ?_
    rintro e w12 ⟨rfl, hBn⟩
    have i0 := (HQ3.out.keep hBn).c0
    have i1 := (HQ3.out.keep hBn).c1
    have i2 := (HQ3.out.keep hBn).c2
    have j0 := (HQ3.out.keep hBn).z0
    have j1 := (HQ3.out.keep hBn).z1
    have j2 := (HQ3.out.keep hBn).z2
    have hq := (HQ3.out.keep hBn).st (m2 && !zeroB (((n2 * (d1 / Nat.gcd d1 d2)) - (n1 * (d2 / Nat.gcd d1 d2))) / Nat.gcd ((n2 * (d1 / Nat.gcd d1 d2)) - (n1 * (d2 / Nat.gcd d1 d2))) (Nat.gcd d1 d2))) (.slice ap (ln (((n2 * (d1 / Nat.gcd d1 d2)) - (n1 * (d2 / Nat.gcd d1 d2))) / Nat.gcd ((n2 * (d1 / Nat.gcd d1 d2)) - (n1 * (d2 / Nat.gcd d1 d2))) (Nat.gcd d1 d2))) kp) (.slice az (ln (d1 / Nat.gcd d1 d2 * (d2 / Nat.gcd ((n2 * (d1 / Nat.gcd d1 d2)) - (n1 * (d2 / Nat.gcd d1 d2))) (Nat.gcd d1 d2)))) kz)
    have hn1 := (HNP.out.below hBn).st3 i0 (m2 && !zeroB (((n2 * (d1 / Nat.gcd d1 d2)) - (n1 * (d2 / Nat.gcd d1 d2))) / Nat.gcd ((n2 * (d1 / Nat.gcd d1 d2)) - (n1 * (d2 / Nat.gcd d1 d2))) (Nat.gcd d1 d2))) (.slice ap (ln (((n2 * (d1 / Nat.gcd d1 d2)) - (n1 * (d2 / Nat.gcd d1 d2))) / Nat.gcd ((n2 * (d1 / Nat.gcd d1 d2)) - (n1 * (d2 / Nat.gcd d1 d2))) (Nat.gcd d1 d2))) kp) (.slice az (ln (d1 / Nat.gcd d1 d2 * (d2 / Nat.gcd ((n2 * (d1 / Nat.gcd d1 d2)) - (n1 * (d2 / Nat.gcd d1 d2))) (Nat.gcd d1 d2)))) kz)
    have hn2 := (HNZ.out.below hBn).st3 i0 (m2 && !zeroB (((n2 * (d1 / Nat.gcd d1 d2)) - (n1 * (d2 / Nat.gcd d1 d2))) / Nat.gcd ((n2 * (d1 / Nat.gcd d1 d2)) - (n1 * (d2 / Nat.gcd d1 d2))) (Nat.gcd d1 d2))) (.slice ap (ln (((n2 * (d1 / Nat.gcd d1 d2)) - (n1 * (d2 / Nat.gcd d1 d2))) / Nat.gcd ((n2 * (d1 / Nat.gcd d1 d2)) - (n1 * (d2 / Nat.gcd d1 d2))) (Nat.gcd d1 d2))) kp) (.slice az (ln (d1 / Nat.gcd d1 d2 * (d2 / Nat.gcd ((n2 * (d1 / Nat.gcd d1 d2)) - (n1 * (d2 / Nat.gcd d1 d2))) (Nat.gcd d1 d2)))) kz)
    have hbf := below_st3 (HB.out.trans (hBn.mono HB.out.size)) (show w.heap.size ≤ w.heap.size + 2 by omega) (m2 && !zeroB (((n2 * (d1 / Nat.gcd d1 d2)) - (n1 * (d2 / Nat.gcd d1 d2))) / Nat.gcd ((n2 * (d1 / Nat.gcd d1 d2)) - (n1 * (d2 / Nat.gcd d1 d2))) (Nat.gcd d1 d2))) (.slice ap (ln (((n2 * (d1 / Nat.gcd d1 d2)) - (n1 * (d2 / Nat.gcd d1 d2))) / Nat.gcd ((n2 * (d1 / Nat.gcd d1 d2)) - (n1 * (d2 / Nat.gcd d1 d2))) (Nat.gcd d1 d2))) kp) (.slice az (ln (d1 / Nat.gcd d1 d2 * (d2 / Nat.gcd ((n2 * (d1 / Nat.gcd d1 d2)) - (n1 * (d2 / Nat.gcd d1 d2))) (Nat.gcd d1 d2)))) kz)
    have HF := Lib.hid (And.intro hq (And.intro hn1 (And.intro hn2 hbf)))
    clear hq hn1 hn2 hbf hBn c0 c1 c2
    go_wp2_with fail
    exact bodyPost_ret (HF.out.1.resultP rfl) rfl ⟨_, rfl, ⟨_, _, rfl, HF.out.2.1, HF.out.2.2.1⟩, HF.out.2.2.2⟩)


end Go.Proofs.YtadkijaofmcgfaaGreatDoor
