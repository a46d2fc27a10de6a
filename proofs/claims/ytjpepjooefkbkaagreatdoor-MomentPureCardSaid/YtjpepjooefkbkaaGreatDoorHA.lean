/-
  exact.Fraction's Times. exact.Fraction's Plus. exact.Fraction's Plus: the signs differ. exact.Fraction's Plus: the signs differ.
-/
import Derived.Test.YtjpepjooefkbkaaGreatDoorGI
import Derived.Test.YtjpepjooefkbkaaGreatDoorGD
import Derived.Deep.RegionHeld3
import Derived.Deep.Cut
import Derived.Deep.CutRange
namespace Go.Proofs.YtjpepjooefkbkaaGreatDoor
open Go.RowKit NV
theorem FR.lt {w : World} {b : Nat} {m : Bool} {n d : Value} (h : FR w b m n d) : b < w.heap.size := (Array.getElem?_eq_some_iff.1 h).1
theorem FR.keep {w w' : World} {b : Nat} {m : Bool} {n d : Value} (h : FR w b m n d) (hb : Below w.heap.size w w') : FR w' b m n d := (hb.block _ h.lt).trans h
theorem FR.c0 {w : World} {b : Nat} {m : Bool} {n d : Value} (h : FR w b m n d) : w.cell? ⟨b, 0, none⟩ = some (.bool m) := by rw [Lib.cell_of_heap h]; rfl
theorem FR.c1 {w : World} {b : Nat} {m : Bool} {n d : Value} (h : FR w b m n d) : w.cell? ⟨b, 1, none⟩ = some n := by rw [Lib.cell_of_heap h]; rfl
theorem FR.c2 {w : World} {b : Nat} {m : Bool} {n d : Value} (h : FR w b m n d) : w.cell? ⟨b, 2, none⟩ = some d := by rw [Lib.cell_of_heap h]; rfl
theorem FR.z0 {w : World} {b : Nat} {m : Bool} {n d : Value} (h : FR w b m n d) : w.frozen? ⟨b, 0, none⟩ = false := Lib.frozen_of_heap h 0
theorem FR.z1 {w : World} {b : Nat} {m : Bool} {n d : Value} (h : FR w b m n d) : w.frozen? ⟨b, 1, none⟩ = false := Lib.frozen_of_heap h 1
theorem FR.z2 {w : World} {b : Nat} {m : Bool} {n d : Value} (h : FR w b m n d) : w.frozen? ⟨b, 2, none⟩ = false := Lib.frozen_of_heap h 2
theorem FR.new (w : World) (m : Bool) (n d : Value) : FR (w.alloc (.cells #[.bool m, n, d] 110)) w.heap.size m n d := heap_alloc_new w _
theorem FR.stOther {w : World} {b g : Nat} {m : Bool} {n d : Value} (h : FR w b m n d) (hg : b ≠ g) (m' : Bool) (n' d' : Value) : FR (st3 w g m' n' d') b m n d :=
 (heap_setCell_other _ ⟨g, 2, none⟩ b _ hg).trans ((heap_setCell_other _ ⟨g, 1, none⟩ b _ hg).trans ((heap_setCell_other w ⟨g, 0, none⟩ b _ hg).trans h))
theorem three_new (w : World) (m1 m2 m3 : Bool) (x1 y1 x2 y2 x3 y3 : Value) :
  Below w.heap.size w (((w.alloc (.cells #[.bool m1, x1, y1] 110)).alloc (.cells #[.bool m2, x2, y2] 110)).alloc (.cells #[.bool m3, x3, y3] 110)) ∧
  FR (((w.alloc (.cells #[.bool m1, x1, y1] 110)).alloc (.cells #[.bool m2, x2, y2] 110)).alloc (.cells #[.bool m3, x3, y3] 110)) w.heap.size m1 x1 y1 ∧
  FR (((w.alloc (.cells #[.bool m1, x1, y1] 110)).alloc (.cells #[.bool m2, x2, y2] 110)).alloc (.cells #[.bool m3, x3, y3] 110)) (w.heap.size + 1) m2 x2 y2 ∧
  FR (((w.alloc (.cells #[.bool m1, x1, y1] 110)).alloc (.cells #[.bool m2, x2, y2] 110)).alloc (.cells #[.bool m3, x3, y3] 110)) (w.heap.size + 2) m3 x3 y3 := by
 have h1 := FR.new w m1 x1 y1
 have s1 : (w.alloc (.cells #[.bool m1, x1, y1] 110)).heap.size = w.heap.size + 1 := by simp
 have b1 : Below w.heap.size w (w.alloc (.cells #[.bool m1, x1, y1] 110)) := (Below.refl _ _).alloc (Nat.le_refl _) _
 generalize w.alloc (.cells #[.bool m1, x1, y1] 110) = w1 at *
 have h2 := FR.new w1 m2 x2 y2
 have s2 : (w1.alloc (.cells #[.bool m2, x2, y2] 110)).heap.size = w1.heap.size + 1 := by simp
 have b2 : Below w1.heap.size w1 (w1.alloc (.cells #[.bool m2, x2, y2] 110)) := (Below.refl _ _).alloc (Nat.le_refl _) _
 generalize w1.alloc (.cells #[.bool m2, x2, y2] 110) = w2 at *
 have h3 := FR.new w2 m3 x3 y3
 have b3 : Below w2.heap.size w2 (w2.alloc (.cells #[.bool m3, x3, y3] 110)) := (Below.refl _ _).alloc (Nat.le_refl _) _
 generalize w2.alloc (.cells #[.bool m3, x3, y3] 110) = w3 at *
 refine ⟨(b1.trans (b2.mono (by omega))).trans (b3.mono (by omega)), (h1.keep b2).keep b3, ?_, ?_⟩
 ·rw [← s1]; exact h2.keep b3
 ·rw [show w.heap.size + 2 = w2.heap.size by omega]; exact h3
theorem ln_div {a b N : Nat} (h : ln a ≤ N) : ln (a / b) ≤ N := Nat.le_trans (ln_le (Nat.lt_of_le_of_lt (Nat.div_le_self a b) (lt_pow_ln a))) h
theorem ln_mul {a b M N : Nat} (ha : ln a ≤ M) (hb : ln b ≤ N) : ln (a * b) ≤ M + N := Nat.le_trans (ln_le (mul_lt_pow (lt_pow_ln a) (lt_pow_ln b))) (by omega)
theorem ln_add {a b N : Nat} (ha : ln a ≤ N) (hb : ln b ≤ N) : ln (a + b) ≤ N + 1 := by
 have h1 : a < B ^ N := Nat.lt_of_lt_of_le (lt_pow_ln a) (Nat.pow_le_pow_right (by rw [B_eq]; omega) ha)
 have h2 : b < B ^ N := Nat.lt_of_lt_of_le (lt_pow_ln b) (Nat.pow_le_pow_right (by rw [B_eq]; omega) hb)
 refine ln_le ?_
 rw [Nat.pow_succ]
 have : 2 ≤ B := by rw [B_eq]; omega
 have h3 := Nat.mul_le_mul_left (B ^ N) this
 omega
theorem ln_sub {a b N : Nat} (ha : ln a ≤ N) : ln (a - b) ≤ N := Nat.le_trans (ln_le (Nat.lt_of_le_of_lt (Nat.sub_le a b) (lt_pow_ln a))) ha
theorem lift_num {f : Nat} {args : Array Value} {w0 W : World} {n : Nat} (h0 : Below w0.heap.size w0 W) (hc : Calls Tryz.prog f args W fun e w' => ∃ v, e = .returned v ∧ Num w' v n ∧ Below W.heap.size W w') :
  Calls Tryz.prog f args W fun e w' => ∃ v, e = .returned v ∧ Num w' v n ∧ Below W.heap.size W w' ∧ Below w0.heap.size w0 w' :=
 hc.mono fun _ _ ⟨v, h1, h2, h3⟩ => ⟨v, h1, h2, h3, h0.trans (h3.mono h0.size)⟩
theorem FR.resultT {w : World} {b : Nat} {m : Bool} {n d : Value} {tmps : Array Value} (h : FR w b m n d) (ht : tmps.getD 4 undef = .pointer (some ⟨b, 0, none⟩)) : (results Tryz.f76 tmps).run Tryz.prog w = .ok (.agg #[.bool m, n, d]) w := by
 have hl := h.load
 have ht' : tmps[4]?.getD undef = .pointer (some ⟨b, 0, none⟩) := by rw [← ht]; simp
 simp [results, ht', asAddr, hl]
set_option maxHeartbeats 3200000 in
set_option maxRecDepth 100000 in
theorem ftimes_any {w : World} {m1 m2 : Bool} {x1 y1 x2 y2 : Value} {n1 d1 n2 d2 : Nat} (hx1 : Num w x1 n1) (hy1 : Num w y1 d1) (hx2 : Num w x2 n2) (hy2 : Num w y2 d2)
  (l1 : ln n1 ≤ 100000) (l2 : ln d1 ≤ 100000) (l3 : ln n2 ≤ 100000) (l4 : ln d2 ≤ 100000) (g1 : d1 ≠ 0) (g2 : d2 ≠ 0) :
  Calls Tryz.prog 76 #[.agg #[.bool m1, x1, y1], .agg #[.bool m2, x2, y2]] w fun e w' => ∃ v, e = .returned v ∧
   FNum w' v ((m1 != m2) && !zeroB (n1 / Nat.gcd n1 d2 * (n2 / Nat.gcd n2 d1))) (n1 / Nat.gcd n1 d2 * (n2 / Nat.gcd n2 d1)) (d1 / Nat.gcd n2 d1 * (d2 / Nat.gcd n1 d2)) ∧ Below w.heap.size w w' := by
 have p1 : Nat.gcd n1 d2 ≠ 0 := Nat.ne_of_gt (Nat.gcd_pos_of_pos_right _ (Nat.pos_of_ne_zero g2))
 have p2 : Nat.gcd n2 d1 ≠ 0 := Nat.ne_of_gt (Nat.gcd_pos_of_pos_right _ (Nat.pos_of_ne_zero g1))
 have q1 : ln (Nat.gcd n1 d2) ≤ 100000 := gcd_ln l1 l4
 have q2 : ln (Nat.gcd n2 d1) ≤ 100000 := gcd_ln l3 l2
 have r1 : ln (n1 / Nat.gcd n1 d2) ≤ 100000 := ln_div l1
 have r2 : ln (n2 / Nat.gcd n2 d1) ≤ 100000 := ln_div l3
 have r3 : ln (d1 / Nat.gcd n2 d1) ≤ 100000 := ln_div l2
 have r4 : ln (d2 / Nat.gcd n1 d2) ≤ 100000 := ln_div l4
 have HL := Lib.hid (show (ln n1 ≤ 1000000 ∧ ln d1 ≤ 1000000 ∧ ln n2 ≤ 1000000 ∧ ln d2 ≤ 1000000) ∧ ln (Nat.gcd n1 d2) ≤ 1000000 ∧ ln (Nat.gcd n2 d1) ≤ 1000000 by omega)
 have HR := Lib.hid (show ln (n1 / Nat.gcd n1 d2) ≤ 2000000 ∧ ln (n2 / Nat.gcd n2 d1) ≤ 2000000 ∧ ln (d1 / Nat.gcd n2 d1) ≤ 2000000 ∧ ln (d2 / Nat.gcd n1 d2) ≤ 2000000 by omega)
 have HP := Lib.hid (And.intro p1 p2)
 clear l1 l2 l3 l4 q1 q2 r1 r2 r3 r4 p1 p2 g1 g2
 obtain ⟨a1, k1, rfl⟩ := slice_any hx1
 obtain ⟨a2, k2, rfl⟩ := slice_any hy1
 obtain ⟨a3, k3, rfl⟩ := slice_any hx2
 obtain ⟨a4, k4, rfl⟩ := slice_any hy2
 have HX1 := Lib.hid hx1
 have HY1 := Lib.hid hy1
 have HX2 := Lib.hid hx2
 have HY2 := Lib.hid hy2
 clear hx1 hy1 hx2 hy2
 go_enter Tryz.func76, Tryz.ntmps76
 go_wp2_with fail
 obtain ⟨hb0, hq1, hq2, hq3⟩ := three_new w m1 m2 false (.slice a1 (ln n1) k1) (.slice a2 (ln d1) k2) (.slice a3 (ln n2) k3) (.slice a4 (ln d2) k4) (.slice none 0 0) (.slice none 0 0)
 generalize ((w.alloc (.cells #[.bool m1, .slice a1 (ln n1) k1, .slice a2 (ln d1) k2] 110)).alloc (.cells #[.bool m2, .slice a3 (ln n2) k3, .slice a4 (ln d2) k4] 110)).alloc (.cells #[.bool false, .slice none 0 0, .slice none 0 0] 110) = w0 at hb0 hq1 hq2 hq3 ⊢
 replace HX1 := Lib.hid (HX1.out.below hb0)
 replace HY1 := Lib.hid (HY1.out.below hb0)
 replace HX2 := Lib.hid (HX2.out.below hb0)
 replace HY2 := Lib.hid (HY2.out.below hb0)
 have HB := Lib.hid hb0
 have HQ1 := Lib.hid hq1
 have HQ2 := Lib.hid hq2
 have HQ3 := Lib.hid hq3
 have HS := Lib.hid (show ∀ W, Below w0.heap.size w0 W → W.cell? ⟨w.heap.size, 0, none⟩ = some (.bool m1) ∧ W.cell? ⟨w.heap.size, 1, none⟩ = some (.slice a1 (ln n1) k1) ∧ W.cell? ⟨w.heap.size, 2, none⟩ = some (.slice a2 (ln d1) k2) ∧
   W.cell? ⟨w.heap.size + 1, 0, none⟩ = some (.bool m2) ∧ W.cell? ⟨w.heap.size + 1, 1, none⟩ = some (.slice a3 (ln n2) k3) ∧ W.cell? ⟨w.heap.size + 1, 2, none⟩ = some (.slice a4 (ln d2) k4) from fun W h =>
   ⟨(hq1.keep h).c0, (hq1.keep h).c1, (hq1.keep h).c2, (hq2.keep h).c0, (hq2.keep h).c1, (hq2.keep h).c2⟩)
 clear hb0 hq1 hq2 hq3
 have hD0 := (Below.refl w0.heap.size w0).drew
 go_region_held3 (fun W => W.cell? ⟨w.heap.size, 0, none⟩ = some (.bool m1) ∧ W.cell? ⟨w.heap.size, 1, none⟩ = some (.slice a1 (ln n1) k1) ∧ W.cell? ⟨w.heap.size, 2, none⟩ = some (.slice a2 (ln d1) k2) ∧
   W.cell? ⟨w.heap.size + 1, 0, none⟩ = some (.bool m2) ∧ W.cell? ⟨w.heap.size + 1, 1, none⟩ = some (.slice a3 (ln n2) k3) ∧ W.cell? ⟨w.heap.size + 1, 2, none⟩ = some (.slice a4 (ln d2) k4))
  (first | exact HS.out _ hD0 | exact HS.out _ (by assumption))
  (first
   | (go_at_call_of 98 (Value.slice a1 (ln n1) k1); refine (lift_num (w0 := w0) (by assumption) (gcd_any (a := n1) (b := d2) (HX1.out.below (by assumption)) (HY2.out.below (by assumption)) HL.out.1.1 HL.out.1.2.2.2)).mono ?_; rintro e w1 ⟨vg1, rfl, hvg1, hb1, hB1⟩; obtain ⟨ag1, kg1, rfl⟩ := slice_any hvg1)
   | (go_at_call_of 98 (Value.slice a3 (ln n2) k3); refine (lift_num (w0 := w0) (by assumption) (gcd_any (a := n2) (b := d1) (HX2.out.below (by assumption)) (HY1.out.below (by assumption)) HL.out.1.2.2.1 HL.out.1.2.1)).mono ?_; rintro e w2 ⟨vg2, rfl, hvg2, hb2, hB2⟩; obtain ⟨ag2, kg2, rfl⟩ := slice_any hvg2))
 go_wp2_with fail
 replace HX1 := Lib.hid (HX1.out.below hB2)
 replace HY1 := Lib.hid (HY1.out.below hB2)
 replace HX2 := Lib.hid (HX2.out.below hB2)
 replace HY2 := Lib.hid (HY2.out.below hB2)
 replace HQ1 := Lib.hid (HQ1.out.keep hB2)
 replace HQ2 := Lib.hid (HQ2.out.keep hB2)
 replace HQ3 := Lib.hid (HQ3.out.keep hB2)
 replace HB := Lib.hid (HB.out.trans (hB2.mono HB.out.size))
 have HVg1 := Lib.hid (hvg1.below hb2)
 have HVg2 := Lib.hid hvg2
 replace HS := Lib.hid (show ∀ W, Below w2.heap.size w2 W → W.cell? ⟨w.heap.size, 0, none⟩ = some (.bool m1) ∧ W.cell? ⟨w.heap.size, 1, none⟩ = some (.slice a1 (ln n1) k1) ∧ W.cell? ⟨w.heap.size, 2, none⟩ = some (.slice a2 (ln d1) k2) ∧
   W.cell? ⟨w.heap.size + 1, 0, none⟩ = some (.bool m2) ∧ W.cell? ⟨w.heap.size + 1, 1, none⟩ = some (.slice a3 (ln n2) k3) ∧ W.cell? ⟨w.heap.size + 1, 2, none⟩ = some (.slice a4 (ln d2) k4) from fun W h =>
   ⟨(HQ1.out.keep h).c0, (HQ1.out.keep h).c1, (HQ1.out.keep h).c2, (HQ2.out.keep h).c0, (HQ2.out.keep h).c1, (HQ2.out.keep h).c2⟩)
 have HT := Lib.hid (show ∀ W m x y, Below w2.heap.size w2 W → (st3 W (w.heap.size + 2) m x y).cell? ⟨w.heap.size, 0, none⟩ = some (.bool m1) ∧ (st3 W (w.heap.size + 2) m x y).cell? ⟨w.heap.size, 1, none⟩ = some (.slice a1 (ln n1) k1) ∧ (st3 W (w.heap.size + 2) m x y).cell? ⟨w.heap.size, 2, none⟩ = some (.slice a2 (ln d1) k2) ∧
   (st3 W (w.heap.size + 2) m x y).cell? ⟨w.heap.size + 1, 0, none⟩ = some (.bool m2) ∧ (st3 W (w.heap.size + 2) m x y).cell? ⟨w.heap.size + 1, 1, none⟩ = some (.slice a3 (ln n2) k3) ∧ (st3 W (w.heap.size + 2) m x y).cell? ⟨w.heap.size + 1, 2, none⟩ = some (.slice a4 (ln d2) k4) from fun W m x y h => by
   have q1 := (HQ1.out.keep h).stOther (g := w.heap.size + 2) (by omega) m x y
   have q2 := (HQ2.out.keep h).stOther (g := w.heap.size + 2) (by omega) m x y
   exact ⟨q1.c0, q1.c1, q1.c2, q2.c0, q2.c1, q2.c2⟩)
 have hz := fun W (h : Below w2.heap.size w2 W) => (HQ3.out.keep h).z0
 have HZ := Lib.hid hz
 clear hb1 hB1 hvg1 hb2 hB2 hvg2 hz hD0
 have hD2 := (Below.refl w2.heap.size w2).drew
 go_region_held3 (fun W => W.cell? ⟨w.heap.size, 0, none⟩ = some (.bool m1) ∧ W.cell? ⟨w.heap.size, 1, none⟩ = some (.slice a1 (ln n1) k1) ∧ W.cell? ⟨w.heap.size, 2, none⟩ = some (.slice a2 (ln d1) k2) ∧
   W.cell? ⟨w.heap.size + 1, 0, none⟩ = some (.bool m2) ∧ W.cell? ⟨w.heap.size + 1, 1, none⟩ = some (.slice a3 (ln n2) k3) ∧ W.cell? ⟨w.heap.size + 1, 2, none⟩ = some (.slice a4 (ln d2) k4))
  (first | exact HS.out _ hD2 | exact HS.out _ (by assumption) | exact HT.out _ _ _ _ (by assumption))
  (first
   | (go_at_call_of 99 (Value.slice a1 (ln n1) k1); refine (lift_num (w0 := w2) (by assumption) (over_any (a := n1) (b := Nat.gcd n1 d2) (HX1.out.below (by assumption)) (HVg1.out.below (by assumption)) HL.out.1.1 HL.out.2.1 HP.out.1)).mono ?_; rintro e u1 ⟨vo1, rfl, hvo1, hbo1, hBo1⟩; obtain ⟨ao1, ko1, rfl⟩ := slice_any hvo1)
   | (go_at_call_of 99 (Value.slice a3 (ln n2) k3); refine (lift_num (w0 := w2) (by assumption) (over_any (a := n2) (b := Nat.gcd n2 d1) (HX2.out.below (by assumption)) (HVg2.out.below (by assumption)) HL.out.1.2.2.1 HL.out.2.2 HP.out.2)).mono ?_; rintro e u2 ⟨vo2, rfl, hvo2, hbo2, hBo2⟩; obtain ⟨ao2, ko2, rfl⟩ := slice_any hvo2)
   | (go_at_call_of 99 (Value.slice a2 (ln d1) k2); refine (lift_num (w0 := w2) (by assumption) (over_any (a := d1) (b := Nat.gcd n2 d1) (HY1.out.below (by assumption)) (HVg2.out.below (by assumption)) HL.out.1.2.1 HL.out.2.2 HP.out.2)).mono ?_; rintro e u4 ⟨vo3, rfl, hvo3, hbo3, hBo3⟩; obtain ⟨ao3, ko3, rfl⟩ := slice_any hvo3)
   | (go_at_call_of 99 (Value.slice a4 (ln d2) k4); refine (lift_num (w0 := w2) (by assumption) (over_any (a := d2) (b := Nat.gcd n1 d2) (HY2.out.below (by assumption)) (HVg1.out.below (by assumption)) HL.out.1.2.2.2 HL.out.2.1 HP.out.1)).mono ?_; rintro e u5 ⟨vo4, rfl, hvo4, hbo4, hBo4⟩; obtain ⟨ao4, ko4, rfl⟩ := slice_any hvo4)
   | (go_at_call_of 100 (Value.slice ao1 (ln (n1 / Nat.gcd n1 d2)) ko1); refine (lift_num (w0 := w2) (by assumption) (times_any (a := n1 / Nat.gcd n1 d2) (b := n2 / Nat.gcd n2 d1) (hvo1.below hbo2) hvo2 HR.out.1 HR.out.2.1)).mono ?_; rintro e u3 ⟨vt1, rfl, hvt1, hbt1, hBt1⟩; obtain ⟨at1, kt1, rfl⟩ := slice_any hvt1)
   | (go_at_call_of 100 (Value.slice ao3 (ln (d1 / Nat.gcd n2 d1)) ko3); refine (lift_num (w0 := w2) (by assumption) (times_any (a := d1 / Nat.gcd n2 d1) (b := d2 / Nat.gcd n1 d2) (hvo3.below hbo4) hvo4 HR.out.2.2.1 HR.out.2.2.2)).mono ?_; rintro e u6 ⟨vt2, rfl, hvt2, hbt2, hBt2⟩; obtain ⟨at2, kt2, rfl⟩ := slice_any hvt2)
   | (go_at_call 104; refine (normal_any (m := m1 != m2) (n := n1 / Nat.gcd n1 d2 * (n2 / Nat.gcd n2 d1)) (d := d1 / Nat.gcd n2 d1 * (d2 / Nat.gcd n1 d2)) (((hvt1.below hbo3).below hbo4).below hbt2) hvt2).mono ?_; rintro e u7 ⟨rfl, hbn⟩; have hBn := hBt2.trans (hbn.mono hBt2.size); have i0 := (HQ3.out.keep hBn).c0; have i1 := (HQ3.out.keep hBn).c1; have i2 := (HQ3.out.keep hBn).c2; have j0 := (HQ3.out.keep hBn).z0; have j1 := (HQ3.out.keep hBn).z1; have j2 := (HQ3.out.keep hBn).z2))
 have hq := (HQ3.out.keep hBn).st ((m1 != m2) && !zeroB (n1 / Nat.gcd n1 d2 * (n2 / Nat.gcd n2 d1))) (.slice at1 (ln (n1 / Nat.gcd n1 d2 * (n2 / Nat.gcd n2 d1))) kt1) (.slice at2 (ln (d1 / Nat.gcd n2 d1 * (d2 / Nat.gcd n1 d2))) kt2)
 have hn1 := ((((hvt1.below hbo3).below hbo4).below hbt2).below hbn).st3 i0 ((m1 != m2) && !zeroB (n1 / Nat.gcd n1 d2 * (n2 / Nat.gcd n2 d1))) (.slice at1 (ln (n1 / Nat.gcd n1 d2 * (n2 / Nat.gcd n2 d1))) kt1) (.slice at2 (ln (d1 / Nat.gcd n2 d1 * (d2 / Nat.gcd n1 d2))) kt2)
 have hn2 := (hvt2.below hbn).st3 i0 ((m1 != m2) && !zeroB (n1 / Nat.gcd n1 d2 * (n2 / Nat.gcd n2 d1))) (.slice at1 (ln (n1 / Nat.gcd n1 d2 * (n2 / Nat.gcd n2 d1))) kt1) (.slice at2 (ln (d1 / Nat.gcd n2 d1 * (d2 / Nat.gcd n1 d2))) kt2)
 have hbf := below_st3 (HB.out.trans (hBn.mono HB.out.size)) (show w.heap.size ≤ w.heap.size + 2 by omega) ((m1 != m2) && !zeroB (n1 / Nat.gcd n1 d2 * (n2 / Nat.gcd n2 d1))) (.slice at1 (ln (n1 / Nat.gcd n1 d2 * (n2 / Nat.gcd n2 d1))) kt1) (.slice at2 (ln (d1 / Nat.gcd n2 d1 * (d2 / Nat.gcd n1 d2))) kt2)
 have HF := Lib.hid (And.intro hq (And.intro hn1 (And.intro hn2 hbf)))
 clear hq hn1 hn2 hbf i0 i1 i2 j0 j1 j2 hbn hBn hvt1 hvt2 hvo1 hvo2 hvo3 hvo4 hbo1 hbo2 hbo3 hbo4 hbt1 hbt2 hBo1 hBo2 hBo3 hBo4 hBt1 hBt2 hD2
 go_wp2_with fail
 exact bodyPost_ret (HF.out.1.resultT rfl) rfl ⟨_, rfl, ⟨_, _, rfl, HF.out.2.1, HF.out.2.2.1⟩, HF.out.2.2.2⟩
open Go.RowKit NV
theorem FR.resultP {w : World} {b : Nat} {m : Bool} {n d : Value} {tmps : Array Value} (h : FR w b m n d) (ht : tmps.getD 4 undef = .pointer (some ⟨b, 0, none⟩)) : (results Tryz.f68 tmps).run Tryz.prog w = .ok (.agg #[.bool m, n, d]) w := by
 have hl := h.load
 have ht' : tmps[4]?.getD undef = .pointer (some ⟨b, 0, none⟩) := by rw [← ht]; simp
 simp [results, ht', asAddr, hl]
theorem lift_own {f : Nat} {args : Array Value} {w0 W : World} {n : Nat} (h0 : Below w0.heap.size w0 W) (hc : Calls Tryz.prog f args W fun e w' => ∃ v, e = .returned v ∧ Own w' W.heap.size v n ∧ Below W.heap.size W w') :
  Calls Tryz.prog f args W fun e w' => ∃ v, e = .returned v ∧ Num w' v n ∧ Below W.heap.size W w' ∧ Below w0.heap.size w0 w' :=
 hc.mono fun _ _ ⟨v, h1, h2, h3⟩ => ⟨v, h1, h2.num, h3, h0.trans (h3.mono h0.size)⟩
theorem FR.set1 {w : World} {b : Nat} {m : Bool} {n d : Value} (h : FR w b m n d) (x : Value) : FR (w.setCell ⟨b, 1, none⟩ x) b m x d := heap_setCell_same w b 1 _ _ x h
theorem FR.set0 {w : World} {b : Nat} {m : Bool} {n d : Value} (h : FR w b m n d) (m' : Bool) : FR (w.setCell ⟨b, 0, none⟩ (.bool m')) b m' n d := heap_setCell_same w b 0 _ _ (.bool m') h
theorem FR.set2 {w : World} {b : Nat} {m : Bool} {n d : Value} (h : FR w b m n d) (x : Value) : FR (w.setCell ⟨b, 2, none⟩ x) b m n x := heap_setCell_same w b 2 _ _ x h
theorem FR.setOther {w : World} {b : Nat} {m : Bool} {n d : Value} (h : FR w b m n d) {g : Nat} (hg : b ≠ g) (j : Nat) (x : Value) : FR (w.setCell ⟨g, j, none⟩ x) b m n d := (heap_setCell_other w ⟨g, j, none⟩ b _ hg).trans h
theorem Num.setCell {w : World} {v : Value} {n g : Nat} {m : Bool} (h : Num w v n) (hg : w.cell? ⟨g, 0, none⟩ = some (.bool m)) (j : Nat) (x : Value) : Num (w.setCell ⟨g, j, none⟩ x) v n := by
 obtain ⟨a, c, rfl, h | ⟨b, rfl, h1, h2, h3⟩⟩ := h
 ·exact ⟨a, c, rfl, .inl h⟩
 ·by_cases h0 : 0 < ln n
  ·have hne : b ≠ g := by
    intro e
    have := h3 0 h0
    rw [e, hg] at this
    simp at this
   have hh : (w.setCell ⟨g, j, none⟩ x).heap[b]? = w.heap[b]? := heap_setCell_other w ⟨g, j, none⟩ b _ hne
   refine ⟨_, c, rfl, .inr ⟨b, rfl, by simpa using h1, h2, fun i hi => ?_⟩⟩
   have := h3 i hi
   simp only [World.cell?] at this ⊢
   rw [hh]
   exact this
  ·refine ⟨_, c, rfl, .inr ⟨b, rfl, by simpa using h1, h2, fun i hi => by omega⟩⟩
set_option maxHeartbeats 6400000 in
set_option maxRecDepth 100000 in
theorem fplus_A {w : World} {m1 m2 : Bool} {x1 y1 x2 y2 : Value} {n1 d1 n2 d2 : Nat} (hx1 : Num w x1 n1) (hy1 : Num w y1 d1) (hx2 : Num w x2 n2) (hy2 : Num w y2 d2)
  (l1 : ln n1 ≤ 100000) (l2 : ln d1 ≤ 100000) (l3 : ln n2 ≤ 100000) (l4 : ln d2 ≤ 100000) (g1 : d1 ≠ 0) (hm : m1 = m2) :
  Calls Tryz.prog 68 #[.agg #[.bool m1, x1, y1], .agg #[.bool m2, x2, y2]] w fun e w' => ∃ v, e = .returned v ∧
   FNum w' v (m1 && !zeroB (((n1 * (d2 / Nat.gcd d1 d2)) + (n2 * (d1 / Nat.gcd d1 d2))) / Nat.gcd ((n1 * (d2 / Nat.gcd d1 d2)) + (n2 * (d1 / Nat.gcd d1 d2))) (Nat.gcd d1 d2))) (((n1 * (d2 / Nat.gcd d1 d2)) + (n2 * (d1 / Nat.gcd d1 d2))) / Nat.gcd ((n1 * (d2 / Nat.gcd d1 d2)) + (n2 * (d1 / Nat.gcd d1 d2))) (Nat.gcd d1 d2)) (d1 / Nat.gcd d1 d2 * (d2 / Nat.gcd ((n1 * (d2 / Nat.gcd d1 d2)) + (n2 * (d1 / Nat.gcd d1 d2))) (Nat.gcd d1 d2))) ∧ Below w.heap.size w w' := by
 have p1 : Nat.gcd d1 d2 ≠ 0 := Nat.ne_of_gt (Nat.gcd_pos_of_pos_left _ (Nat.pos_of_ne_zero g1))
 have p2 : Nat.gcd ((n1 * (d2 / Nat.gcd d1 d2)) + (n2 * (d1 / Nat.gcd d1 d2))) (Nat.gcd d1 d2) ≠ 0 := Nat.ne_of_gt (Nat.gcd_pos_of_pos_right _ (Nat.pos_of_ne_zero p1))
 have q1 : ln (Nat.gcd d1 d2) ≤ 100000 := gcd_ln l2 l4
 have r1 : ln (d1 / Nat.gcd d1 d2) ≤ 100000 := ln_div l2
 have r2 : ln (d2 / Nat.gcd d1 d2) ≤ 100000 := ln_div l4
 have r3 : ln (n1 * (d2 / Nat.gcd d1 d2)) ≤ 200000 := ln_mul l1 r2
 have r4 : ln (n2 * (d1 / Nat.gcd d1 d2)) ≤ 200000 := ln_mul l3 r1
 have r5 : ln ((n1 * (d2 / Nat.gcd d1 d2)) + (n2 * (d1 / Nat.gcd d1 d2))) ≤ 200001 := ln_add r3 r4
 have r6 : ln (Nat.gcd ((n1 * (d2 / Nat.gcd d1 d2)) + (n2 * (d1 / Nat.gcd d1 d2))) (Nat.gcd d1 d2)) ≤ 200001 := gcd_ln r5 (by omega)
 have r7 : ln (d2 / Nat.gcd ((n1 * (d2 / Nat.gcd d1 d2)) + (n2 * (d1 / Nat.gcd d1 d2))) (Nat.gcd d1 d2)) ≤ 100000 := ln_div l4
 have HL := Lib.hid (show (ln n1 ≤ 1000000 ∧ ln d1 ≤ 1000000 ∧ ln n2 ≤ 1000000 ∧ ln d2 ≤ 1000000) ∧ ln (Nat.gcd d1 d2) ≤ 1000000 ∧ ln (Nat.gcd ((n1 * (d2 / Nat.gcd d1 d2)) + (n2 * (d1 / Nat.gcd d1 d2))) (Nat.gcd d1 d2)) ≤ 1000000 ∧ ln ((n1 * (d2 / Nat.gcd d1 d2)) + (n2 * (d1 / Nat.gcd d1 d2))) ≤ 1000000 by omega)
 have HR := Lib.hid (show ln (d1 / Nat.gcd d1 d2) ≤ 2000000 ∧ ln (d2 / Nat.gcd d1 d2) ≤ 2000000 ∧ ln n1 ≤ 2000000 ∧ ln n2 ≤ 2000000 ∧ ln (d2 / Nat.gcd ((n1 * (d2 / Nat.gcd d1 d2)) + (n2 * (d1 / Nat.gcd d1 d2))) (Nat.gcd d1 d2)) ≤ 2000000 by omega)
 have HM := Lib.hid (show ln (n1 * (d2 / Nat.gcd d1 d2)) ≤ 1073741824 ∧ ln (n2 * (d1 / Nat.gcd d1 d2)) ≤ 1073741824 by omega)
 have HP := Lib.hid (And.intro p1 p2)
 have hmm : (m1 == m2) = true := by rw [beq_iff_eq]; exact hm
 clear hm
 clear l1 l2 l3 l4 q1 r1 r2 r3 r4 r5 r6 r7 p1 p2 g1
 obtain ⟨a1, k1, rfl⟩ := slice_any hx1
 obtain ⟨a2, k2, rfl⟩ := slice_any hy1
 obtain ⟨a3, k3, rfl⟩ := slice_any hx2
 obtain ⟨a4, k4, rfl⟩ := slice_any hy2
 have HX1 := Lib.hid hx1
 have HY1 := Lib.hid hy1
 have HX2 := Lib.hid hx2
 have HY2 := Lib.hid hy2
 clear hx1 hy1 hx2 hy2
 go_enter Tryz.func68, Tryz.ntmps68
 go_wp2_with fail
 obtain ⟨hb0, hq1, hq2, hq3⟩ := three_new w m1 m2 false (.slice a1 (ln n1) k1) (.slice a2 (ln d1) k2) (.slice a3 (ln n2) k3) (.slice a4 (ln d2) k4) (.slice none 0 0) (.slice none 0 0)
 generalize ((w.alloc (.cells #[.bool m1, .slice a1 (ln n1) k1, .slice a2 (ln d1) k2] 110)).alloc (.cells #[.bool m2, .slice a3 (ln n2) k3, .slice a4 (ln d2) k4] 110)).alloc (.cells #[.bool false, .slice none 0 0, .slice none 0 0] 110) = w0 at hb0 hq1 hq2 hq3 ⊢
 replace HX1 := Lib.hid (HX1.out.below hb0)
 replace HY1 := Lib.hid (HY1.out.below hb0)
 replace HX2 := Lib.hid (HX2.out.below hb0)
 replace HY2 := Lib.hid (HY2.out.below hb0)
 have HB := Lib.hid hb0
 have HQ1 := Lib.hid hq1
 have HQ2 := Lib.hid hq2
 have HQ3 := Lib.hid hq3
 have c12 := hq1.c2
 have c22 := hq2.c2
 clear hb0 hq1 hq2 hq3
 go_wp2_with fail
 refine (gcd_any HY1.out HY2.out HL.out.1.2.1 HL.out.1.2.2.2).mono ?_
 rintro e w1 ⟨vg, rfl, hvg, hBw1⟩
 obtain ⟨ag, kg, rfl⟩ := slice_any hvg
 replace HX1 := Lib.hid (HX1.out.below hBw1)
 replace HY1 := Lib.hid (HY1.out.below hBw1)
 replace HX2 := Lib.hid (HX2.out.below hBw1)
 replace HY2 := Lib.hid (HY2.out.below hBw1)
 replace HQ1 := Lib.hid (HQ1.out.keep hBw1)
 replace HQ2 := Lib.hid (HQ2.out.keep hBw1)
 replace HQ3 := Lib.hid (HQ3.out.keep hBw1)
 replace HB := Lib.hid (HB.out.trans (hBw1.mono HB.out.size))
 have HVg := Lib.hid hvg
 clear c12 c22 hvg hBw1
 have HS_w1 := Lib.hid (show ∀ W, Below w1.heap.size w1 W → W.cell? ⟨w.heap.size, 0, none⟩ = some (.bool m1) ∧ W.cell? ⟨w.heap.size, 1, none⟩ = some (.slice a1 (ln n1) k1) ∧ W.cell? ⟨w.heap.size, 2, none⟩ = some (.slice a2 (ln d1) k2) ∧ W.cell? ⟨w.heap.size + 1, 0, none⟩ = some (.bool m2) ∧ W.cell? ⟨w.heap.size + 1, 1, none⟩ = some (.slice a3 (ln n2) k3) ∧ W.cell? ⟨w.heap.size + 1, 2, none⟩ = some (.slice a4 (ln d2) k4) from fun W h =>
   ⟨(HQ1.out.keep h).c0, (HQ1.out.keep h).c1, (HQ1.out.keep h).c2, (HQ2.out.keep h).c0, (HQ2.out.keep h).c1, (HQ2.out.keep h).c2⟩)
 have hD1 := (Below.refl w1.heap.size w1).drew
 go_wp2_with fail
 go_region_held3 (fun W => W.cell? ⟨w.heap.size, 0, none⟩ = some (.bool m1) ∧ W.cell? ⟨w.heap.size, 1, none⟩ = some (.slice a1 (ln n1) k1) ∧ W.cell? ⟨w.heap.size, 2, none⟩ = some (.slice a2 (ln d1) k2) ∧ W.cell? ⟨w.heap.size + 1, 0, none⟩ = some (.bool m2) ∧ W.cell? ⟨w.heap.size + 1, 1, none⟩ = some (.slice a3 (ln n2) k3) ∧ W.cell? ⟨w.heap.size + 1, 2, none⟩ = some (.slice a4 (ln d2) k4))
  (first | exact HS_w1.out _ hD1 | exact HS_w1.out _ (by assumption))
  (first
   | (go_at_call_of 99 (Value.slice a2 (ln d1) k2); refine (lift_num (w0 := w1) (by assumption) (over_any (a := d1) (b := Nat.gcd d1 d2) (HY1.out.below (by assumption)) (HVg.out.below (by assumption)) HL.out.1.2.1 HL.out.2.1 HP.out.1)).mono ?_; rintro e u1 ⟨vl, rfl, hvl, hbl, hBl⟩; obtain ⟨al, kl, rfl⟩ := slice_any hvl)
   | (go_at_call_of 99 (Value.slice a4 (ln d2) k4); refine (lift_num (w0 := w1) (by assumption) (over_any (a := d2) (b := Nat.gcd d1 d2) (HY2.out.below (by assumption)) (HVg.out.below (by assumption)) HL.out.1.2.2.2 HL.out.2.1 HP.out.1)).mono ?_; rintro e w2 ⟨vr, rfl, hvr, hbr, hBr⟩; obtain ⟨ar, kr, rfl⟩ := slice_any hvr))
 replace HX1 := Lib.hid (HX1.out.below hBr)
 replace HY1 := Lib.hid (HY1.out.below hBr)
 replace HX2 := Lib.hid (HX2.out.below hBr)
 replace HY2 := Lib.hid (HY2.out.below hBr)
 replace HVg := Lib.hid (HVg.out.below hBr)
 replace HQ1 := Lib.hid (HQ1.out.keep hBr)
 replace HQ2 := Lib.hid (HQ2.out.keep hBr)
 replace HQ3 := Lib.hid (HQ3.out.keep hBr)
 replace HB := Lib.hid (HB.out.trans (hBr.mono HB.out.size))
 have HVl := Lib.hid (hvl.below hbr)
 have HVr := Lib.hid hvr
 clear hvl hbl hBl hvr hbr hBr hD1 HS_w1
 have c10 := HQ1.out.c0
 go_wp2_with fail
 have hbs : Below w2.heap.size w2 (w2.alloc (.cells #[.bool m1, .slice none 0 0, .slice none 0 0] 110)) := (Below.refl _ _).alloc (Nat.le_refl _) _
 have hqs := FR.new w2 m1 (.slice none 0 0) (.slice none 0 0)
 have hsz := HB.out.size
 have h3lt := HQ3.out.lt
 obtain ⟨bs, hbse⟩ : ∃ bs, bs = w2.heap.size := ⟨_, rfl⟩
 rw [← hbse] at hqs ⊢
 have hne : w.heap.size + 2 < bs := by omega
 have HBS := Lib.hid (show Below w2.heap.size w2 (w2.alloc (.cells #[.bool m1, .slice none 0 0, .slice none 0 0] 110)) from hbs)
 generalize w2.alloc (.cells #[.bool m1, .slice none 0 0, .slice none 0 0] 110) = w3 at hbs hqs HBS ⊢
 replace HX1 := Lib.hid (HX1.out.below hbs)
 replace HX2 := Lib.hid (HX2.out.below hbs)
 replace HY2 := Lib.hid (HY2.out.below hbs)
 replace HVg := Lib.hid (HVg.out.below hbs)
 replace HVl := Lib.hid (HVl.out.below hbs)
 replace HVr := Lib.hid (HVr.out.below hbs)
 replace HQ1 := Lib.hid (HQ1.out.keep hbs)
 replace HQ2 := Lib.hid (HQ2.out.keep hbs)
 replace HQ3 := Lib.hid (HQ3.out.keep hbs)
 replace HB := Lib.hid (HB.out.trans (hbs.mono HB.out.size))
 have HQS := Lib.hid hqs
 have HNE := Lib.hid (show w.heap.size + 2 < bs ∧ w.heap.size ≤ bs by omega)
 clear c10 hbs hqs hsz h3lt hbse hne HBS HY1
 have HS_w3 := Lib.hid (show ∀ W, Below w3.heap.size w3 W → W.cell? ⟨w.heap.size, 0, none⟩ = some (.bool m1) ∧ W.cell? ⟨w.heap.size, 1, none⟩ = some (.slice a1 (ln n1) k1) ∧ W.cell? ⟨w.heap.size, 2, none⟩ = some (.slice a2 (ln d1) k2) ∧ W.cell? ⟨w.heap.size + 1, 0, none⟩ = some (.bool m2) ∧ W.cell? ⟨w.heap.size + 1, 1, none⟩ = some (.slice a3 (ln n2) k3) ∧ W.cell? ⟨w.heap.size + 1, 2, none⟩ = some (.slice a4 (ln d2) k4) from fun W h =>
   ⟨(HQ1.out.keep h).c0, (HQ1.out.keep h).c1, (HQ1.out.keep h).c2, (HQ2.out.keep h).c0, (HQ2.out.keep h).c1, (HQ2.out.keep h).c2⟩)
 have hD3 := (Below.refl w3.heap.size w3).drew
 go_wp2_with fail
 go_region_held3 (fun W => W.cell? ⟨w.heap.size, 0, none⟩ = some (.bool m1) ∧ W.cell? ⟨w.heap.size, 1, none⟩ = some (.slice a1 (ln n1) k1) ∧ W.cell? ⟨w.heap.size, 2, none⟩ = some (.slice a2 (ln d1) k2) ∧ W.cell? ⟨w.heap.size + 1, 0, none⟩ = some (.bool m2) ∧ W.cell? ⟨w.heap.size + 1, 1, none⟩ = some (.slice a3 (ln n2) k3) ∧ W.cell? ⟨w.heap.size + 1, 2, none⟩ = some (.slice a4 (ln d2) k4))
  (first | exact HS_w3.out _ hD3 | exact HS_w3.out _ (by assumption))
  (first
   | (go_at_call_of 100 (Value.slice a1 (ln n1) k1); refine (lift_num (w0 := w3) (by assumption) (times_any (a := n1) (b := (d2 / Nat.gcd d1 d2)) (HX1.out.below (by assumption)) (HVr.out.below (by assumption)) HR.out.2.2.1 HR.out.2.1)).mono ?_; rintro e u2 ⟨vo, rfl, hvo, hbo, hBo⟩; obtain ⟨ao, ko, rfl⟩ := slice_any hvo)
   | (go_at_call_of 100 (Value.slice a3 (ln n2) k3); refine (lift_num (w0 := w3) (by assumption) (times_any (a := n2) (b := (d1 / Nat.gcd d1 d2)) (HX2.out.below (by assumption)) (HVl.out.below (by assumption)) HR.out.2.2.2.1 HR.out.1)).mono ?_; rintro e w4 ⟨vtt, rfl, hvtt, hbtt, hBtt⟩; obtain ⟨att, ktt, rfl⟩ := slice_any hvtt))
 replace HY2 := Lib.hid (HY2.out.below hBtt)
 replace HVg := Lib.hid (HVg.out.below hBtt)
 replace HVl := Lib.hid (HVl.out.below hBtt)
 replace HQ1 := Lib.hid (HQ1.out.keep hBtt)
 replace HQ2 := Lib.hid (HQ2.out.keep hBtt)
 replace HQ3 := Lib.hid (HQ3.out.keep hBtt)
 replace HQS := Lib.hid (HQS.out.keep hBtt)
 replace HB := Lib.hid (HB.out.trans (hBtt.mono HB.out.size))
 have HVo := Lib.hid (hvo.below hbtt)
 have HVt := Lib.hid hvtt
 clear hvo hbo hBo hvtt hbtt hBtt hD3 HS_w3 HVr HX1 HX2
 have c10 := HQ1.out.c0
 have c20 := HQ2.out.c0
 go_wp2_with fail
 refine (plus_any HVo.out HVt.out HM.out.1 HM.out.2).mono ?_
 rintro e w5 ⟨vs, rfl, hvs0, hBs⟩
 have hvs := hvs0.num
 obtain ⟨asu, ksu, rfl⟩ := slice_any hvs
 clear hvs0
 replace HY2 := Lib.hid (HY2.out.below hBs)
 replace HVg := Lib.hid (HVg.out.below hBs)
 replace HVl := Lib.hid (HVl.out.below hBs)
 replace HQ2 := Lib.hid (HQ2.out.keep hBs)
 replace HQ3 := Lib.hid (HQ3.out.keep hBs)
 replace HQS := Lib.hid (HQS.out.keep hBs)
 replace HB := Lib.hid (HB.out.trans (hBs.mono HB.out.size))
 have HVs := Lib.hid hvs
 have i0 := HQS.out.c0
 have i1 := HQS.out.c1
 have i2 := HQS.out.c2
 have j0 := HQS.out.z0
 have j1 := HQS.out.z1
 have j2 := HQS.out.z2
 clear hvs hBs HVo HVt HQ1 c10 c20
 go_wp2_with fail
 replace HY2 := Lib.hid (HY2.out.setCell i0 1 (.slice asu (ln ((n1 * (d2 / Nat.gcd d1 d2)) + (n2 * (d1 / Nat.gcd d1 d2)))) ksu))
 replace HVg := Lib.hid (HVg.out.setCell i0 1 (.slice asu (ln ((n1 * (d2 / Nat.gcd d1 d2)) + (n2 * (d1 / Nat.gcd d1 d2)))) ksu))
 replace HVl := Lib.hid (HVl.out.setCell i0 1 (.slice asu (ln ((n1 * (d2 / Nat.gcd d1 d2)) + (n2 * (d1 / Nat.gcd d1 d2)))) ksu))
 replace HVs := Lib.hid (HVs.out.setCell i0 1 (.slice asu (ln ((n1 * (d2 / Nat.gcd d1 d2)) + (n2 * (d1 / Nat.gcd d1 d2)))) ksu))
 replace HQ2 := Lib.hid (HQ2.out.setOther (g := bs) (by have := HNE.out; omega) 1 (.slice asu (ln ((n1 * (d2 / Nat.gcd d1 d2)) + (n2 * (d1 / Nat.gcd d1 d2)))) ksu))
 replace HQ3 := Lib.hid (HQ3.out.setOther (g := bs) (by have := HNE.out; omega) 1 (.slice asu (ln ((n1 * (d2 / Nat.gcd d1 d2)) + (n2 * (d1 / Nat.gcd d1 d2)))) ksu))
 replace HQS := Lib.hid (HQS.out.set1 (.slice asu (ln ((n1 * (d2 / Nat.gcd d1 d2)) + (n2 * (d1 / Nat.gcd d1 d2)))) ksu))
 replace HB := Lib.hid (HB.out.setCell (p := ⟨bs, 1, none⟩) HNE.out.2 (.slice asu (ln ((n1 * (d2 / Nat.gcd d1 d2)) + (n2 * (d1 / Nat.gcd d1 d2)))) ksu))
 clear i0 i1 i2 j0 j1 j2
 generalize w5.setCell ⟨bs, 1, none⟩ (.slice asu (ln ((n1 * (d2 / Nat.gcd d1 d2)) + (n2 * (d1 / Nat.gcd d1 d2)))) ksu) = w6 at HY2 HVg HVl HVs HQ2 HQ3 HQS HB ⊢
 refine (gcd_any HVs.out HVg.out HL.out.2.2.2 HL.out.2.1).mono ?_
 rintro e w7 ⟨vrr, rfl, hvrr, hBrr⟩
 obtain ⟨arr, krr, rfl⟩ := slice_any hvrr
 replace HY2 := Lib.hid (HY2.out.below hBrr)
 replace HVl := Lib.hid (HVl.out.below hBrr)
 replace HVs := Lib.hid (HVs.out.below hBrr)
 replace HQ2 := Lib.hid (HQ2.out.keep hBrr)
 replace HQ3 := Lib.hid (HQ3.out.keep hBrr)
 replace HQS := Lib.hid (HQS.out.keep hBrr)
 replace HB := Lib.hid (HB.out.trans (hBrr.mono HB.out.size))
 have HVr := Lib.hid hvrr
 clear hvrr hBrr HVg
 have hk1 : w7.drew.cell? ⟨bs, 1, none⟩ = some (.slice asu (ln ((n1 * (d2 / Nat.gcd d1 d2)) + (n2 * (d1 / Nat.gcd d1 d2)))) ksu) := (HQS.out.keep ((Below.refl w7.heap.size w7).drew)).c1
 have HK := Lib.hid (show ∀ W, Below w7.heap.size w7 W → W.cell? ⟨w.heap.size + 1, 2, none⟩ = some (.slice a4 (ln d2) k4) from fun W h => (HQ2.out.keep h).c2)
 have HK1 := Lib.hid (show ∀ W x, Below w7.heap.size w7 W → (W.setCell ⟨bs, 1, none⟩ x).cell? ⟨w.heap.size + 1, 2, none⟩ = some (.slice a4 (ln d2) k4) from fun W x h => ((HQ2.out.keep h).setOther (g := bs) (by have := HNE.out; omega) 1 x).c2)
 have HK2 := Lib.hid (show ∀ W x y, Below w7.heap.size w7 W → ((W.setCell ⟨bs, 1, none⟩ x).setCell ⟨bs, 2, none⟩ y).cell? ⟨w.heap.size + 1, 2, none⟩ = some (.slice a4 (ln d2) k4) from fun W x y h => (((HQ2.out.keep h).setOther (g := bs) (by have := HNE.out; omega) 1 x).setOther (g := bs) (by have := HNE.out; omega) 2 y).c2)
 have hD7 := (Below.refl w7.heap.size w7).drew
 go_wp2_with fail
 have hk2 := HK.out _ hD7
 go_region_with
  (first
   | (go_at_call_of 99 (Value.slice asu (ln ((n1 * (d2 / Nat.gcd d1 d2)) + (n2 * (d1 / Nat.gcd d1 d2)))) ksu); refine (lift_num (w0 := w7) (by assumption) (over_any (a := ((n1 * (d2 / Nat.gcd d1 d2)) + (n2 * (d1 / Nat.gcd d1 d2)))) (b := Nat.gcd ((n1 * (d2 / Nat.gcd d1 d2)) + (n2 * (d1 / Nat.gcd d1 d2))) (Nat.gcd d1 d2)) (HVs.out.below (by assumption)) (HVr.out.below (by assumption)) HL.out.2.2.2 HL.out.2.2.1 HP.out.2)).mono ?_; rintro e u8 ⟨vp, rfl, hvp, hbp, hBp⟩; obtain ⟨ap, kp, rfl⟩ := slice_any hvp; have hk3 := HK.out _ hBp)
   | (go_at_call_of 99 (Value.slice a4 (ln d2) k4); refine (lift_num (w0 := w7) (by assumption) (over_any (a := d2) (b := Nat.gcd ((n1 * (d2 / Nat.gcd d1 d2)) + (n2 * (d1 / Nat.gcd d1 d2))) (Nat.gcd d1 d2)) (HY2.out.below (by assumption)) (HVr.out.below (by assumption)) HL.out.1.2.2.2 HL.out.2.2.1 HP.out.2)).mono ?_; rintro e u9 ⟨vq, rfl, hvq, hbq, hBq⟩; obtain ⟨aq, kq, rfl⟩ := slice_any hvq)
   | (go_at_call_of 100 (Value.slice al (ln (d1 / Nat.gcd d1 d2)) kl); refine (lift_num (w0 := w7) (by assumption) (times_any (a := (d1 / Nat.gcd d1 d2)) (b := d2 / Nat.gcd ((n1 * (d2 / Nat.gcd d1 d2)) + (n2 * (d1 / Nat.gcd d1 d2))) (Nat.gcd d1 d2)) (HVl.out.below (by assumption)) hvq HR.out.1 HR.out.2.2.2.2)).mono ?_; rintro e u10 ⟨vz, rfl, hvz, hbz, hBz⟩; obtain ⟨az, kz, rfl⟩ := slice_any hvz; have i0 := (HQS.out.keep hBz).c0; have i1 := (HQS.out.keep hBz).c1; have i2 := (HQS.out.keep hBz).c2; have j0 := (HQS.out.keep hBz).z0; have j1 := (HQS.out.keep hBz).z1; have j2 := (HQS.out.keep hBz).z2))
 all_goals (
  have hqs := (HQS.out.keep hBz).set1 (.slice ap (ln (((n1 * (d2 / Nat.gcd d1 d2)) + (n2 * (d1 / Nat.gcd d1 d2))) / Nat.gcd ((n1 * (d2 / Nat.gcd d1 d2)) + (n2 * (d1 / Nat.gcd d1 d2))) (Nat.gcd d1 d2))) kp)
  have hnp := (((hvp.below hbq).below hbz).setCell i0 1 (.slice ap (ln (((n1 * (d2 / Nat.gcd d1 d2)) + (n2 * (d1 / Nat.gcd d1 d2))) / Nat.gcd ((n1 * (d2 / Nat.gcd d1 d2)) + (n2 * (d1 / Nat.gcd d1 d2))) (Nat.gcd d1 d2))) kp)).setCell hqs.c0 2 (.slice az (ln (d1 / Nat.gcd d1 d2 * (d2 / Nat.gcd ((n1 * (d2 / Nat.gcd d1 d2)) + (n2 * (d1 / Nat.gcd d1 d2))) (Nat.gcd d1 d2)))) kz)
  have hnz := (hvz.setCell i0 1 (.slice ap (ln (((n1 * (d2 / Nat.gcd d1 d2)) + (n2 * (d1 / Nat.gcd d1 d2))) / Nat.gcd ((n1 * (d2 / Nat.gcd d1 d2)) + (n2 * (d1 / Nat.gcd d1 d2))) (Nat.gcd d1 d2))) kp)).setCell hqs.c0 2 (.slice az (ln (d1 / Nat.gcd d1 d2 * (d2 / Nat.gcd ((n1 * (d2 / Nat.gcd d1 d2)) + (n2 * (d1 / Nat.gcd d1 d2))) (Nat.gcd d1 d2)))) kz)
  have hq3 := ((HQ3.out.keep hBz).setOther (g := bs) (by have := HNE.out; omega) 1 (.slice ap (ln (((n1 * (d2 / Nat.gcd d1 d2)) + (n2 * (d1 / Nat.gcd d1 d2))) / Nat.gcd ((n1 * (d2 / Nat.gcd d1 d2)) + (n2 * (d1 / Nat.gcd d1 d2))) (Nat.gcd d1 d2))) kp)).setOther (g := bs) (by have := HNE.out; omega) 2 (.slice az (ln (d1 / Nat.gcd d1 d2 * (d2 / Nat.gcd ((n1 * (d2 / Nat.gcd d1 d2)) + (n2 * (d1 / Nat.gcd d1 d2))) (Nat.gcd d1 d2)))) kz)
  have hqf := hqs.set2 (.slice az (ln (d1 / Nat.gcd d1 d2 * (d2 / Nat.gcd ((n1 * (d2 / Nat.gcd d1 d2)) + (n2 * (d1 / Nat.gcd d1 d2))) (Nat.gcd d1 d2)))) kz)
  replace HB := Lib.hid (((HB.out.trans (hBz.mono HB.out.size)).setCell (p := ⟨bs, 1, none⟩) HNE.out.2 (.slice ap (ln (((n1 * (d2 / Nat.gcd d1 d2)) + (n2 * (d1 / Nat.gcd d1 d2))) / Nat.gcd ((n1 * (d2 / Nat.gcd d1 d2)) + (n2 * (d1 / Nat.gcd d1 d2))) (Nat.gcd d1 d2))) kp)).setCell (p := ⟨bs, 2, none⟩) HNE.out.2 (.slice az (ln (d1 / Nat.gcd d1 d2 * (d2 / Nat.gcd ((n1 * (d2 / Nat.gcd d1 d2)) + (n2 * (d1 / Nat.gcd d1 d2))) (Nat.gcd d1 d2)))) kz))
  generalize (u10.setCell ⟨bs, 1, none⟩ (.slice ap (ln (((n1 * (d2 / Nat.gcd d1 d2)) + (n2 * (d1 / Nat.gcd d1 d2))) / Nat.gcd ((n1 * (d2 / Nat.gcd d1 d2)) + (n2 * (d1 / Nat.gcd d1 d2))) (Nat.gcd d1 d2))) kp)).setCell ⟨bs, 2, none⟩ (.slice az (ln (d1 / Nat.gcd d1 d2 * (d2 / Nat.gcd ((n1 * (d2 / Nat.gcd d1 d2)) + (n2 * (d1 / Nat.gcd d1 d2))) (Nat.gcd d1 d2)))) kz) = w11 at hnp hnz hq3 hqf HB ⊢
  have HNP := Lib.hid hnp
  have HNZ := Lib.hid hnz
  replace HQ3 := Lib.hid hq3
  have c0 := hqf.c0
  have c1 := hqf.c1
  have c2 := hqf.c2
  clear hqs hnp hnz hq3 hqf i0 i1 i2 j0 j1 j2 hvp hbp hBp hvq hbq hBq hvz hbz hBz hk1 hk2 hk3 HK HK1 HK2 hD7 HVr HVs HVl HY2 HQS HQ2
  go_wp2_with fail
  refine (normal_any (m := m1) (n := (((n1 * (d2 / Nat.gcd d1 d2)) + (n2 * (d1 / Nat.gcd d1 d2))) / Nat.gcd ((n1 * (d2 / Nat.gcd d1 d2)) + (n2 * (d1 / Nat.gcd d1 d2))) (Nat.gcd d1 d2))) (d := (d1 / Nat.gcd d1 d2 * (d2 / Nat.gcd ((n1 * (d2 / Nat.gcd d1 d2)) + (n2 * (d1 / Nat.gcd d1 d2))) (Nat.gcd d1 d2)))) HNP.out HNZ.out).mono ?_
  rintro e w12 ⟨rfl, hBn⟩
  have i0 := (HQ3.out.keep hBn).c0
  have i1 := (HQ3.out.keep hBn).c1
  have i2 := (HQ3.out.keep hBn).c2
  have j0 := (HQ3.out.keep hBn).z0
  have j1 := (HQ3.out.keep hBn).z1
  have j2 := (HQ3.out.keep hBn).z2
  have hq := (HQ3.out.keep hBn).st (m1 && !zeroB (((n1 * (d2 / Nat.gcd d1 d2)) + (n2 * (d1 / Nat.gcd d1 d2))) / Nat.gcd ((n1 * (d2 / Nat.gcd d1 d2)) + (n2 * (d1 / Nat.gcd d1 d2))) (Nat.gcd d1 d2))) (.slice ap (ln (((n1 * (d2 / Nat.gcd d1 d2)) + (n2 * (d1 / Nat.gcd d1 d2))) / Nat.gcd ((n1 * (d2 / Nat.gcd d1 d2)) + (n2 * (d1 / Nat.gcd d1 d2))) (Nat.gcd d1 d2))) kp) (.slice az (ln (d1 / Nat.gcd d1 d2 * (d2 / Nat.gcd ((n1 * (d2 / Nat.gcd d1 d2)) + (n2 * (d1 / Nat.gcd d1 d2))) (Nat.gcd d1 d2)))) kz)
  have hn1 := (HNP.out.below hBn).st3 i0 (m1 && !zeroB (((n1 * (d2 / Nat.gcd d1 d2)) + (n2 * (d1 / Nat.gcd d1 d2))) / Nat.gcd ((n1 * (d2 / Nat.gcd d1 d2)) + (n2 * (d1 / Nat.gcd d1 d2))) (Nat.gcd d1 d2))) (.slice ap (ln (((n1 * (d2 / Nat.gcd d1 d2)) + (n2 * (d1 / Nat.gcd d1 d2))) / Nat.gcd ((n1 * (d2 / Nat.gcd d1 d2)) + (n2 * (d1 / Nat.gcd d1 d2))) (Nat.gcd d1 d2))) kp) (.slice az (ln (d1 / Nat.gcd d1 d2 * (d2 / Nat.gcd ((n1 * (d2 / Nat.gcd d1 d2)) + (n2 * (d1 / Nat.gcd d1 d2))) (Nat.gcd d1 d2)))) kz)
  have hn2 := (HNZ.out.below hBn).st3 i0 (m1 && !zeroB (((n1 * (d2 / Nat.gcd d1 d2)) + (n2 * (d1 / Nat.gcd d1 d2))) / Nat.gcd ((n1 * (d2 / Nat.gcd d1 d2)) + (n2 * (d1 / Nat.gcd d1 d2))) (Nat.gcd d1 d2))) (.slice ap (ln (((n1 * (d2 / Nat.gcd d1 d2)) + (n2 * (d1 / Nat.gcd d1 d2))) / Nat.gcd ((n1 * (d2 / Nat.gcd d1 d2)) + (n2 * (d1 / Nat.gcd d1 d2))) (Nat.gcd d1 d2))) kp) (.slice az (ln (d1 / Nat.gcd d1 d2 * (d2 / Nat.gcd ((n1 * (d2 / Nat.gcd d1 d2)) + (n2 * (d1 / Nat.gcd d1 d2))) (Nat.gcd d1 d2)))) kz)
  have hbf := below_st3 (HB.out.trans (hBn.mono HB.out.size)) (show w.heap.size ≤ w.heap.size + 2 by omega) (m1 && !zeroB (((n1 * (d2 / Nat.gcd d1 d2)) + (n2 * (d1 / Nat.gcd d1 d2))) / Nat.gcd ((n1 * (d2 / Nat.gcd d1 d2)) + (n2 * (d1 / Nat.gcd d1 d2))) (Nat.gcd d1 d2))) (.slice ap (ln (((n1 * (d2 / Nat.gcd d1 d2)) + (n2 * (d1 / Nat.gcd d1 d2))) / Nat.gcd ((n1 * (d2 / Nat.gcd d1 d2)) + (n2 * (d1 / Nat.gcd d1 d2))) (Nat.gcd d1 d2))) kp) (.slice az (ln (d1 / Nat.gcd d1 d2 * (d2 / Nat.gcd ((n1 * (d2 / Nat.gcd d1 d2)) + (n2 * (d1 / Nat.gcd d1 d2))) (Nat.gcd d1 d2)))) kz)
  have HF := Lib.hid (And.intro hq (And.intro hn1 (And.intro hn2 hbf)))
  clear hq hn1 hn2 hbf hBn c0 c1 c2
  go_wp2_with fail
  exact bodyPost_ret (HF.out.1.resultP rfl) rfl ⟨_, rfl, ⟨_, _, rfl, HF.out.2.1, HF.out.2.2.1⟩, HF.out.2.2.2⟩)
open Go.RowKit NV
set_option maxHeartbeats 6400000 in
set_option maxRecDepth 100000 in
theorem fplus_B {w : World} {m1 m2 : Bool} {x1 y1 x2 y2 : Value} {n1 d1 n2 d2 : Nat} (hx1 : Num w x1 n1) (hy1 : Num w y1 d1) (hx2 : Num w x2 n2) (hy2 : Num w y2 d2)
  (l1 : ln n1 ≤ 100000) (l2 : ln d1 ≤ 100000) (l3 : ln n2 ≤ 100000) (l4 : ln d2 ≤ 100000) (g1 : d1 ≠ 0) (hm : m1 ≠ m2) (hc : (n2 * (d1 / Nat.gcd d1 d2)) ≤ (n1 * (d2 / Nat.gcd d1 d2))) :
  Calls Tryz.prog 68 #[.agg #[.bool m1, x1, y1], .agg #[.bool m2, x2, y2]] w fun e w' => ∃ v, e = .returned v ∧
   FNum w' v (m1 && !zeroB (((n1 * (d2 / Nat.gcd d1 d2)) - (n2 * (d1 / Nat.gcd d1 d2))) / Nat.gcd ((n1 * (d2 / Nat.gcd d1 d2)) - (n2 * (d1 / Nat.gcd d1 d2))) (Nat.gcd d1 d2))) (((n1 * (d2 / Nat.gcd d1 d2)) - (n2 * (d1 / Nat.gcd d1 d2))) / Nat.gcd ((n1 * (d2 / Nat.gcd d1 d2)) - (n2 * (d1 / Nat.gcd d1 d2))) (Nat.gcd d1 d2)) (d1 / Nat.gcd d1 d2 * (d2 / Nat.gcd ((n1 * (d2 / Nat.gcd d1 d2)) - (n2 * (d1 / Nat.gcd d1 d2))) (Nat.gcd d1 d2))) ∧ Below w.heap.size w w' := by
 have p1 : Nat.gcd d1 d2 ≠ 0 := Nat.ne_of_gt (Nat.gcd_pos_of_pos_left _ (Nat.pos_of_ne_zero g1))
 have p2 : Nat.gcd ((n1 * (d2 / Nat.gcd d1 d2)) - (n2 * (d1 / Nat.gcd d1 d2))) (Nat.gcd d1 d2) ≠ 0 := Nat.ne_of_gt (Nat.gcd_pos_of_pos_right _ (Nat.pos_of_ne_zero p1))
 have q1 : ln (Nat.gcd d1 d2) ≤ 100000 := gcd_ln l2 l4
 have r1 : ln (d1 / Nat.gcd d1 d2) ≤ 100000 := ln_div l2
 have r2 : ln (d2 / Nat.gcd d1 d2) ≤ 100000 := ln_div l4
 have r3 : ln (n1 * (d2 / Nat.gcd d1 d2)) ≤ 200000 := ln_mul l1 r2
 have r4 : ln (n2 * (d1 / Nat.gcd d1 d2)) ≤ 200000 := ln_mul l3 r1
 have r5 : ln ((n1 * (d2 / Nat.gcd d1 d2)) - (n2 * (d1 / Nat.gcd d1 d2))) ≤ 200001 := Nat.le_trans (ln_sub r3) (by omega)
 have r6 : ln (Nat.gcd ((n1 * (d2 / Nat.gcd d1 d2)) - (n2 * (d1 / Nat.gcd d1 d2))) (Nat.gcd d1 d2)) ≤ 200001 := gcd_ln r5 (by omega)
 have r7 : ln (d2 / Nat.gcd ((n1 * (d2 / Nat.gcd d1 d2)) - (n2 * (d1 / Nat.gcd d1 d2))) (Nat.gcd d1 d2)) ≤ 100000 := ln_div l4
 have HL := Lib.hid (show (ln n1 ≤ 1000000 ∧ ln d1 ≤ 1000000 ∧ ln n2 ≤ 1000000 ∧ ln d2 ≤ 1000000) ∧ ln (Nat.gcd d1 d2) ≤ 1000000 ∧ ln (Nat.gcd ((n1 * (d2 / Nat.gcd d1 d2)) - (n2 * (d1 / Nat.gcd d1 d2))) (Nat.gcd d1 d2)) ≤ 1000000 ∧ ln ((n1 * (d2 / Nat.gcd d1 d2)) - (n2 * (d1 / Nat.gcd d1 d2))) ≤ 1000000 by omega)
 have HR := Lib.hid (show ln (d1 / Nat.gcd d1 d2) ≤ 2000000 ∧ ln (d2 / Nat.gcd d1 d2) ≤ 2000000 ∧ ln n1 ≤ 2000000 ∧ ln n2 ≤ 2000000 ∧ ln (d2 / Nat.gcd ((n1 * (d2 / Nat.gcd d1 d2)) - (n2 * (d1 / Nat.gcd d1 d2))) (Nat.gcd d1 d2)) ≤ 2000000 by omega)
 have HM := Lib.hid (show ln (n1 * (d2 / Nat.gcd d1 d2)) ≤ 1073741824 ∧ ln (n2 * (d1 / Nat.gcd d1 d2)) ≤ 1073741824 by omega)
 have HP := Lib.hid (And.intro p1 p2)
 have hmm : (m1 == m2) = false := by rw [beq_eq_false_iff_ne]; exact hm
 have HC := Lib.hid hc
 have hcc : (0 : Int) ≤ cmpN (n1 * (d2 / Nat.gcd d1 d2)) (n2 * (d1 / Nat.gcd d1 d2)) := cmpN_high hc
 clear hm hc
 clear l1 l2 l3 l4 q1 r1 r2 r3 r4 r5 r6 r7 p1 p2 g1
 obtain ⟨a1, k1, rfl⟩ := slice_any hx1
 obtain ⟨a2, k2, rfl⟩ := slice_any hy1
 obtain ⟨a3, k3, rfl⟩ := slice_any hx2
 obtain ⟨a4, k4, rfl⟩ := slice_any hy2
 have HX1 := Lib.hid hx1
 have HY1 := Lib.hid hy1
 have HX2 := Lib.hid hx2
 have HY2 := Lib.hid hy2
 clear hx1 hy1 hx2 hy2
 go_enter Tryz.func68, Tryz.ntmps68
 go_wp2_with fail
 obtain ⟨hb0, hq1, hq2, hq3⟩ := three_new w m1 m2 false (.slice a1 (ln n1) k1) (.slice a2 (ln d1) k2) (.slice a3 (ln n2) k3) (.slice a4 (ln d2) k4) (.slice none 0 0) (.slice none 0 0)
 generalize ((w.alloc (.cells #[.bool m1, .slice a1 (ln n1) k1, .slice a2 (ln d1) k2] 110)).alloc (.cells #[.bool m2, .slice a3 (ln n2) k3, .slice a4 (ln d2) k4] 110)).alloc (.cells #[.bool false, .slice none 0 0, .slice none 0 0] 110) = w0 at hb0 hq1 hq2 hq3 ⊢
 replace HX1 := Lib.hid (HX1.out.below hb0)
 replace HY1 := Lib.hid (HY1.out.below hb0)
 replace HX2 := Lib.hid (HX2.out.below hb0)
 replace HY2 := Lib.hid (HY2.out.below hb0)
 have HB := Lib.hid hb0
 have HQ1 := Lib.hid hq1
 have HQ2 := Lib.hid hq2
 have HQ3 := Lib.hid hq3
 have c12 := hq1.c2
 have c22 := hq2.c2
 clear hb0 hq1 hq2 hq3
 go_wp2_with fail
 refine (gcd_any HY1.out HY2.out HL.out.1.2.1 HL.out.1.2.2.2).mono ?_
 rintro e w1 ⟨vg, rfl, hvg, hBw1⟩
 obtain ⟨ag, kg, rfl⟩ := slice_any hvg
 replace HX1 := Lib.hid (HX1.out.below hBw1)
 replace HY1 := Lib.hid (HY1.out.below hBw1)
 replace HX2 := Lib.hid (HX2.out.below hBw1)
 replace HY2 := Lib.hid (HY2.out.below hBw1)
 replace HQ1 := Lib.hid (HQ1.out.keep hBw1)
 replace HQ2 := Lib.hid (HQ2.out.keep hBw1)
 replace HQ3 := Lib.hid (HQ3.out.keep hBw1)
 replace HB := Lib.hid (HB.out.trans (hBw1.mono HB.out.size))
 have HVg := Lib.hid hvg
 clear c12 c22 hvg hBw1
 have HS_w1 := Lib.hid (show ∀ W, Below w1.heap.size w1 W → W.cell? ⟨w.heap.size, 0, none⟩ = some (.bool m1) ∧ W.cell? ⟨w.heap.size, 1, none⟩ = some (.slice a1 (ln n1) k1) ∧ W.cell? ⟨w.heap.size, 2, none⟩ = some (.slice a2 (ln d1) k2) ∧ W.cell? ⟨w.heap.size + 1, 0, none⟩ = some (.bool m2) ∧ W.cell? ⟨w.heap.size + 1, 1, none⟩ = some (.slice a3 (ln n2) k3) ∧ W.cell? ⟨w.heap.size + 1, 2, none⟩ = some (.slice a4 (ln d2) k4) from fun W h =>
   ⟨(HQ1.out.keep h).c0, (HQ1.out.keep h).c1, (HQ1.out.keep h).c2, (HQ2.out.keep h).c0, (HQ2.out.keep h).c1, (HQ2.out.keep h).c2⟩)
 have hD1 := (Below.refl w1.heap.size w1).drew
 go_wp2_with fail
 go_region_held3 (fun W => W.cell? ⟨w.heap.size, 0, none⟩ = some (.bool m1) ∧ W.cell? ⟨w.heap.size, 1, none⟩ = some (.slice a1 (ln n1) k1) ∧ W.cell? ⟨w.heap.size, 2, none⟩ = some (.slice a2 (ln d1) k2) ∧ W.cell? ⟨w.heap.size + 1, 0, none⟩ = some (.bool m2) ∧ W.cell? ⟨w.heap.size + 1, 1, none⟩ = some (.slice a3 (ln n2) k3) ∧ W.cell? ⟨w.heap.size + 1, 2, none⟩ = some (.slice a4 (ln d2) k4))
  (first | exact HS_w1.out _ hD1 | exact HS_w1.out _ (by assumption))
  (first
   | (go_at_call_of 99 (Value.slice a2 (ln d1) k2); refine (lift_num (w0 := w1) (by assumption) (over_any (a := d1) (b := Nat.gcd d1 d2) (HY1.out.below (by assumption)) (HVg.out.below (by assumption)) HL.out.1.2.1 HL.out.2.1 HP.out.1)).mono ?_; rintro e u1 ⟨vl, rfl, hvl, hbl, hBl⟩; obtain ⟨al, kl, rfl⟩ := slice_any hvl)
   | (go_at_call_of 99 (Value.slice a4 (ln d2) k4); refine (lift_num (w0 := w1) (by assumption) (over_any (a := d2) (b := Nat.gcd d1 d2) (HY2.out.below (by assumption)) (HVg.out.below (by assumption)) HL.out.1.2.2.2 HL.out.2.1 HP.out.1)).mono ?_; rintro e w2 ⟨vr, rfl, hvr, hbr, hBr⟩; obtain ⟨ar, kr, rfl⟩ := slice_any hvr))
 replace HX1 := Lib.hid (HX1.out.below hBr)
 replace HY1 := Lib.hid (HY1.out.below hBr)
 replace HX2 := Lib.hid (HX2.out.below hBr)
 replace HY2 := Lib.hid (HY2.out.below hBr)
 replace HVg := Lib.hid (HVg.out.below hBr)
 replace HQ1 := Lib.hid (HQ1.out.keep hBr)
 replace HQ2 := Lib.hid (HQ2.out.keep hBr)
 replace HQ3 := Lib.hid (HQ3.out.keep hBr)
 replace HB := Lib.hid (HB.out.trans (hBr.mono HB.out.size))
 have HVl := Lib.hid (hvl.below hbr)
 have HVr := Lib.hid hvr
 clear hvl hbl hBl hvr hbr hBr hD1 HS_w1
 have c10 := HQ1.out.c0
 go_wp2_with fail
 have hbs : Below w2.heap.size w2 (w2.alloc (.cells #[.bool m1, .slice none 0 0, .slice none 0 0] 110)) := (Below.refl _ _).alloc (Nat.le_refl _) _
 have hqs := FR.new w2 m1 (.slice none 0 0) (.slice none 0 0)
 have hsz := HB.out.size
 have h3lt := HQ3.out.lt
 obtain ⟨bs, hbse⟩ : ∃ bs, bs = w2.heap.size := ⟨_, rfl⟩
 rw [← hbse] at hqs ⊢
 have hne : w.heap.size + 2 < bs := by omega
 have HBS := Lib.hid (show Below w2.heap.size w2 (w2.alloc (.cells #[.bool m1, .slice none 0 0, .slice none 0 0] 110)) from hbs)
 generalize w2.alloc (.cells #[.bool m1, .slice none 0 0, .slice none 0 0] 110) = w3 at hbs hqs HBS ⊢
 replace HX1 := Lib.hid (HX1.out.below hbs)
 replace HX2 := Lib.hid (HX2.out.below hbs)
 replace HY2 := Lib.hid (HY2.out.below hbs)
 replace HVg := Lib.hid (HVg.out.below hbs)
 replace HVl := Lib.hid (HVl.out.below hbs)
 replace HVr := Lib.hid (HVr.out.below hbs)
 replace HQ1 := Lib.hid (HQ1.out.keep hbs)
 replace HQ2 := Lib.hid (HQ2.out.keep hbs)
 replace HQ3 := Lib.hid (HQ3.out.keep hbs)
 replace HB := Lib.hid (HB.out.trans (hbs.mono HB.out.size))
 have HQS := Lib.hid hqs
 have HNE := Lib.hid (show w.heap.size + 2 < bs ∧ w.heap.size ≤ bs by omega)
 clear c10 hbs hqs hsz h3lt hbse hne HBS HY1
 have HS_w3 := Lib.hid (show ∀ W, Below w3.heap.size w3 W → W.cell? ⟨w.heap.size, 0, none⟩ = some (.bool m1) ∧ W.cell? ⟨w.heap.size, 1, none⟩ = some (.slice a1 (ln n1) k1) ∧ W.cell? ⟨w.heap.size, 2, none⟩ = some (.slice a2 (ln d1) k2) ∧ W.cell? ⟨w.heap.size + 1, 0, none⟩ = some (.bool m2) ∧ W.cell? ⟨w.heap.size + 1, 1, none⟩ = some (.slice a3 (ln n2) k3) ∧ W.cell? ⟨w.heap.size + 1, 2, none⟩ = some (.slice a4 (ln d2) k4) from fun W h =>
   ⟨(HQ1.out.keep h).c0, (HQ1.out.keep h).c1, (HQ1.out.keep h).c2, (HQ2.out.keep h).c0, (HQ2.out.keep h).c1, (HQ2.out.keep h).c2⟩)
 have hD3 := (Below.refl w3.heap.size w3).drew
 go_wp2_with fail
 go_region_held3 (fun W => W.cell? ⟨w.heap.size, 0, none⟩ = some (.bool m1) ∧ W.cell? ⟨w.heap.size, 1, none⟩ = some (.slice a1 (ln n1) k1) ∧ W.cell? ⟨w.heap.size, 2, none⟩ = some (.slice a2 (ln d1) k2) ∧ W.cell? ⟨w.heap.size + 1, 0, none⟩ = some (.bool m2) ∧ W.cell? ⟨w.heap.size + 1, 1, none⟩ = some (.slice a3 (ln n2) k3) ∧ W.cell? ⟨w.heap.size + 1, 2, none⟩ = some (.slice a4 (ln d2) k4))
  (first | exact HS_w3.out _ hD3 | exact HS_w3.out _ (by assumption))
  (first
   | (go_at_call_of 100 (Value.slice a1 (ln n1) k1); refine (lift_num (w0 := w3) (by assumption) (times_any (a := n1) (b := (d2 / Nat.gcd d1 d2)) (HX1.out.below (by assumption)) (HVr.out.below (by assumption)) HR.out.2.2.1 HR.out.2.1)).mono ?_; rintro e u2 ⟨vo, rfl, hvo, hbo, hBo⟩; obtain ⟨ao, ko, rfl⟩ := slice_any hvo)
   | (go_at_call_of 100 (Value.slice a3 (ln n2) k3); refine (lift_num (w0 := w3) (by assumption) (times_any (a := n2) (b := (d1 / Nat.gcd d1 d2)) (HX2.out.below (by assumption)) (HVl.out.below (by assumption)) HR.out.2.2.2.1 HR.out.1)).mono ?_; rintro e w4 ⟨vtt, rfl, hvtt, hbtt, hBtt⟩; obtain ⟨att, ktt, rfl⟩ := slice_any hvtt))
 replace HY2 := Lib.hid (HY2.out.below hBtt)
 replace HVg := Lib.hid (HVg.out.below hBtt)
 replace HVl := Lib.hid (HVl.out.below hBtt)
 replace HQ1 := Lib.hid (HQ1.out.keep hBtt)
 replace HQ2 := Lib.hid (HQ2.out.keep hBtt)
 replace HQ3 := Lib.hid (HQ3.out.keep hBtt)
 replace HQS := Lib.hid (HQS.out.keep hBtt)
 replace HB := Lib.hid (HB.out.trans (hBtt.mono HB.out.size))
 have HVo := Lib.hid (hvo.below hbtt)
 have HVt := Lib.hid hvtt
 clear hvo hbo hBo hvtt hbtt hBtt hD3 HS_w3 HVr HX1 HX2
 have c10 := HQ1.out.c0
 have c20 := HQ2.out.c0
 go_wp2_with fail
 refine (ncmp_any HVo.out HVt.out HM.out.1 HM.out.2).mono ?_
 rintro e w4 ⟨rfl, hBcm⟩
 replace HY2 := Lib.hid (HY2.out.below hBcm)
 replace HVg := Lib.hid (HVg.out.below hBcm)
 replace HVl := Lib.hid (HVl.out.below hBcm)
 replace HVo := Lib.hid (HVo.out.below hBcm)
 replace HVt := Lib.hid (HVt.out.below hBcm)
 replace HQ1 := Lib.hid (HQ1.out.keep hBcm)
 replace HQ2 := Lib.hid (HQ2.out.keep hBcm)
 replace HQ3 := Lib.hid (HQ3.out.keep hBcm)
 replace HQS := Lib.hid (HQS.out.keep hBcm)
 replace HB := Lib.hid (HB.out.trans (hBcm.mono HB.out.size))
 clear hBcm
 go_wp2_with fail
 refine (minus_any HVo.out HVt.out HM.out.1 HC.out).mono ?_
 rintro e w5 ⟨vs, rfl, hvs0, hBs⟩
 have hvs := hvs0.num
 obtain ⟨asu, ksu, rfl⟩ := slice_any hvs
 clear hvs0
 replace HY2 := Lib.hid (HY2.out.below hBs)
 replace HVg := Lib.hid (HVg.out.below hBs)
 replace HVl := Lib.hid (HVl.out.below hBs)
 replace HQ2 := Lib.hid (HQ2.out.keep hBs)
 replace HQ3 := Lib.hid (HQ3.out.keep hBs)
 replace HQS := Lib.hid (HQS.out.keep hBs)
 replace HB := Lib.hid (HB.out.trans (hBs.mono HB.out.size))
 have HVs := Lib.hid hvs
 have i0 := HQS.out.c0
 have i1 := HQS.out.c1
 have i2 := HQS.out.c2
 have j0 := HQS.out.z0
 have j1 := HQS.out.z1
 have j2 := HQS.out.z2
 clear hvs hBs HVo HVt HQ1 c10 c20
 go_wp2_with fail
 replace HY2 := Lib.hid (HY2.out.setCell i0 1 (.slice asu (ln ((n1 * (d2 / Nat.gcd d1 d2)) - (n2 * (d1 / Nat.gcd d1 d2)))) ksu))
 replace HVg := Lib.hid (HVg.out.setCell i0 1 (.slice asu (ln ((n1 * (d2 / Nat.gcd d1 d2)) - (n2 * (d1 / Nat.gcd d1 d2)))) ksu))
 replace HVl := Lib.hid (HVl.out.setCell i0 1 (.slice asu (ln ((n1 * (d2 / Nat.gcd d1 d2)) - (n2 * (d1 / Nat.gcd d1 d2)))) ksu))
 replace HVs := Lib.hid (HVs.out.setCell i0 1 (.slice asu (ln ((n1 * (d2 / Nat.gcd d1 d2)) - (n2 * (d1 / Nat.gcd d1 d2)))) ksu))
 replace HQ2 := Lib.hid (HQ2.out.setOther (g := bs) (by have := HNE.out; omega) 1 (.slice asu (ln ((n1 * (d2 / Nat.gcd d1 d2)) - (n2 * (d1 / Nat.gcd d1 d2)))) ksu))
 replace HQ3 := Lib.hid (HQ3.out.setOther (g := bs) (by have := HNE.out; omega) 1 (.slice asu (ln ((n1 * (d2 / Nat.gcd d1 d2)) - (n2 * (d1 / Nat.gcd d1 d2)))) ksu))
 replace HQS := Lib.hid (HQS.out.set1 (.slice asu (ln ((n1 * (d2 / Nat.gcd d1 d2)) - (n2 * (d1 / Nat.gcd d1 d2)))) ksu))
 replace HB := Lib.hid (HB.out.setCell (p := ⟨bs, 1, none⟩) HNE.out.2 (.slice asu (ln ((n1 * (d2 / Nat.gcd d1 d2)) - (n2 * (d1 / Nat.gcd d1 d2)))) ksu))
 clear i0 i1 i2 j0 j1 j2
 generalize w5.setCell ⟨bs, 1, none⟩ (.slice asu (ln ((n1 * (d2 / Nat.gcd d1 d2)) - (n2 * (d1 / Nat.gcd d1 d2)))) ksu) = w6 at HY2 HVg HVl HVs HQ2 HQ3 HQS HB ⊢
 refine (gcd_any HVs.out HVg.out HL.out.2.2.2 HL.out.2.1).mono ?_
 rintro e w7 ⟨vrr, rfl, hvrr, hBrr⟩
 obtain ⟨arr, krr, rfl⟩ := slice_any hvrr
 replace HY2 := Lib.hid (HY2.out.below hBrr)
 replace HVl := Lib.hid (HVl.out.below hBrr)
 replace HVs := Lib.hid (HVs.out.below hBrr)
 replace HQ2 := Lib.hid (HQ2.out.keep hBrr)
 replace HQ3 := Lib.hid (HQ3.out.keep hBrr)
 replace HQS := Lib.hid (HQS.out.keep hBrr)
 replace HB := Lib.hid (HB.out.trans (hBrr.mono HB.out.size))
 have HVr := Lib.hid hvrr
 clear hvrr hBrr HVg
 have hk1 : w7.drew.cell? ⟨bs, 1, none⟩ = some (.slice asu (ln ((n1 * (d2 / Nat.gcd d1 d2)) - (n2 * (d1 / Nat.gcd d1 d2)))) ksu) := (HQS.out.keep ((Below.refl w7.heap.size w7).drew)).c1
 have HK := Lib.hid (show ∀ W, Below w7.heap.size w7 W → W.cell? ⟨w.heap.size + 1, 2, none⟩ = some (.slice a4 (ln d2) k4) from fun W h => (HQ2.out.keep h).c2)
 have HK1 := Lib.hid (show ∀ W x, Below w7.heap.size w7 W → (W.setCell ⟨bs, 1, none⟩ x).cell? ⟨w.heap.size + 1, 2, none⟩ = some (.slice a4 (ln d2) k4) from fun W x h => ((HQ2.out.keep h).setOther (g := bs) (by have := HNE.out; omega) 1 x).c2)
 have HK2 := Lib.hid (show ∀ W x y, Below w7.heap.size w7 W → ((W.setCell ⟨bs, 1, none⟩ x).setCell ⟨bs, 2, none⟩ y).cell? ⟨w.heap.size + 1, 2, none⟩ = some (.slice a4 (ln d2) k4) from fun W x y h => (((HQ2.out.keep h).setOther (g := bs) (by have := HNE.out; omega) 1 x).setOther (g := bs) (by have := HNE.out; omega) 2 y).c2)
 have hD7 := (Below.refl w7.heap.size w7).drew
 go_wp2_with fail
 have hk2 := HK.out _ hD7
 go_region_with
  (first
   | (go_at_call_of 99 (Value.slice asu (ln ((n1 * (d2 / Nat.gcd d1 d2)) - (n2 * (d1 / Nat.gcd d1 d2)))) ksu); refine (lift_num (w0 := w7) (by assumption) (over_any (a := ((n1 * (d2 / Nat.gcd d1 d2)) - (n2 * (d1 / Nat.gcd d1 d2)))) (b := Nat.gcd ((n1 * (d2 / Nat.gcd d1 d2)) - (n2 * (d1 / Nat.gcd d1 d2))) (Nat.gcd d1 d2)) (HVs.out.below (by assumption)) (HVr.out.below (by assumption)) HL.out.2.2.2 HL.out.2.2.1 HP.out.2)).mono ?_; rintro e u8 ⟨vp, rfl, hvp, hbp, hBp⟩; obtain ⟨ap, kp, rfl⟩ := slice_any hvp; have hk3 := HK.out _ hBp)
   | (go_at_call_of 99 (Value.slice a4 (ln d2) k4); refine (lift_num (w0 := w7) (by assumption) (over_any (a := d2) (b := Nat.gcd ((n1 * (d2 / Nat.gcd d1 d2)) - (n2 * (d1 / Nat.gcd d1 d2))) (Nat.gcd d1 d2)) (HY2.out.below (by assumption)) (HVr.out.below (by assumption)) HL.out.1.2.2.2 HL.out.2.2.1 HP.out.2)).mono ?_; rintro e u9 ⟨vq, rfl, hvq, hbq, hBq⟩; obtain ⟨aq, kq, rfl⟩ := slice_any hvq)
   | (go_at_call_of 100 (Value.slice al (ln (d1 / Nat.gcd d1 d2)) kl); refine (lift_num (w0 := w7) (by assumption) (times_any (a := (d1 / Nat.gcd d1 d2)) (b := d2 / Nat.gcd ((n1 * (d2 / Nat.gcd d1 d2)) - (n2 * (d1 / Nat.gcd d1 d2))) (Nat.gcd d1 d2)) (HVl.out.below (by assumption)) hvq HR.out.1 HR.out.2.2.2.2)).mono ?_; rintro e u10 ⟨vz, rfl, hvz, hbz, hBz⟩; obtain ⟨az, kz, rfl⟩ := slice_any hvz; have i0 := (HQS.out.keep hBz).c0; have i1 := (HQS.out.keep hBz).c1; have i2 := (HQS.out.keep hBz).c2; have j0 := (HQS.out.keep hBz).z0; have j1 := (HQS.out.keep hBz).z1; have j2 := (HQS.out.keep hBz).z2))
 all_goals (
  have hqs := (HQS.out.keep hBz).set1 (.slice ap (ln (((n1 * (d2 / Nat.gcd d1 d2)) - (n2 * (d1 / Nat.gcd d1 d2))) / Nat.gcd ((n1 * (d2 / Nat.gcd d1 d2)) - (n2 * (d1 / Nat.gcd d1 d2))) (Nat.gcd d1 d2))) kp)
  have hnp := (((hvp.below hbq).below hbz).setCell i0 1 (.slice ap (ln (((n1 * (d2 / Nat.gcd d1 d2)) - (n2 * (d1 / Nat.gcd d1 d2))) / Nat.gcd ((n1 * (d2 / Nat.gcd d1 d2)) - (n2 * (d1 / Nat.gcd d1 d2))) (Nat.gcd d1 d2))) kp)).setCell hqs.c0 2 (.slice az (ln (d1 / Nat.gcd d1 d2 * (d2 / Nat.gcd ((n1 * (d2 / Nat.gcd d1 d2)) - (n2 * (d1 / Nat.gcd d1 d2))) (Nat.gcd d1 d2)))) kz)
  have hnz := (hvz.setCell i0 1 (.slice ap (ln (((n1 * (d2 / Nat.gcd d1 d2)) - (n2 * (d1 / Nat.gcd d1 d2))) / Nat.gcd ((n1 * (d2 / Nat.gcd d1 d2)) - (n2 * (d1 / Nat.gcd d1 d2))) (Nat.gcd d1 d2))) kp)).setCell hqs.c0 2 (.slice az (ln (d1 / Nat.gcd d1 d2 * (d2 / Nat.gcd ((n1 * (d2 / Nat.gcd d1 d2)) - (n2 * (d1 / Nat.gcd d1 d2))) (Nat.gcd d1 d2)))) kz)
  have hq3 := ((HQ3.out.keep hBz).setOther (g := bs) (by have := HNE.out; omega) 1 (.slice ap (ln (((n1 * (d2 / Nat.gcd d1 d2)) - (n2 * (d1 / Nat.gcd d1 d2))) / Nat.gcd ((n1 * (d2 / Nat.gcd d1 d2)) - (n2 * (d1 / Nat.gcd d1 d2))) (Nat.gcd d1 d2))) kp)).setOther (g := bs) (by have := HNE.out; omega) 2 (.slice az (ln (d1 / Nat.gcd d1 d2 * (d2 / Nat.gcd ((n1 * (d2 / Nat.gcd d1 d2)) - (n2 * (d1 / Nat.gcd d1 d2))) (Nat.gcd d1 d2)))) kz)
  have hqf := hqs.set2 (.slice az (ln (d1 / Nat.gcd d1 d2 * (d2 / Nat.gcd ((n1 * (d2 / Nat.gcd d1 d2)) - (n2 * (d1 / Nat.gcd d1 d2))) (Nat.gcd d1 d2)))) kz)
  replace HB := Lib.hid (((HB.out.trans (hBz.mono HB.out.size)).setCell (p := ⟨bs, 1, none⟩) HNE.out.2 (.slice ap (ln (((n1 * (d2 / Nat.gcd d1 d2)) - (n2 * (d1 / Nat.gcd d1 d2))) / Nat.gcd ((n1 * (d2 / Nat.gcd d1 d2)) - (n2 * (d1 / Nat.gcd d1 d2))) (Nat.gcd d1 d2))) kp)).setCell (p := ⟨bs, 2, none⟩) HNE.out.2 (.slice az (ln (d1 / Nat.gcd d1 d2 * (d2 / Nat.gcd ((n1 * (d2 / Nat.gcd d1 d2)) - (n2 * (d1 / Nat.gcd d1 d2))) (Nat.gcd d1 d2)))) kz))
  generalize (u10.setCell ⟨bs, 1, none⟩ (.slice ap (ln (((n1 * (d2 / Nat.gcd d1 d2)) - (n2 * (d1 / Nat.gcd d1 d2))) / Nat.gcd ((n1 * (d2 / Nat.gcd d1 d2)) - (n2 * (d1 / Nat.gcd d1 d2))) (Nat.gcd d1 d2))) kp)).setCell ⟨bs, 2, none⟩ (.slice az (ln (d1 / Nat.gcd d1 d2 * (d2 / Nat.gcd ((n1 * (d2 / Nat.gcd d1 d2)) - (n2 * (d1 / Nat.gcd d1 d2))) (Nat.gcd d1 d2)))) kz) = w11 at hnp hnz hq3 hqf HB ⊢
  have HNP := Lib.hid hnp
  have HNZ := Lib.hid hnz
  replace HQ3 := Lib.hid hq3
  have c0 := hqf.c0
  have c1 := hqf.c1
  have c2 := hqf.c2
  clear hqs hnp hnz hq3 hqf i0 i1 i2 j0 j1 j2 hvp hbp hBp hvq hbq hBq hvz hbz hBz hk1 hk2 hk3 HK HK1 HK2 hD7 HVr HVs HVl HY2 HQS HQ2
  go_wp2_with fail
  refine (normal_any (m := m1) (n := (((n1 * (d2 / Nat.gcd d1 d2)) - (n2 * (d1 / Nat.gcd d1 d2))) / Nat.gcd ((n1 * (d2 / Nat.gcd d1 d2)) - (n2 * (d1 / Nat.gcd d1 d2))) (Nat.gcd d1 d2))) (d := (d1 / Nat.gcd d1 d2 * (d2 / Nat.gcd ((n1 * (d2 / Nat.gcd d1 d2)) - (n2 * (d1 / Nat.gcd d1 d2))) (Nat.gcd d1 d2)))) HNP.out HNZ.out).mono ?_
  rintro e w12 ⟨rfl, hBn⟩
  have i0 := (HQ3.out.keep hBn).c0
  have i1 := (HQ3.out.keep hBn).c1
  have i2 := (HQ3.out.keep hBn).c2
  have j0 := (HQ3.out.keep hBn).z0
  have j1 := (HQ3.out.keep hBn).z1
  have j2 := (HQ3.out.keep hBn).z2
  have hq := (HQ3.out.keep hBn).st (m1 && !zeroB (((n1 * (d2 / Nat.gcd d1 d2)) - (n2 * (d1 / Nat.gcd d1 d2))) / Nat.gcd ((n1 * (d2 / Nat.gcd d1 d2)) - (n2 * (d1 / Nat.gcd d1 d2))) (Nat.gcd d1 d2))) (.slice ap (ln (((n1 * (d2 / Nat.gcd d1 d2)) - (n2 * (d1 / Nat.gcd d1 d2))) / Nat.gcd ((n1 * (d2 / Nat.gcd d1 d2)) - (n2 * (d1 / Nat.gcd d1 d2))) (Nat.gcd d1 d2))) kp) (.slice az (ln (d1 / Nat.gcd d1 d2 * (d2 / Nat.gcd ((n1 * (d2 / Nat.gcd d1 d2)) - (n2 * (d1 / Nat.gcd d1 d2))) (Nat.gcd d1 d2)))) kz)
  have hn1 := (HNP.out.below hBn).st3 i0 (m1 && !zeroB (((n1 * (d2 / Nat.gcd d1 d2)) - (n2 * (d1 / Nat.gcd d1 d2))) / Nat.gcd ((n1 * (d2 / Nat.gcd d1 d2)) - (n2 * (d1 / Nat.gcd d1 d2))) (Nat.gcd d1 d2))) (.slice ap (ln (((n1 * (d2 / Nat.gcd d1 d2)) - (n2 * (d1 / Nat.gcd d1 d2))) / Nat.gcd ((n1 * (d2 / Nat.gcd d1 d2)) - (n2 * (d1 / Nat.gcd d1 d2))) (Nat.gcd d1 d2))) kp) (.slice az (ln (d1 / Nat.gcd d1 d2 * (d2 / Nat.gcd ((n1 * (d2 / Nat.gcd d1 d2)) - (n2 * (d1 / Nat.gcd d1 d2))) (Nat.gcd d1 d2)))) kz)
  have hn2 := (HNZ.out.below hBn).st3 i0 (m1 && !zeroB (((n1 * (d2 / Nat.gcd d1 d2)) - (n2 * (d1 / Nat.gcd d1 d2))) / Nat.gcd ((n1 * (d2 / Nat.gcd d1 d2)) - (n2 * (d1 / Nat.gcd d1 d2))) (Nat.gcd d1 d2))) (.slice ap (ln (((n1 * (d2 / Nat.gcd d1 d2)) - (n2 * (d1 / Nat.gcd d1 d2))) / Nat.gcd ((n1 * (d2 / Nat.gcd d1 d2)) - (n2 * (d1 / Nat.gcd d1 d2))) (Nat.gcd d1 d2))) kp) (.slice az (ln (d1 / Nat.gcd d1 d2 * (d2 / Nat.gcd ((n1 * (d2 / Nat.gcd d1 d2)) - (n2 * (d1 / Nat.gcd d1 d2))) (Nat.gcd d1 d2)))) kz)
  have hbf := below_st3 (HB.out.trans (hBn.mono HB.out.size)) (show w.heap.size ≤ w.heap.size + 2 by omega) (m1 && !zeroB (((n1 * (d2 / Nat.gcd d1 d2)) - (n2 * (d1 / Nat.gcd d1 d2))) / Nat.gcd ((n1 * (d2 / Nat.gcd d1 d2)) - (n2 * (d1 / Nat.gcd d1 d2))) (Nat.gcd d1 d2))) (.slice ap (ln (((n1 * (d2 / Nat.gcd d1 d2)) - (n2 * (d1 / Nat.gcd d1 d2))) / Nat.gcd ((n1 * (d2 / Nat.gcd d1 d2)) - (n2 * (d1 / Nat.gcd d1 d2))) (Nat.gcd d1 d2))) kp) (.slice az (ln (d1 / Nat.gcd d1 d2 * (d2 / Nat.gcd ((n1 * (d2 / Nat.gcd d1 d2)) - (n2 * (d1 / Nat.gcd d1 d2))) (Nat.gcd d1 d2)))) kz)
  have HF := Lib.hid (And.intro hq (And.intro hn1 (And.intro hn2 hbf)))
  clear hq hn1 hn2 hbf hBn c0 c1 c2
  go_wp2_with fail
  exact bodyPost_ret (HF.out.1.resultP rfl) rfl ⟨_, rfl, ⟨_, _, rfl, HF.out.2.1, HF.out.2.2.1⟩, HF.out.2.2.2⟩)
open Go.RowKit NV
set_option maxHeartbeats 6400000 in
set_option maxRecDepth 100000 in
theorem fplus_C {w : World} {m1 m2 : Bool} {x1 y1 x2 y2 : Value} {n1 d1 n2 d2 : Nat} (hx1 : Num w x1 n1) (hy1 : Num w y1 d1) (hx2 : Num w x2 n2) (hy2 : Num w y2 d2)
  (l1 : ln n1 ≤ 100000) (l2 : ln d1 ≤ 100000) (l3 : ln n2 ≤ 100000) (l4 : ln d2 ≤ 100000) (g1 : d1 ≠ 0) (hm : m1 ≠ m2) (hc : (n1 * (d2 / Nat.gcd d1 d2)) < (n2 * (d1 / Nat.gcd d1 d2))) :
  Calls Tryz.prog 68 #[.agg #[.bool m1, x1, y1], .agg #[.bool m2, x2, y2]] w fun e w' => ∃ v, e = .returned v ∧
   FNum w' v (m2 && !zeroB (((n2 * (d1 / Nat.gcd d1 d2)) - (n1 * (d2 / Nat.gcd d1 d2))) / Nat.gcd ((n2 * (d1 / Nat.gcd d1 d2)) - (n1 * (d2 / Nat.gcd d1 d2))) (Nat.gcd d1 d2))) (((n2 * (d1 / Nat.gcd d1 d2)) - (n1 * (d2 / Nat.gcd d1 d2))) / Nat.gcd ((n2 * (d1 / Nat.gcd d1 d2)) - (n1 * (d2 / Nat.gcd d1 d2))) (Nat.gcd d1 d2)) (d1 / Nat.gcd d1 d2 * (d2 / Nat.gcd ((n2 * (d1 / Nat.gcd d1 d2)) - (n1 * (d2 / Nat.gcd d1 d2))) (Nat.gcd d1 d2))) ∧ Below w.heap.size w w' := by
 have p1 : Nat.gcd d1 d2 ≠ 0 := Nat.ne_of_gt (Nat.gcd_pos_of_pos_left _ (Nat.pos_of_ne_zero g1))
 have p2 : Nat.gcd ((n2 * (d1 / Nat.gcd d1 d2)) - (n1 * (d2 / Nat.gcd d1 d2))) (Nat.gcd d1 d2) ≠ 0 := Nat.ne_of_gt (Nat.gcd_pos_of_pos_right _ (Nat.pos_of_ne_zero p1))
 have q1 : ln (Nat.gcd d1 d2) ≤ 100000 := gcd_ln l2 l4
 have r1 : ln (d1 / Nat.gcd d1 d2) ≤ 100000 := ln_div l2
 have r2 : ln (d2 / Nat.gcd d1 d2) ≤ 100000 := ln_div l4
 have r3 : ln (n1 * (d2 / Nat.gcd d1 d2)) ≤ 200000 := ln_mul l1 r2
 have r4 : ln (n2 * (d1 / Nat.gcd d1 d2)) ≤ 200000 := ln_mul l3 r1
 have r5 : ln ((n2 * (d1 / Nat.gcd d1 d2)) - (n1 * (d2 / Nat.gcd d1 d2))) ≤ 200001 := Nat.le_trans (ln_sub r4) (by omega)
 have r6 : ln (Nat.gcd ((n2 * (d1 / Nat.gcd d1 d2)) - (n1 * (d2 / Nat.gcd d1 d2))) (Nat.gcd d1 d2)) ≤ 200001 := gcd_ln r5 (by omega)
 have r7 : ln (d2 / Nat.gcd ((n2 * (d1 / Nat.gcd d1 d2)) - (n1 * (d2 / Nat.gcd d1 d2))) (Nat.gcd d1 d2)) ≤ 100000 := ln_div l4
 have HL := Lib.hid (show (ln n1 ≤ 1000000 ∧ ln d1 ≤ 1000000 ∧ ln n2 ≤ 1000000 ∧ ln d2 ≤ 1000000) ∧ ln (Nat.gcd d1 d2) ≤ 1000000 ∧ ln (Nat.gcd ((n2 * (d1 / Nat.gcd d1 d2)) - (n1 * (d2 / Nat.gcd d1 d2))) (Nat.gcd d1 d2)) ≤ 1000000 ∧ ln ((n2 * (d1 / Nat.gcd d1 d2)) - (n1 * (d2 / Nat.gcd d1 d2))) ≤ 1000000 by omega)
 have HR := Lib.hid (show ln (d1 / Nat.gcd d1 d2) ≤ 2000000 ∧ ln (d2 / Nat.gcd d1 d2) ≤ 2000000 ∧ ln n1 ≤ 2000000 ∧ ln n2 ≤ 2000000 ∧ ln (d2 / Nat.gcd ((n2 * (d1 / Nat.gcd d1 d2)) - (n1 * (d2 / Nat.gcd d1 d2))) (Nat.gcd d1 d2)) ≤ 2000000 by omega)
 have HM := Lib.hid (show ln (n1 * (d2 / Nat.gcd d1 d2)) ≤ 1073741824 ∧ ln (n2 * (d1 / Nat.gcd d1 d2)) ≤ 1073741824 by omega)
 have HP := Lib.hid (And.intro p1 p2)
 have hmm : (m1 == m2) = false := by rw [beq_eq_false_iff_ne]; exact hm
 have HC := Lib.hid (Nat.le_of_lt hc)
 have hcc : ¬ (0 : Int) ≤ cmpN (n1 * (d2 / Nat.gcd d1 d2)) (n2 * (d1 / Nat.gcd d1 d2)) := by have := cmpN_low hc; omega
 clear hm hc
 clear l1 l2 l3 l4 q1 r1 r2 r3 r4 r5 r6 r7 p1 p2 g1
 obtain ⟨a1, k1, rfl⟩ := slice_any hx1
 obtain ⟨a2, k2, rfl⟩ := slice_any hy1
 obtain ⟨a3, k3, rfl⟩ := slice_any hx2
 obtain ⟨a4, k4, rfl⟩ := slice_any hy2
 have HX1 := Lib.hid hx1
 have HY1 := Lib.hid hy1
 have HX2 := Lib.hid hx2
 have HY2 := Lib.hid hy2
 clear hx1 hy1 hx2 hy2
 go_enter Tryz.func68, Tryz.ntmps68
 go_wp2_with fail
 obtain ⟨hb0, hq1, hq2, hq3⟩ := three_new w m1 m2 false (.slice a1 (ln n1) k1) (.slice a2 (ln d1) k2) (.slice a3 (ln n2) k3) (.slice a4 (ln d2) k4) (.slice none 0 0) (.slice none 0 0)
 generalize ((w.alloc (.cells #[.bool m1, .slice a1 (ln n1) k1, .slice a2 (ln d1) k2] 110)).alloc (.cells #[.bool m2, .slice a3 (ln n2) k3, .slice a4 (ln d2) k4] 110)).alloc (.cells #[.bool false, .slice none 0 0, .slice none 0 0] 110) = w0 at hb0 hq1 hq2 hq3 ⊢
 replace HX1 := Lib.hid (HX1.out.below hb0)
 replace HY1 := Lib.hid (HY1.out.below hb0)
 replace HX2 := Lib.hid (HX2.out.below hb0)
 replace HY2 := Lib.hid (HY2.out.below hb0)
 have HB := Lib.hid hb0
 have HQ1 := Lib.hid hq1
 have HQ2 := Lib.hid hq2
 have HQ3 := Lib.hid hq3
 have c12 := hq1.c2
 have c22 := hq2.c2
 clear hb0 hq1 hq2 hq3
 go_wp2_with fail
 refine (gcd_any HY1.out HY2.out HL.out.1.2.1 HL.out.1.2.2.2).mono ?_
 rintro e w1 ⟨vg, rfl, hvg, hBw1⟩
 obtain ⟨ag, kg, rfl⟩ := slice_any hvg
 replace HX1 := Lib.hid (HX1.out.below hBw1)
 replace HY1 := Lib.hid (HY1.out.below hBw1)
 replace HX2 := Lib.hid (HX2.out.below hBw1)
 replace HY2 := Lib.hid (HY2.out.below hBw1)
 replace HQ1 := Lib.hid (HQ1.out.keep hBw1)
 replace HQ2 := Lib.hid (HQ2.out.keep hBw1)
 replace HQ3 := Lib.hid (HQ3.out.keep hBw1)
 replace HB := Lib.hid (HB.out.trans (hBw1.mono HB.out.size))
 have HVg := Lib.hid hvg
 clear c12 c22 hvg hBw1
 have HS_w1 := Lib.hid (show ∀ W, Below w1.heap.size w1 W → W.cell? ⟨w.heap.size, 0, none⟩ = some (.bool m1) ∧ W.cell? ⟨w.heap.size, 1, none⟩ = some (.slice a1 (ln n1) k1) ∧ W.cell? ⟨w.heap.size, 2, none⟩ = some (.slice a2 (ln d1) k2) ∧ W.cell? ⟨w.heap.size + 1, 0, none⟩ = some (.bool m2) ∧ W.cell? ⟨w.heap.size + 1, 1, none⟩ = some (.slice a3 (ln n2) k3) ∧ W.cell? ⟨w.heap.size + 1, 2, none⟩ = some (.slice a4 (ln d2) k4) from fun W h =>
   ⟨(HQ1.out.keep h).c0, (HQ1.out.keep h).c1, (HQ1.out.keep h).c2, (HQ2.out.keep h).c0, (HQ2.out.keep h).c1, (HQ2.out.keep h).c2⟩)
 have hD1 := (Below.refl w1.heap.size w1).drew
 go_wp2_with fail
 go_region_held3 (fun W => W.cell? ⟨w.heap.size, 0, none⟩ = some (.bool m1) ∧ W.cell? ⟨w.heap.size, 1, none⟩ = some (.slice a1 (ln n1) k1) ∧ W.cell? ⟨w.heap.size, 2, none⟩ = some (.slice a2 (ln d1) k2) ∧ W.cell? ⟨w.heap.size + 1, 0, none⟩ = some (.bool m2) ∧ W.cell? ⟨w.heap.size + 1, 1, none⟩ = some (.slice a3 (ln n2) k3) ∧ W.cell? ⟨w.heap.size + 1, 2, none⟩ = some (.slice a4 (ln d2) k4))
  (first | exact HS_w1.out _ hD1 | exact HS_w1.out _ (by assumption))
  (first
   | (go_at_call_of 99 (Value.slice a2 (ln d1) k2); refine (lift_num (w0 := w1) (by assumption) (over_any (a := d1) (b := Nat.gcd d1 d2) (HY1.out.below (by assumption)) (HVg.out.below (by assumption)) HL.out.1.2.1 HL.out.2.1 HP.out.1)).mono ?_; rintro e u1 ⟨vl, rfl, hvl, hbl, hBl⟩; obtain ⟨al, kl, rfl⟩ := slice_any hvl)
   | (go_at_call_of 99 (Value.slice a4 (ln d2) k4); refine (lift_num (w0 := w1) (by assumption) (over_any (a := d2) (b := Nat.gcd d1 d2) (HY2.out.below (by assumption)) (HVg.out.below (by assumption)) HL.out.1.2.2.2 HL.out.2.1 HP.out.1)).mono ?_; rintro e w2 ⟨vr, rfl, hvr, hbr, hBr⟩; obtain ⟨ar, kr, rfl⟩ := slice_any hvr))
 replace HX1 := Lib.hid (HX1.out.below hBr)
 replace HY1 := Lib.hid (HY1.out.below hBr)
 replace HX2 := Lib.hid (HX2.out.below hBr)
 replace HY2 := Lib.hid (HY2.out.below hBr)
 replace HVg := Lib.hid (HVg.out.below hBr)
 replace HQ1 := Lib.hid (HQ1.out.keep hBr)
 replace HQ2 := Lib.hid (HQ2.out.keep hBr)
 replace HQ3 := Lib.hid (HQ3.out.keep hBr)
 replace HB := Lib.hid (HB.out.trans (hBr.mono HB.out.size))
 have HVl := Lib.hid (hvl.below hbr)
 have HVr := Lib.hid hvr
 clear hvl hbl hBl hvr hbr hBr hD1 HS_w1
 have c10 := HQ1.out.c0
 go_wp2_with fail
 have hbs : Below w2.heap.size w2 (w2.alloc (.cells #[.bool m1, .slice none 0 0, .slice none 0 0] 110)) := (Below.refl _ _).alloc (Nat.le_refl _) _
 have hqs := FR.new w2 m1 (.slice none 0 0) (.slice none 0 0)
 have hsz := HB.out.size
 have h3lt := HQ3.out.lt
 obtain ⟨bs, hbse⟩ : ∃ bs, bs = w2.heap.size := ⟨_, rfl⟩
 rw [← hbse] at hqs ⊢
 have hne : w.heap.size + 2 < bs := by omega
 have HBS := Lib.hid (show Below w2.heap.size w2 (w2.alloc (.cells #[.bool m1, .slice none 0 0, .slice none 0 0] 110)) from hbs)
 generalize w2.alloc (.cells #[.bool m1, .slice none 0 0, .slice none 0 0] 110) = w3 at hbs hqs HBS ⊢
 replace HX1 := Lib.hid (HX1.out.below hbs)
 replace HX2 := Lib.hid (HX2.out.below hbs)
 replace HY2 := Lib.hid (HY2.out.below hbs)
 replace HVg := Lib.hid (HVg.out.below hbs)
 replace HVl := Lib.hid (HVl.out.below hbs)
 replace HVr := Lib.hid (HVr.out.below hbs)
 replace HQ1 := Lib.hid (HQ1.out.keep hbs)
 replace HQ2 := Lib.hid (HQ2.out.keep hbs)
 replace HQ3 := Lib.hid (HQ3.out.keep hbs)
 replace HB := Lib.hid (HB.out.trans (hbs.mono HB.out.size))
 have HQS := Lib.hid hqs
 have HNE := Lib.hid (show w.heap.size + 2 < bs ∧ w.heap.size ≤ bs by omega)
 clear c10 hbs hqs hsz h3lt hbse hne HBS HY1
 have HS_w3 := Lib.hid (show ∀ W, Below w3.heap.size w3 W → W.cell? ⟨w.heap.size, 0, none⟩ = some (.bool m1) ∧ W.cell? ⟨w.heap.size, 1, none⟩ = some (.slice a1 (ln n1) k1) ∧ W.cell? ⟨w.heap.size, 2, none⟩ = some (.slice a2 (ln d1) k2) ∧ W.cell? ⟨w.heap.size + 1, 0, none⟩ = some (.bool m2) ∧ W.cell? ⟨w.heap.size + 1, 1, none⟩ = some (.slice a3 (ln n2) k3) ∧ W.cell? ⟨w.heap.size + 1, 2, none⟩ = some (.slice a4 (ln d2) k4) from fun W h =>
   ⟨(HQ1.out.keep h).c0, (HQ1.out.keep h).c1, (HQ1.out.keep h).c2, (HQ2.out.keep h).c0, (HQ2.out.keep h).c1, (HQ2.out.keep h).c2⟩)
 have hD3 := (Below.refl w3.heap.size w3).drew
 go_wp2_with fail
 go_region_held3 (fun W => W.cell? ⟨w.heap.size, 0, none⟩ = some (.bool m1) ∧ W.cell? ⟨w.heap.size, 1, none⟩ = some (.slice a1 (ln n1) k1) ∧ W.cell? ⟨w.heap.size, 2, none⟩ = some (.slice a2 (ln d1) k2) ∧ W.cell? ⟨w.heap.size + 1, 0, none⟩ = some (.bool m2) ∧ W.cell? ⟨w.heap.size + 1, 1, none⟩ = some (.slice a3 (ln n2) k3) ∧ W.cell? ⟨w.heap.size + 1, 2, none⟩ = some (.slice a4 (ln d2) k4))
  (first | exact HS_w3.out _ hD3 | exact HS_w3.out _ (by assumption))
  (first
   | (go_at_call_of 100 (Value.slice a1 (ln n1) k1); refine (lift_num (w0 := w3) (by assumption) (times_any (a := n1) (b := (d2 / Nat.gcd d1 d2)) (HX1.out.below (by assumption)) (HVr.out.below (by assumption)) HR.out.2.2.1 HR.out.2.1)).mono ?_; rintro e u2 ⟨vo, rfl, hvo, hbo, hBo⟩; obtain ⟨ao, ko, rfl⟩ := slice_any hvo)
   | (go_at_call_of 100 (Value.slice a3 (ln n2) k3); refine (lift_num (w0 := w3) (by assumption) (times_any (a := n2) (b := (d1 / Nat.gcd d1 d2)) (HX2.out.below (by assumption)) (HVl.out.below (by assumption)) HR.out.2.2.2.1 HR.out.1)).mono ?_; rintro e w4 ⟨vtt, rfl, hvtt, hbtt, hBtt⟩; obtain ⟨att, ktt, rfl⟩ := slice_any hvtt))
 replace HY2 := Lib.hid (HY2.out.below hBtt)
 replace HVg := Lib.hid (HVg.out.below hBtt)
 replace HVl := Lib.hid (HVl.out.below hBtt)
 replace HQ1 := Lib.hid (HQ1.out.keep hBtt)
 replace HQ2 := Lib.hid (HQ2.out.keep hBtt)
 replace HQ3 := Lib.hid (HQ3.out.keep hBtt)
 replace HQS := Lib.hid (HQS.out.keep hBtt)
 replace HB := Lib.hid (HB.out.trans (hBtt.mono HB.out.size))
 have HVo := Lib.hid (hvo.below hbtt)
 have HVt := Lib.hid hvtt
 clear hvo hbo hBo hvtt hbtt hBtt hD3 HS_w3 HVr HX1 HX2
 have c10 := HQ1.out.c0
 have c20 := HQ2.out.c0
 go_wp2_with fail
 refine (ncmp_any HVo.out HVt.out HM.out.1 HM.out.2).mono ?_
 rintro e w5 ⟨rfl, hBcm⟩
 replace HY2 := Lib.hid (HY2.out.below hBcm)
 replace HVg := Lib.hid (HVg.out.below hBcm)
 replace HVl := Lib.hid (HVl.out.below hBcm)
 replace HVo := Lib.hid (HVo.out.below hBcm)
 replace HVt := Lib.hid (HVt.out.below hBcm)
 replace HQ1 := Lib.hid (HQ1.out.keep hBcm)
 replace HQ2 := Lib.hid (HQ2.out.keep hBcm)
 replace HQ3 := Lib.hid (HQ3.out.keep hBcm)
 replace HQS := Lib.hid (HQS.out.keep hBcm)
 replace HB := Lib.hid (HB.out.trans (hBcm.mono HB.out.size))
 clear hBcm c10 c20 HQ1
 have HK := Lib.hid (show ∀ W, Below w5.heap.size w5 W → W.cell? ⟨w.heap.size + 1, 0, none⟩ = some (.bool m2) from fun W h => (HQ2.out.keep h).c0)
 have HK1 := Lib.hid (show ∀ W x, Below w5.heap.size w5 W → (W.setCell ⟨bs, 1, none⟩ x).cell? ⟨w.heap.size + 1, 0, none⟩ = some (.bool m2) from fun W x h => ((HQ2.out.keep h).setOther (g := bs) (by have := HNE.out; omega) 1 x).c0)
 have HK2 := Lib.hid (show ∀ W x y, Below w5.heap.size w5 W → ((W.setCell ⟨bs, 1, none⟩ x).setCell ⟨bs, 0, none⟩ y).cell? ⟨w.heap.size + 1, 0, none⟩ = some (.bool m2) from fun W x y h => (((HQ2.out.keep h).setOther (g := bs) (by have := HNE.out; omega) 1 x).setOther (g := bs) (by have := HNE.out; omega) 0 y).c0)
 have hD5 := (Below.refl w5.heap.size w5).drew
 go_wp2_with fail
 go_region_held3 (fun W => W.cell? ⟨w.heap.size + 1, 0, none⟩ = some (.bool m2))
  (first | exact HK.out _ hD5 | exact HK.out _ (by assumption) | exact HK1.out _ _ (by assumption) | exact HK2.out _ _ _ (by assumption))
  (first
   | (go_at_call 103; refine (lift_own (w0 := w5) (by assumption) (minus_any (a := (n2 * (d1 / Nat.gcd d1 d2))) (b := (n1 * (d2 / Nat.gcd d1 d2))) (HVt.out.below (by assumption)) (HVo.out.below (by assumption)) HM.out.2 HC.out)).mono ?_; rintro e u6 ⟨vs, rfl, hvs, hbs, hBs⟩; obtain ⟨asu, ksu, rfl⟩ := slice_any hvs; have i0 := (HQS.out.keep hBs).c0; have i1 := (HQS.out.keep hBs).c1; have i2 := (HQS.out.keep hBs).c2; have j0 := (HQS.out.keep hBs).z0; have j1 := (HQS.out.keep hBs).z1; have j2 := (HQS.out.keep hBs).z2))
 replace HY2 := Lib.hid (HY2.out.below hBs)
 replace HVg := Lib.hid (HVg.out.below hBs)
 replace HVl := Lib.hid (HVl.out.below hBs)
 replace HQ2 := Lib.hid (HQ2.out.keep hBs)
 replace HQ3 := Lib.hid (HQ3.out.keep hBs)
 replace HQS := Lib.hid (HQS.out.keep hBs)
 replace HB := Lib.hid (HB.out.trans (hBs.mono HB.out.size))
 have HVs := Lib.hid hvs
 have hq6 := HQS.out.set1 (.slice asu (ln ((n2 * (d1 / Nat.gcd d1 d2)) - (n1 * (d2 / Nat.gcd d1 d2)))) ksu)
 replace HY2 := Lib.hid ((HY2.out.setCell i0 1 (.slice asu (ln ((n2 * (d1 / Nat.gcd d1 d2)) - (n1 * (d2 / Nat.gcd d1 d2)))) ksu)).setCell hq6.c0 0 (.bool m2))
 replace HVg := Lib.hid ((HVg.out.setCell i0 1 (.slice asu (ln ((n2 * (d1 / Nat.gcd d1 d2)) - (n1 * (d2 / Nat.gcd d1 d2)))) ksu)).setCell hq6.c0 0 (.bool m2))
 replace HVl := Lib.hid ((HVl.out.setCell i0 1 (.slice asu (ln ((n2 * (d1 / Nat.gcd d1 d2)) - (n1 * (d2 / Nat.gcd d1 d2)))) ksu)).setCell hq6.c0 0 (.bool m2))
 replace HVs := Lib.hid ((HVs.out.setCell i0 1 (.slice asu (ln ((n2 * (d1 / Nat.gcd d1 d2)) - (n1 * (d2 / Nat.gcd d1 d2)))) ksu)).setCell hq6.c0 0 (.bool m2))
 replace HQ2 := Lib.hid ((HQ2.out.setOther (g := bs) (by have := HNE.out; omega) 1 (.slice asu (ln ((n2 * (d1 / Nat.gcd d1 d2)) - (n1 * (d2 / Nat.gcd d1 d2)))) ksu)).setOther (g := bs) (by have := HNE.out; omega) 0 (.bool m2))
 replace HQ3 := Lib.hid ((HQ3.out.setOther (g := bs) (by have := HNE.out; omega) 1 (.slice asu (ln ((n2 * (d1 / Nat.gcd d1 d2)) - (n1 * (d2 / Nat.gcd d1 d2)))) ksu)).setOther (g := bs) (by have := HNE.out; omega) 0 (.bool m2))
 replace HQS := Lib.hid (hq6.set0 m2)
 replace HB := Lib.hid ((HB.out.setCell (p := ⟨bs, 1, none⟩) HNE.out.2 (.slice asu (ln ((n2 * (d1 / Nat.gcd d1 d2)) - (n1 * (d2 / Nat.gcd d1 d2)))) ksu)).setCell (p := ⟨bs, 0, none⟩) HNE.out.2 (.bool m2))
 clear i0 i1 i2 j0 j1 j2 hvs hbs hBs HVo HVt hD5 HK HK1 HK2 hq6 hcc
 generalize (u6.setCell ⟨bs, 1, none⟩ (.slice asu (ln ((n2 * (d1 / Nat.gcd d1 d2)) - (n1 * (d2 / Nat.gcd d1 d2)))) ksu)).setCell ⟨bs, 0, none⟩ (.bool m2) = w6 at HY2 HVg HVl HVs HQ2 HQ3 HQS HB ⊢
 have i1 := HQS.out.c1
 go_wp2_with fail
 clear i1
 refine (gcd_any HVs.out HVg.out HL.out.2.2.2 HL.out.2.1).mono ?_
 rintro e w7 ⟨vrr, rfl, hvrr, hBrr⟩
 obtain ⟨arr, krr, rfl⟩ := slice_any hvrr
 replace HY2 := Lib.hid (HY2.out.below hBrr)
 replace HVl := Lib.hid (HVl.out.below hBrr)
 replace HVs := Lib.hid (HVs.out.below hBrr)
 replace HQ2 := Lib.hid (HQ2.out.keep hBrr)
 replace HQ3 := Lib.hid (HQ3.out.keep hBrr)
 replace HQS := Lib.hid (HQS.out.keep hBrr)
 replace HB := Lib.hid (HB.out.trans (hBrr.mono HB.out.size))
 have HVr := Lib.hid hvrr
 clear hvrr hBrr HVg
 have hk1 : w7.drew.cell? ⟨bs, 1, none⟩ = some (.slice asu (ln ((n2 * (d1 / Nat.gcd d1 d2)) - (n1 * (d2 / Nat.gcd d1 d2)))) ksu) := (HQS.out.keep ((Below.refl w7.heap.size w7).drew)).c1
 have HK := Lib.hid (show ∀ W, Below w7.heap.size w7 W → W.cell? ⟨w.heap.size + 1, 2, none⟩ = some (.slice a4 (ln d2) k4) from fun W h => (HQ2.out.keep h).c2)
 have HK1 := Lib.hid (show ∀ W x, Below w7.heap.size w7 W → (W.setCell ⟨bs, 1, none⟩ x).cell? ⟨w.heap.size + 1, 2, none⟩ = some (.slice a4 (ln d2) k4) from fun W x h => ((HQ2.out.keep h).setOther (g := bs) (by have := HNE.out; omega) 1 x).c2)
 have HK2 := Lib.hid (show ∀ W x y, Below w7.heap.size w7 W → ((W.setCell ⟨bs, 1, none⟩ x).setCell ⟨bs, 2, none⟩ y).cell? ⟨w.heap.size + 1, 2, none⟩ = some (.slice a4 (ln d2) k4) from fun W x y h => (((HQ2.out.keep h).setOther (g := bs) (by have := HNE.out; omega) 1 x).setOther (g := bs) (by have := HNE.out; omega) 2 y).c2)
 have hD7 := (Below.refl w7.heap.size w7).drew
 go_wp2_with fail
 have hk2 := HK.out _ hD7
 go_region_with
  (first
   | (go_at_call_of 99 (Value.slice asu (ln ((n2 * (d1 / Nat.gcd d1 d2)) - (n1 * (d2 / Nat.gcd d1 d2)))) ksu); refine (lift_num (w0 := w7) (by assumption) (over_any (a := ((n2 * (d1 / Nat.gcd d1 d2)) - (n1 * (d2 / Nat.gcd d1 d2)))) (b := Nat.gcd ((n2 * (d1 / Nat.gcd d1 d2)) - (n1 * (d2 / Nat.gcd d1 d2))) (Nat.gcd d1 d2)) (HVs.out.below (by assumption)) (HVr.out.below (by assumption)) HL.out.2.2.2 HL.out.2.2.1 HP.out.2)).mono ?_; rintro e u8 ⟨vp, rfl, hvp, hbp, hBp⟩; obtain ⟨ap, kp, rfl⟩ := slice_any hvp; have hk3 := HK.out _ hBp)
   | (go_at_call_of 99 (Value.slice a4 (ln d2) k4); refine (lift_num (w0 := w7) (by assumption) (over_any (a := d2) (b := Nat.gcd ((n2 * (d1 / Nat.gcd d1 d2)) - (n1 * (d2 / Nat.gcd d1 d2))) (Nat.gcd d1 d2)) (HY2.out.below (by assumption)) (HVr.out.below (by assumption)) HL.out.1.2.2.2 HL.out.2.2.1 HP.out.2)).mono ?_; rintro e u9 ⟨vq, rfl, hvq, hbq, hBq⟩; obtain ⟨aq, kq, rfl⟩ := slice_any hvq)
   | (go_at_call_of 100 (Value.slice al (ln (d1 / Nat.gcd d1 d2)) kl); refine (lift_num (w0 := w7) (by assumption) (times_any (a := (d1 / Nat.gcd d1 d2)) (b := d2 / Nat.gcd ((n2 * (d1 / Nat.gcd d1 d2)) - (n1 * (d2 / Nat.gcd d1 d2))) (Nat.gcd d1 d2)) (HVl.out.below (by assumption)) hvq HR.out.1 HR.out.2.2.2.2)).mono ?_; rintro e u10 ⟨vz, rfl, hvz, hbz, hBz⟩; obtain ⟨az, kz, rfl⟩ := slice_any hvz; have i0 := (HQS.out.keep hBz).c0; have i1 := (HQS.out.keep hBz).c1; have i2 := (HQS.out.keep hBz).c2; have j0 := (HQS.out.keep hBz).z0; have j1 := (HQS.out.keep hBz).z1; have j2 := (HQS.out.keep hBz).z2))
 all_goals (
  have hqs := (HQS.out.keep hBz).set1 (.slice ap (ln (((n2 * (d1 / Nat.gcd d1 d2)) - (n1 * (d2 / Nat.gcd d1 d2))) / Nat.gcd ((n2 * (d1 / Nat.gcd d1 d2)) - (n1 * (d2 / Nat.gcd d1 d2))) (Nat.gcd d1 d2))) kp)
  have hnp := (((hvp.below hbq).below hbz).setCell i0 1 (.slice ap (ln (((n2 * (d1 / Nat.gcd d1 d2)) - (n1 * (d2 / Nat.gcd d1 d2))) / Nat.gcd ((n2 * (d1 / Nat.gcd d1 d2)) - (n1 * (d2 / Nat.gcd d1 d2))) (Nat.gcd d1 d2))) kp)).setCell hqs.c0 2 (.slice az (ln (d1 / Nat.gcd d1 d2 * (d2 / Nat.gcd ((n2 * (d1 / Nat.gcd d1 d2)) - (n1 * (d2 / Nat.gcd d1 d2))) (Nat.gcd d1 d2)))) kz)
  have hnz := (hvz.setCell i0 1 (.slice ap (ln (((n2 * (d1 / Nat.gcd d1 d2)) - (n1 * (d2 / Nat.gcd d1 d2))) / Nat.gcd ((n2 * (d1 / Nat.gcd d1 d2)) - (n1 * (d2 / Nat.gcd d1 d2))) (Nat.gcd d1 d2))) kp)).setCell hqs.c0 2 (.slice az (ln (d1 / Nat.gcd d1 d2 * (d2 / Nat.gcd ((n2 * (d1 / Nat.gcd d1 d2)) - (n1 * (d2 / Nat.gcd d1 d2))) (Nat.gcd d1 d2)))) kz)
  have hq3 := ((HQ3.out.keep hBz).setOther (g := bs) (by have := HNE.out; omega) 1 (.slice ap (ln (((n2 * (d1 / Nat.gcd d1 d2)) - (n1 * (d2 / Nat.gcd d1 d2))) / Nat.gcd ((n2 * (d1 / Nat.gcd d1 d2)) - (n1 * (d2 / Nat.gcd d1 d2))) (Nat.gcd d1 d2))) kp)).setOther (g := bs) (by have := HNE.out; omega) 2 (.slice az (ln (d1 / Nat.gcd d1 d2 * (d2 / Nat.gcd ((n2 * (d1 / Nat.gcd d1 d2)) - (n1 * (d2 / Nat.gcd d1 d2))) (Nat.gcd d1 d2)))) kz)
  have hqf := hqs.set2 (.slice az (ln (d1 / Nat.gcd d1 d2 * (d2 / Nat.gcd ((n2 * (d1 / Nat.gcd d1 d2)) - (n1 * (d2 / Nat.gcd d1 d2))) (Nat.gcd d1 d2)))) kz)
  replace HB := Lib.hid (((HB.out.trans (hBz.mono HB.out.size)).setCell (p := ⟨bs, 1, none⟩) HNE.out.2 (.slice ap (ln (((n2 * (d1 / Nat.gcd d1 d2)) - (n1 * (d2 / Nat.gcd d1 d2))) / Nat.gcd ((n2 * (d1 / Nat.gcd d1 d2)) - (n1 * (d2 / Nat.gcd d1 d2))) (Nat.gcd d1 d2))) kp)).setCell (p := ⟨bs, 2, none⟩) HNE.out.2 (.slice az (ln (d1 / Nat.gcd d1 d2 * (d2 / Nat.gcd ((n2 * (d1 / Nat.gcd d1 d2)) - (n1 * (d2 / Nat.gcd d1 d2))) (Nat.gcd d1 d2)))) kz))
  generalize (u10.setCell ⟨bs, 1, none⟩ (.slice ap (ln (((n2 * (d1 / Nat.gcd d1 d2)) - (n1 * (d2 / Nat.gcd d1 d2))) / Nat.gcd ((n2 * (d1 / Nat.gcd d1 d2)) - (n1 * (d2 / Nat.gcd d1 d2))) (Nat.gcd d1 d2))) kp)).setCell ⟨bs, 2, none⟩ (.slice az (ln (d1 / Nat.gcd d1 d2 * (d2 / Nat.gcd ((n2 * (d1 / Nat.gcd d1 d2)) - (n1 * (d2 / Nat.gcd d1 d2))) (Nat.gcd d1 d2)))) kz) = w11 at hnp hnz hq3 hqf HB ⊢
  have HNP := Lib.hid hnp
  have HNZ := Lib.hid hnz
  replace HQ3 := Lib.hid hq3
  have c0 := hqf.c0
  have c1 := hqf.c1
  have c2 := hqf.c2
  clear hqs hnp hnz hq3 hqf i0 i1 i2 j0 j1 j2 hvp hbp hBp hvq hbq hBq hvz hbz hBz hk1 hk2 hk3 HK HK1 HK2 hD7 HVr HVs HVl HY2 HQS HQ2
  go_wp2_with fail
  refine (normal_any (m := m2) (n := (((n2 * (d1 / Nat.gcd d1 d2)) - (n1 * (d2 / Nat.gcd d1 d2))) / Nat.gcd ((n2 * (d1 / Nat.gcd d1 d2)) - (n1 * (d2 / Nat.gcd d1 d2))) (Nat.gcd d1 d2))) (d := (d1 / Nat.gcd d1 d2 * (d2 / Nat.gcd ((n2 * (d1 / Nat.gcd d1 d2)) - (n1 * (d2 / Nat.gcd d1 d2))) (Nat.gcd d1 d2)))) HNP.out HNZ.out).mono ?_
  rintro e w12 ⟨rfl, hBn⟩
  have i0 := (HQ3.out.keep hBn).c0
  have i1 := (HQ3.out.keep hBn).c1
  have i2 := (HQ3.out.keep hBn).c2
  have j0 := (HQ3.out.keep hBn).z0
  have j1 := (HQ3.out.keep hBn).z1
  have j2 := (HQ3.out.keep hBn).z2
  have hq := (HQ3.out.keep hBn).st (m2 && !zeroB (((n2 * (d1 / Nat.gcd d1 d2)) - (n1 * (d2 / Nat.gcd d1 d2))) / Nat.gcd ((n2 * (d1 / Nat.gcd d1 d2)) - (n1 * (d2 / Nat.gcd d1 d2))) (Nat.gcd d1 d2))) (.slice ap (ln (((n2 * (d1 / Nat.gcd d1 d2)) - (n1 * (d2 / Nat.gcd d1 d2))) / Nat.gcd ((n2 * (d1 / Nat.gcd d1 d2)) - (n1 * (d2 / Nat.gcd d1 d2))) (Nat.gcd d1 d2))) kp) (.slice az (ln (d1 / Nat.gcd d1 d2 * (d2 / Nat.gcd ((n2 * (d1 / Nat.gcd d1 d2)) - (n1 * (d2 / Nat.gcd d1 d2))) (Nat.gcd d1 d2)))) kz)
  have hn1 := (HNP.out.below hBn).st3 i0 (m2 && !zeroB (((n2 * (d1 / Nat.gcd d1 d2)) - (n1 * (d2 / Nat.gcd d1 d2))) / Nat.gcd ((n2 * (d1 / Nat.gcd d1 d2)) - (n1 * (d2 / Nat.gcd d1 d2))) (Nat.gcd d1 d2))) (.slice ap (ln (((n2 * (d1 / Nat.gcd d1 d2)) - (n1 * (d2 / Nat.gcd d1 d2))) / Nat.gcd ((n2 * (d1 / Nat.gcd d1 d2)) - (n1 * (d2 / Nat.gcd d1 d2))) (Nat.gcd d1 d2))) kp) (.slice az (ln (d1 / Nat.gcd d1 d2 * (d2 / Nat.gcd ((n2 * (d1 / Nat.gcd d1 d2)) - (n1 * (d2 / Nat.gcd d1 d2))) (Nat.gcd d1 d2)))) kz)
  have hn2 := (HNZ.out.below hBn).st3 i0 (m2 && !zeroB (((n2 * (d1 / Nat.gcd d1 d2)) - (n1 * (d2 / Nat.gcd d1 d2))) / Nat.gcd ((n2 * (d1 / Nat.gcd d1 d2)) - (n1 * (d2 / Nat.gcd d1 d2))) (Nat.gcd d1 d2))) (.slice ap (ln (((n2 * (d1 / Nat.gcd d1 d2)) - (n1 * (d2 / Nat.gcd d1 d2))) / Nat.gcd ((n2 * (d1 / Nat.gcd d1 d2)) - (n1 * (d2 / Nat.gcd d1 d2))) (Nat.gcd d1 d2))) kp) (.slice az (ln (d1 / Nat.gcd d1 d2 * (d2 / Nat.gcd ((n2 * (d1 / Nat.gcd d1 d2)) - (n1 * (d2 / Nat.gcd d1 d2))) (Nat.gcd d1 d2)))) kz)
  have hbf := below_st3 (HB.out.trans (hBn.mono HB.out.size)) (show w.heap.size ≤ w.heap.size + 2 by omega) (m2 && !zeroB (((n2 * (d1 / Nat.gcd d1 d2)) - (n1 * (d2 / Nat.gcd d1 d2))) / Nat.gcd ((n2 * (d1 / Nat.gcd d1 d2)) - (n1 * (d2 / Nat.gcd d1 d2))) (Nat.gcd d1 d2))) (.slice ap (ln (((n2 * (d1 / Nat.gcd d1 d2)) - (n1 * (d2 / Nat.gcd d1 d2))) / Nat.gcd ((n2 * (d1 / Nat.gcd d1 d2)) - (n1 * (d2 / Nat.gcd d1 d2))) (Nat.gcd d1 d2))) kp) (.slice az (ln (d1 / Nat.gcd d1 d2 * (d2 / Nat.gcd ((n2 * (d1 / Nat.gcd d1 d2)) - (n1 * (d2 / Nat.gcd d1 d2))) (Nat.gcd d1 d2)))) kz)
  have HF := Lib.hid (And.intro hq (And.intro hn1 (And.intro hn2 hbf)))
  clear hq hn1 hn2 hbf hBn c0 c1 c2
  go_wp2_with fail
  exact bodyPost_ret (HF.out.1.resultP rfl) rfl ⟨_, rfl, ⟨_, _, rfl, HF.out.2.1, HF.out.2.2.1⟩, HF.out.2.2.2⟩)
end Go.Proofs.YtjpepjooefkbkaaGreatDoor
