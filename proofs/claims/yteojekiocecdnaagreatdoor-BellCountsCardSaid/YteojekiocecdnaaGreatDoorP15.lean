/-
  exact.Fraction's Inverse, Magnitude, Power; Reduced.
-/
import Derived.Test.YteojekiocecdnaaGreatDoorHA
import Derived.Test.YteojekiocecdnaaGreatDoorGJ
namespace Go.Proofs.YteojekiocecdnaaGreatDoor
open Go.RowKit NV
open Go.Lib (decDigits)

/-- Two fractions laid. -/
theorem two_frac (w : World) (m1 m2 : Bool) (x1 y1 x2 y2 : Value) :
    Below w.heap.size w ((w.alloc (.cells #[.bool m1, x1, y1] 192)).alloc (.cells #[.bool m2, x2, y2] 192)) ∧
    FR ((w.alloc (.cells #[.bool m1, x1, y1] 192)).alloc (.cells #[.bool m2, x2, y2] 192)) w.heap.size m1 x1 y1 ∧
    FR ((w.alloc (.cells #[.bool m1, x1, y1] 192)).alloc (.cells #[.bool m2, x2, y2] 192)) (w.heap.size + 1) m2 x2 y2 := by
  have h1 := FR.new w m1 x1 y1
  have s1 : (w.alloc (.cells #[.bool m1, x1, y1] 192)).heap.size = w.heap.size + 1 := by simp
  have b1 : Below w.heap.size w (w.alloc (.cells #[.bool m1, x1, y1] 192)) := (Below.refl _ _).alloc (Nat.le_refl _) _
  generalize w.alloc (.cells #[.bool m1, x1, y1] 192) = w1 at *
  have h2 := FR.new w1 m2 x2 y2
  have b2 : Below w1.heap.size w1 (w1.alloc (.cells #[.bool m2, x2, y2] 192)) := (Below.refl _ _).alloc (Nat.le_refl _) _
  exact ⟨b1.trans (b2.mono (by omega)), h1.keep b2, by rw [← s1]; exact h2⟩

theorem FR.resultR {w : World} {b : Nat} {m : Bool} {n d : Value} {tmps : Array Value} (h : FR w b m n d) (ht : tmps.getD 6 undef = .pointer (some ⟨b, 0, none⟩)) : (results Tryz.f166 tmps).run Tryz.prog w = .ok (.agg #[.bool m, n, d]) w := by
  have hl := h.load
  have ht' : tmps[6]?.getD undef = .pointer (some ⟨b, 0, none⟩) := by rw [← ht]; simp
  simp [results, ht', asAddr, hl]

set_option maxHeartbeats 3200000 in
set_option maxRecDepth 100000 in
/-- Reduced returns a fraction in lowest terms. -/
theorem reduced_any {w : World} {m : Bool} {x y : Value} {n d : Nat} (hx : Num w x n) (hy : Num w y d) (l1 : ln n ≤ 1000000) (l2 : ln d ≤ 1000000) (g1 : d ≠ 0) :
    Calls Tryz.prog 166 #[.bool m, x, y] w fun e w' => ∃ v, e = .returned v ∧ FNum w' v (m && !zeroB (n / Nat.gcd n d)) (n / Nat.gcd n d) (d / Nat.gcd n d) ∧ Below w.heap.size w w' := by
  have p1 : Nat.gcd n d ≠ 0 := Nat.ne_of_gt (Nat.gcd_pos_of_pos_right _ (Nat.pos_of_ne_zero g1))
  have HL := Lib.hid (show ln n ≤ 1000000 ∧ ln d ≤ 1000000 ∧ ln (Nat.gcd n d) ≤ 1000000 ∧ Nat.gcd n d ≠ 0 from ⟨l1, l2, gcd_ln l1 l2, p1⟩)
  obtain ⟨a1, k1, rfl⟩ := slice_any hx
  obtain ⟨a2, k2, rfl⟩ := slice_any hy
  have hb0 : Below w.heap.size w (w.alloc (.cells #[.bool false, .slice none 0 0, .slice none 0 0] 192)) := (Below.refl _ _).alloc (Nat.le_refl _) _
  have HQ := Lib.hid (FR.new w false (.slice none 0 0) (.slice none 0 0))
  have HX := Lib.hid (hx.below hb0)
  have HY := Lib.hid (hy.below hb0)
  have HB := Lib.hid hb0
  clear hx hy hb0 l1 l2 g1 p1
  go_enter Tryz.func166, Tryz.ntmps166
  go_wp2_with fail
  generalize w.alloc (.cells #[.bool false, .slice none 0 0, .slice none 0 0] 192) = w0 at HQ HX HY HB ⊢
  refine (gcd_any HX.out HY.out HL.out.1 HL.out.2.1).mono ?_
  rintro e w1 ⟨vg, rfl, hvg, hb1⟩
  obtain ⟨ag, kg, rfl⟩ := slice_any hvg
  replace HX := Lib.hid (HX.out.below hb1)
  replace HY := Lib.hid (HY.out.below hb1)
  replace HQ := Lib.hid (HQ.out.keep hb1)
  replace HB := Lib.hid (HB.out.trans (hb1.mono HB.out.size))
  have HG := Lib.hid hvg
  clear hvg hb1
  go_wp2_with fail
  refine (over_any HX.out HG.out HL.out.1 HL.out.2.2.1 HL.out.2.2.2).mono ?_
  rintro e w2 ⟨vp, rfl, hvp, hb2⟩
  obtain ⟨ap, kp, rfl⟩ := slice_any hvp
  replace HY := Lib.hid (HY.out.below hb2)
  replace HG := Lib.hid (HG.out.below hb2)
  replace HQ := Lib.hid (HQ.out.keep hb2)
  replace HB := Lib.hid (HB.out.trans (hb2.mono HB.out.size))
  have HVP := Lib.hid hvp
  clear hvp hb2 HX
  go_wp2_with fail
  refine (over_any HY.out HG.out HL.out.2.1 HL.out.2.2.1 HL.out.2.2.2).mono ?_
  rintro e w3 ⟨vq, rfl, hvq, hb3⟩
  obtain ⟨aq, kq, rfl⟩ := slice_any hvq
  replace HVP := Lib.hid (HVP.out.below hb3)
  replace HQ := Lib.hid (HQ.out.keep hb3)
  replace HB := Lib.hid (HB.out.trans (hb3.mono HB.out.size))
  have HVQ := Lib.hid hvq
  clear hvq hb3 HY HG
  go_wp2_with fail
  refine (normal_any (m := m) HVP.out HVQ.out).mono ?_
  rintro e w4 ⟨rfl, hb4⟩
  have i0 := (HQ.out.keep hb4).c0
  have i1 := (HQ.out.keep hb4).c1
  have i2 := (HQ.out.keep hb4).c2
  have j0 := (HQ.out.keep hb4).z0
  have j1 := (HQ.out.keep hb4).z1
  have j2 := (HQ.out.keep hb4).z2
  have hq := (HQ.out.keep hb4).st (m && !zeroB (n / Nat.gcd n d)) (.slice ap (ln (n / Nat.gcd n d)) kp) (.slice aq (ln (d / Nat.gcd n d)) kq)
  have hn1 := (HVP.out.below hb4).st3 i0 (m && !zeroB (n / Nat.gcd n d)) (.slice ap (ln (n / Nat.gcd n d)) kp) (.slice aq (ln (d / Nat.gcd n d)) kq)
  have hn2 := (HVQ.out.below hb4).st3 i0 (m && !zeroB (n / Nat.gcd n d)) (.slice ap (ln (n / Nat.gcd n d)) kp) (.slice aq (ln (d / Nat.gcd n d)) kq)
  have hbf := below_st3 (HB.out.trans (hb4.mono HB.out.size)) (Nat.le_refl w.heap.size) (m && !zeroB (n / Nat.gcd n d)) (.slice ap (ln (n / Nat.gcd n d)) kp) (.slice aq (ln (d / Nat.gcd n d)) kq)
  have HF := Lib.hid (And.intro hq (And.intro hn1 (And.intro hn2 hbf)))
  clear hq hn1 hn2 hbf hb4
  go_wp2_with fail
  exact bodyPost_ret (HF.out.1.resultR rfl) rfl ⟨_, rfl, ⟨_, _, rfl, HF.out.2.1, HF.out.2.2.1⟩, HF.out.2.2.2⟩

/-- What Power returns. -/
def PRet (m : Bool) (n d k : Nat) (w : World) (e : Ending) : Prop := ∃ m' a1 L1 k1 a2 L2 k2, e = .returned (.tuple #[.agg #[.bool m', .slice a1 L1 k1, .slice a2 L2 k2], .bool (fitB (n ^ k) && fitB (d ^ k))]) ∧
  (Ok (n ^ k) → Ok (d ^ k) → m' = (m && decide (k % 2 = 1)) ∧ Num w (.slice a1 L1 k1) (n ^ k) ∧ Num w (.slice a2 L2 k2) (d ^ k))

end Go.Proofs.YteojekiocecdnaaGreatDoor
