/-
  exact.Fraction's Sign and Compare.
-/
import Derived.Test.YtadkijaofmcgfaaGreatDoorP15
import Derived.Test.YtadkijaofmcgfaaGreatDoorP16
namespace Go.Proofs.YtadkijaofmcgfaaGreatDoor
open Go.RowKit NV

/-- The sign of a fraction. -/
def sgnF (m : Bool) (n : Nat) : Int := if n = 0 then 0 else if m then -1 else 1

set_option maxHeartbeats 1600000 in
theorem fsign_any {w : World} {m : Bool} {x y : Value} {n d : Nat} (hx : Num w x n) (hy : Num w y d) :
    Calls Tryz.prog 90 #[.agg #[.bool m, x, y]] w fun e w' => e = .returned (.int .i64 (sgnF m n)) ∧ Below w.heap.size w w' := by
  obtain ⟨a1, k1, rfl⟩ := slice_any hx
  obtain ⟨a2, k2, rfl⟩ := slice_any hy
  have hb0 : Below w.heap.size w (w.alloc (.cells #[.bool m, .slice a1 (ln n) k1, .slice a2 (ln d) k2] 49)) := (Below.refl _ _).alloc (Nat.le_refl _) _
  have HZ := Lib.hid (fzero_any (m := m) (hx.below hb0) (hy.below hb0))
  have HQ := Lib.hid (FR.new w m (.slice a1 (ln n) k1) (.slice a2 (ln d) k2))
  have HB := Lib.hid hb0
  by_cases hn : n = 0
  · have HR := Lib.hid (show sgnF m n = 0 by rw [sgnF, if_pos hn])
    rw [show zeroB n = true from decide_eq_true hn] at HZ
    clear hx hy hb0 hn
    go_enter Tryz.func90, Tryz.ntmps90
    go_wp2_with fail
    refine HZ.out.mono ?_
    rintro e w1 ⟨rfl, hb1⟩
    replace HB := Lib.hid (HB.out.trans (hb1.mono HB.out.size))
    clear hb1
    go_wp2_with fail
    go_ret
    exact ⟨by rw [HR.out]; rfl, HB.out⟩
  · have HR := Lib.hid (show sgnF m n = if m then -1 else 1 by rw [sgnF, if_neg hn])
    rw [show zeroB n = false from decide_eq_false hn] at HZ
    clear hx hy hb0 hn
    go_enter Tryz.func90, Tryz.ntmps90
    go_wp2_with fail
    refine HZ.out.mono ?_
    rintro e w1 ⟨rfl, hb1⟩
    have c0 := (HQ.out.keep hb1).c0
    replace HB := Lib.hid (HB.out.trans (hb1.mono HB.out.size))
    clear hb1
    cases m with
    | false =>
      go_wp2_with fail
      go_ret
      exact ⟨by rw [HR.out]; rfl, HB.out⟩
    | true =>
      go_wp2_with fail
      go_ret
      exact ⟨by rw [HR.out]; rfl, HB.out⟩

/-- How two fractions compare. -/
def cmpF (m1 : Bool) (n1 d1 : Nat) (m2 : Bool) (n2 d2 : Nat) : Int :=
  if sgnF m1 n1 = sgnF m2 n2 then (if m1 then cmpN (n2 * d1) (n1 * d2) else cmpN (n1 * d2) (n2 * d1)) else Lib.compareInt (sgnF m1 n1) (sgnF m2 n2)

/-- A contract's worlds told from an earlier one. -/
theorem lift_0 {f : Nat} {args : Array Value} {w0 W : World} {v : Value} (h0 : Below w0.heap.size w0 W) (hc : Calls Tryz.prog f args W fun e w' => e = .returned v ∧ Below W.heap.size W w') :
    Calls Tryz.prog f args W fun e w' => e = .returned v ∧ Below W.heap.size W w' ∧ Below w0.heap.size w0 w' :=
  hc.mono fun _ _ ⟨h1, h3⟩ => ⟨h1, h3, h0.trans (h3.mono h0.size)⟩

set_option maxHeartbeats 6400000 in
set_option maxRecDepth 100000 in
theorem fcmp_D {w : World} {m1 m2 : Bool} {x1 y1 x2 y2 : Value} {n1 d1 n2 d2 : Nat} (hx1 : Num w x1 n1) (hy1 : Num w y1 d1) (hx2 : Num w x2 n2) (hy2 : Num w y2 d2)
    (l1 : ln n1 ≤ 100000) (l2 : ln d1 ≤ 100000) (l3 : ln n2 ≤ 100000) (l4 : ln d2 ≤ 100000) (hs : sgnF m1 n1 ≠ sgnF m2 n2) :
    Calls Tryz.prog 79 #[.agg #[.bool m1, x1, y1], .agg #[.bool m2, x2, y2]] w fun e w' => e = .returned (.int .i64 (Lib.compareInt (sgnF m1 n1) (sgnF m2 n2))) ∧ Below w.heap.size w w' := by
  obtain ⟨a1, k1, rfl⟩ := slice_any hx1
  obtain ⟨a2, k2, rfl⟩ := slice_any hy1
  obtain ⟨a3, k3, rfl⟩ := slice_any hx2
  obtain ⟨a4, k4, rfl⟩ := slice_any hy2
  obtain ⟨hb0, hq1, hq2⟩ := two_frac w m1 m2 (.slice a1 (ln n1) k1) (.slice a2 (ln d1) k2) (.slice a3 (ln n2) k3) (.slice a4 (ln d2) k4)
  have HX1 := Lib.hid (hx1.below hb0)
  have HY1 := Lib.hid (hy1.below hb0)
  have HX2 := Lib.hid (hx2.below hb0)
  have HY2 := Lib.hid (hy2.below hb0)
  have HB := Lib.hid hb0
  have HQ1 := Lib.hid hq1
  have HQ2 := Lib.hid hq2
  have HL := Lib.hid (show ln n1 ≤ 2000000 ∧ ln d1 ≤ 2000000 ∧ ln n2 ≤ 2000000 ∧ ln d2 ≤ 2000000 by omega)
  have HM := Lib.hid (show ln (n1 * d2) ≤ 1073741824 ∧ ln (n2 * d1) ≤ 1073741824 from ⟨Nat.le_trans (ln_mul l1 l4) (by omega), Nat.le_trans (ln_mul l3 l2) (by omega)⟩)
  obtain ⟨s1, hs1⟩ : ∃ s, s = sgnF m1 n1 := ⟨_, rfl⟩
  obtain ⟨s2, hs2⟩ : ∃ s, s = sgnF m2 n2 := ⟨_, rfl⟩
  rw [← hs1, ← hs2] at hs ⊢
  have HSI := Lib.hid (And.intro hs1 hs2)
  have hss : (s1 == s2) = false := by rw [beq_eq_false_iff_ne]; exact hs
  clear hx1 hy1 hx2 hy2 hb0 hq1 hq2 l1 l2 l3 l4 hs hs1 hs2
  go_enter Tryz.func79, Tryz.ntmps79
  go_wp2_with fail
  generalize (w.alloc (.cells #[.bool m1, .slice a1 (ln n1) k1, .slice a2 (ln d1) k2] 49)).alloc (.cells #[.bool m2, .slice a3 (ln n2) k3, .slice a4 (ln d2) k4] 49) = w0 at HX1 HY1 HX2 HY2 HB HQ1 HQ2 ⊢
  have HS_w0 := Lib.hid (show ∀ W, Below w0.heap.size w0 W → W.cell? ⟨w.heap.size, 0, none⟩ = some (.bool m1) ∧ W.cell? ⟨w.heap.size, 1, none⟩ = some (.slice a1 (ln n1) k1) ∧ W.cell? ⟨w.heap.size, 2, none⟩ = some (.slice a2 (ln d1) k2) ∧ W.cell? ⟨w.heap.size + 1, 0, none⟩ = some (.bool m2) ∧ W.cell? ⟨w.heap.size + 1, 1, none⟩ = some (.slice a3 (ln n2) k3) ∧ W.cell? ⟨w.heap.size + 1, 2, none⟩ = some (.slice a4 (ln d2) k4) from fun W h =>
      ⟨(HQ1.out.keep h).c0, (HQ1.out.keep h).c1, (HQ1.out.keep h).c2, (HQ2.out.keep h).c0, (HQ2.out.keep h).c1, (HQ2.out.keep h).c2⟩)
  have hD_w0 := (Below.refl w0.heap.size w0).drew
  go_region_held3 (fun W => W.cell? ⟨w.heap.size, 0, none⟩ = some (.bool m1) ∧ W.cell? ⟨w.heap.size, 1, none⟩ = some (.slice a1 (ln n1) k1) ∧ W.cell? ⟨w.heap.size, 2, none⟩ = some (.slice a2 (ln d1) k2) ∧ W.cell? ⟨w.heap.size + 1, 0, none⟩ = some (.bool m2) ∧ W.cell? ⟨w.heap.size + 1, 1, none⟩ = some (.slice a3 (ln n2) k3) ∧ W.cell? ⟨w.heap.size + 1, 2, none⟩ = some (.slice a4 (ln d2) k4))
    (first | exact HS_w0.out _ hD_w0 | exact HS_w0.out _ (by assumption))
    (first
      | (go_at_call_of 90 (Value.agg #[.bool m1, .slice a1 (ln n1) k1, .slice a2 (ln d1) k2]); refine (lift_0 (w0 := w0) (by assumption) (HSI.out.1 ▸ fsign_any (m := m1) (n := n1) (HX1.out.below (by assumption)) (HY1.out.below (by assumption)))).mono ?_; rintro e u1 ⟨rfl, hbu1, hBu1⟩)
      | (go_at_call_of 90 (Value.agg #[.bool m2, .slice a3 (ln n2) k3, .slice a4 (ln d2) k4]); refine (lift_0 (w0 := w0) (by assumption) (HSI.out.2 ▸ fsign_any (m := m2) (n := n2) (HX2.out.below (by assumption)) (HY2.out.below (by assumption)))).mono ?_; rintro e u2 ⟨rfl, hbu2, hBu2⟩))
  replace HX1 := Lib.hid (HX1.out.below hBu2)
  replace HY1 := Lib.hid (HY1.out.below hBu2)
  replace HX2 := Lib.hid (HX2.out.below hBu2)
  replace HY2 := Lib.hid (HY2.out.below hBu2)
  replace HQ1 := Lib.hid (HQ1.out.keep hBu2)
  replace HQ2 := Lib.hid (HQ2.out.keep hBu2)
  replace HB := Lib.hid (HB.out.trans (hBu2.mono HB.out.size))
  clear hbu1 hBu1 hbu2 hBu2 hD_w0 HS_w0
  go_wp2_with fail
  have HS_u2 := Lib.hid (show ∀ W, Below u2.heap.size u2 W → W.cell? ⟨w.heap.size, 0, none⟩ = some (.bool m1) ∧ W.cell? ⟨w.heap.size, 1, none⟩ = some (.slice a1 (ln n1) k1) ∧ W.cell? ⟨w.heap.size, 2, none⟩ = some (.slice a2 (ln d1) k2) ∧ W.cell? ⟨w.heap.size + 1, 0, none⟩ = some (.bool m2) ∧ W.cell? ⟨w.heap.size + 1, 1, none⟩ = some (.slice a3 (ln n2) k3) ∧ W.cell? ⟨w.heap.size + 1, 2, none⟩ = some (.slice a4 (ln d2) k4) from fun W h =>
      ⟨(HQ1.out.keep h).c0, (HQ1.out.keep h).c1, (HQ1.out.keep h).c2, (HQ2.out.keep h).c0, (HQ2.out.keep h).c1, (HQ2.out.keep h).c2⟩)
  have hD_u2 := (Below.refl u2.heap.size u2).drew
  go_region_held3 (fun W => W.cell? ⟨w.heap.size, 0, none⟩ = some (.bool m1) ∧ W.cell? ⟨w.heap.size, 1, none⟩ = some (.slice a1 (ln n1) k1) ∧ W.cell? ⟨w.heap.size, 2, none⟩ = some (.slice a2 (ln d1) k2) ∧ W.cell? ⟨w.heap.size + 1, 0, none⟩ = some (.bool m2) ∧ W.cell? ⟨w.heap.size + 1, 1, none⟩ = some (.slice a3 (ln n2) k3) ∧ W.cell? ⟨w.heap.size + 1, 2, none⟩ = some (.slice a4 (ln d2) k4))
    (first | exact HS_u2.out _ hD_u2 | exact HS_u2.out _ (by assumption))
    (first
      | (go_at_call_of 90 (Value.agg #[.bool m1, .slice a1 (ln n1) k1, .slice a2 (ln d1) k2]); refine (lift_0 (w0 := u2) (by assumption) (HSI.out.1 ▸ fsign_any (m := m1) (n := n1) (HX1.out.below (by assumption)) (HY1.out.below (by assumption)))).mono ?_; rintro e u3 ⟨rfl, hbu3, hBu3⟩)
      | (go_at_call_of 90 (Value.agg #[.bool m2, .slice a3 (ln n2) k3, .slice a4 (ln d2) k4]); refine (lift_0 (w0 := u2) (by assumption) (HSI.out.2 ▸ fsign_any (m := m2) (n := n2) (HX2.out.below (by assumption)) (HY2.out.below (by assumption)))).mono ?_; rintro e u4 ⟨rfl, hbu4, hBu4⟩)
      | (go_at_call 139; refine (Tryz.cmp_Compare_int _ _ _).mono ?_; rintro e u5 ⟨rfl, hw5⟩; subst hw5))
  replace HX1 := Lib.hid (HX1.out.below hBu4)
  replace HY1 := Lib.hid (HY1.out.below hBu4)
  replace HX2 := Lib.hid (HX2.out.below hBu4)
  replace HY2 := Lib.hid (HY2.out.below hBu4)
  replace HQ1 := Lib.hid (HQ1.out.keep hBu4)
  replace HQ2 := Lib.hid (HQ2.out.keep hBu4)
  replace HB := Lib.hid (HB.out.trans (hBu4.mono HB.out.size))
  clear hbu3 hBu3 hbu4 hBu4 hD_u2 HS_u2
  go_wp2_with fail
  go_ret
  exact ⟨rfl, HB.out⟩

set_option maxHeartbeats 6400000 in
set_option maxRecDepth 100000 in
theorem fcmp_P {w : World} {m1 m2 : Bool} {x1 y1 x2 y2 : Value} {n1 d1 n2 d2 : Nat} (hx1 : Num w x1 n1) (hy1 : Num w y1 d1) (hx2 : Num w x2 n2) (hy2 : Num w y2 d2)
    (l1 : ln n1 ≤ 100000) (l2 : ln d1 ≤ 100000) (l3 : ln n2 ≤ 100000) (l4 : ln d2 ≤ 100000) (hs : sgnF m1 n1 = sgnF m2 n2) (hm : m1 = false) :
    Calls Tryz.prog 79 #[.agg #[.bool m1, x1, y1], .agg #[.bool m2, x2, y2]] w fun e w' => e = .returned (.int .i64 (cmpN (n1 * d2) (n2 * d1))) ∧ Below w.heap.size w w' := by
  subst hm
  obtain ⟨a1, k1, rfl⟩ := slice_any hx1
  obtain ⟨a2, k2, rfl⟩ := slice_any hy1
  obtain ⟨a3, k3, rfl⟩ := slice_any hx2
  obtain ⟨a4, k4, rfl⟩ := slice_any hy2
  obtain ⟨hb0, hq1, hq2⟩ := two_frac w false m2 (.slice a1 (ln n1) k1) (.slice a2 (ln d1) k2) (.slice a3 (ln n2) k3) (.slice a4 (ln d2) k4)
  have HX1 := Lib.hid (hx1.below hb0)
  have HY1 := Lib.hid (hy1.below hb0)
  have HX2 := Lib.hid (hx2.below hb0)
  have HY2 := Lib.hid (hy2.below hb0)
  have HB := Lib.hid hb0
  have HQ1 := Lib.hid hq1
  have HQ2 := Lib.hid hq2
  have HL := Lib.hid (show ln n1 ≤ 2000000 ∧ ln d1 ≤ 2000000 ∧ ln n2 ≤ 2000000 ∧ ln d2 ≤ 2000000 by omega)
  have HM := Lib.hid (show ln (n1 * d2) ≤ 1073741824 ∧ ln (n2 * d1) ≤ 1073741824 from ⟨Nat.le_trans (ln_mul l1 l4) (by omega), Nat.le_trans (ln_mul l3 l2) (by omega)⟩)
  obtain ⟨s1, hs1⟩ : ∃ s, s = sgnF false n1 := ⟨_, rfl⟩
  obtain ⟨s2, hs2⟩ : ∃ s, s = sgnF m2 n2 := ⟨_, rfl⟩
  rw [← hs1, ← hs2] at hs 
  have HSI := Lib.hid (And.intro hs1 hs2)
  have hss : (s1 == s2) = true := by rw [beq_iff_eq]; exact hs
  clear hx1 hy1 hx2 hy2 hb0 hq1 hq2 l1 l2 l3 l4 hs hs1 hs2
  go_enter Tryz.func79, Tryz.ntmps79
  go_wp2_with fail
  generalize (w.alloc (.cells #[.bool false, .slice a1 (ln n1) k1, .slice a2 (ln d1) k2] 49)).alloc (.cells #[.bool m2, .slice a3 (ln n2) k3, .slice a4 (ln d2) k4] 49) = w0 at HX1 HY1 HX2 HY2 HB HQ1 HQ2 ⊢
  have HS_w0 := Lib.hid (show ∀ W, Below w0.heap.size w0 W → W.cell? ⟨w.heap.size, 0, none⟩ = some (.bool false) ∧ W.cell? ⟨w.heap.size, 1, none⟩ = some (.slice a1 (ln n1) k1) ∧ W.cell? ⟨w.heap.size, 2, none⟩ = some (.slice a2 (ln d1) k2) ∧ W.cell? ⟨w.heap.size + 1, 0, none⟩ = some (.bool m2) ∧ W.cell? ⟨w.heap.size + 1, 1, none⟩ = some (.slice a3 (ln n2) k3) ∧ W.cell? ⟨w.heap.size + 1, 2, none⟩ = some (.slice a4 (ln d2) k4) from fun W h =>
      ⟨(HQ1.out.keep h).c0, (HQ1.out.keep h).c1, (HQ1.out.keep h).c2, (HQ2.out.keep h).c0, (HQ2.out.keep h).c1, (HQ2.out.keep h).c2⟩)
  have hD_w0 := (Below.refl w0.heap.size w0).drew
  go_region_held3 (fun W => W.cell? ⟨w.heap.size, 0, none⟩ = some (.bool false) ∧ W.cell? ⟨w.heap.size, 1, none⟩ = some (.slice a1 (ln n1) k1) ∧ W.cell? ⟨w.heap.size, 2, none⟩ = some (.slice a2 (ln d1) k2) ∧ W.cell? ⟨w.heap.size + 1, 0, none⟩ = some (.bool m2) ∧ W.cell? ⟨w.heap.size + 1, 1, none⟩ = some (.slice a3 (ln n2) k3) ∧ W.cell? ⟨w.heap.size + 1, 2, none⟩ = some (.slice a4 (ln d2) k4))
    (first | exact HS_w0.out _ hD_w0 | exact HS_w0.out _ (by assumption))
    (first
      | (go_at_call_of 90 (Value.agg #[.bool false, .slice a1 (ln n1) k1, .slice a2 (ln d1) k2]); refine (lift_0 (w0 := w0) (by assumption) (HSI.out.1 ▸ fsign_any (m := false) (n := n1) (HX1.out.below (by assumption)) (HY1.out.below (by assumption)))).mono ?_; rintro e u1 ⟨rfl, hbu1, hBu1⟩)
      | (go_at_call_of 90 (Value.agg #[.bool m2, .slice a3 (ln n2) k3, .slice a4 (ln d2) k4]); refine (lift_0 (w0 := w0) (by assumption) (HSI.out.2 ▸ fsign_any (m := m2) (n := n2) (HX2.out.below (by assumption)) (HY2.out.below (by assumption)))).mono ?_; rintro e u2 ⟨rfl, hbu2, hBu2⟩))
  replace HX1 := Lib.hid (HX1.out.below hBu2)
  replace HY1 := Lib.hid (HY1.out.below hBu2)
  replace HX2 := Lib.hid (HX2.out.below hBu2)
  replace HY2 := Lib.hid (HY2.out.below hBu2)
  replace HQ1 := Lib.hid (HQ1.out.keep hBu2)
  replace HQ2 := Lib.hid (HQ2.out.keep hBu2)
  replace HB := Lib.hid (HB.out.trans (hBu2.mono HB.out.size))
  clear hbu1 hBu1 hbu2 hBu2 hD_w0 HS_w0
  go_wp2_with fail
  have c0 := HQ1.out.c0
  go_wp2_with fail
  clear c0
  have HS_u2 := Lib.hid (show ∀ W, Below u2.heap.size u2 W → W.cell? ⟨w.heap.size, 0, none⟩ = some (.bool false) ∧ W.cell? ⟨w.heap.size, 1, none⟩ = some (.slice a1 (ln n1) k1) ∧ W.cell? ⟨w.heap.size, 2, none⟩ = some (.slice a2 (ln d1) k2) ∧ W.cell? ⟨w.heap.size + 1, 0, none⟩ = some (.bool m2) ∧ W.cell? ⟨w.heap.size + 1, 1, none⟩ = some (.slice a3 (ln n2) k3) ∧ W.cell? ⟨w.heap.size + 1, 2, none⟩ = some (.slice a4 (ln d2) k4) from fun W h =>
      ⟨(HQ1.out.keep h).c0, (HQ1.out.keep h).c1, (HQ1.out.keep h).c2, (HQ2.out.keep h).c0, (HQ2.out.keep h).c1, (HQ2.out.keep h).c2⟩)
  have hD_u2 := (Below.refl u2.heap.size u2).drew
  go_region_held3 (fun W => W.cell? ⟨w.heap.size, 0, none⟩ = some (.bool false) ∧ W.cell? ⟨w.heap.size, 1, none⟩ = some (.slice a1 (ln n1) k1) ∧ W.cell? ⟨w.heap.size, 2, none⟩ = some (.slice a2 (ln d1) k2) ∧ W.cell? ⟨w.heap.size + 1, 0, none⟩ = some (.bool m2) ∧ W.cell? ⟨w.heap.size + 1, 1, none⟩ = some (.slice a3 (ln n2) k3) ∧ W.cell? ⟨w.heap.size + 1, 2, none⟩ = some (.slice a4 (ln d2) k4))
    (first | exact HS_u2.out _ hD_u2 | exact HS_u2.out _ (by assumption))
    (first
      | (go_at_call_of 128 (Value.slice a1 (ln n1) k1); refine (lift_num (w0 := u2) (by assumption) (times_any (a := n1) (b := d2) (HX1.out.below (by assumption)) (HY2.out.below (by assumption)) HL.out.1 HL.out.2.2.2)).mono ?_; rintro e u7 ⟨vp, rfl, hvp, hbp, hBp⟩; obtain ⟨ap, kp, rfl⟩ := slice_any hvp)
      | (go_at_call_of 128 (Value.slice a3 (ln n2) k3); refine (lift_num (w0 := u2) (by assumption) (times_any (a := n2) (b := d1) (HX2.out.below (by assumption)) (HY1.out.below (by assumption)) HL.out.2.2.1 HL.out.2.1)).mono ?_; rintro e u8 ⟨vq, rfl, hvq, hbq, hBq⟩; obtain ⟨aq, kq, rfl⟩ := slice_any hvq)
      | (go_at_call 130; refine (lift_0 (w0 := u2) (by assumption) (ncmp_any (a := n1 * d2) (b := n2 * d1) (hvp.below hbq) hvq HM.out.1 HM.out.2)).mono ?_; rintro e u9 ⟨rfl, hbu9, hBu9⟩))
  replace HB := Lib.hid (HB.out.trans (hBu9.mono HB.out.size))
  clear hbu9 hBu9 hvp hbp hBp hvq hbq hBq hD_u2 HS_u2
  go_wp2_with fail
  go_ret
  exact ⟨rfl, HB.out⟩

set_option maxHeartbeats 6400000 in
set_option maxRecDepth 100000 in
theorem fcmp_M {w : World} {m1 m2 : Bool} {x1 y1 x2 y2 : Value} {n1 d1 n2 d2 : Nat} (hx1 : Num w x1 n1) (hy1 : Num w y1 d1) (hx2 : Num w x2 n2) (hy2 : Num w y2 d2)
    (l1 : ln n1 ≤ 100000) (l2 : ln d1 ≤ 100000) (l3 : ln n2 ≤ 100000) (l4 : ln d2 ≤ 100000) (hs : sgnF m1 n1 = sgnF m2 n2) (hm : m1 = true) :
    Calls Tryz.prog 79 #[.agg #[.bool m1, x1, y1], .agg #[.bool m2, x2, y2]] w fun e w' => e = .returned (.int .i64 (cmpN (n2 * d1) (n1 * d2))) ∧ Below w.heap.size w w' := by
  subst hm
  obtain ⟨a1, k1, rfl⟩ := slice_any hx1
  obtain ⟨a2, k2, rfl⟩ := slice_any hy1
  obtain ⟨a3, k3, rfl⟩ := slice_any hx2
  obtain ⟨a4, k4, rfl⟩ := slice_any hy2
  obtain ⟨hb0, hq1, hq2⟩ := two_frac w true m2 (.slice a1 (ln n1) k1) (.slice a2 (ln d1) k2) (.slice a3 (ln n2) k3) (.slice a4 (ln d2) k4)
  have HX1 := Lib.hid (hx1.below hb0)
  have HY1 := Lib.hid (hy1.below hb0)
  have HX2 := Lib.hid (hx2.below hb0)
  have HY2 := Lib.hid (hy2.below hb0)
  have HB := Lib.hid hb0
  have HQ1 := Lib.hid hq1
  have HQ2 := Lib.hid hq2
  have HL := Lib.hid (show ln n1 ≤ 2000000 ∧ ln d1 ≤ 2000000 ∧ ln n2 ≤ 2000000 ∧ ln d2 ≤ 2000000 by omega)
  have HM := Lib.hid (show ln (n1 * d2) ≤ 1073741824 ∧ ln (n2 * d1) ≤ 1073741824 from ⟨Nat.le_trans (ln_mul l1 l4) (by omega), Nat.le_trans (ln_mul l3 l2) (by omega)⟩)
  obtain ⟨s1, hs1⟩ : ∃ s, s = sgnF true n1 := ⟨_, rfl⟩
  obtain ⟨s2, hs2⟩ : ∃ s, s = sgnF m2 n2 := ⟨_, rfl⟩
  rw [← hs1, ← hs2] at hs 
  have HSI := Lib.hid (And.intro hs1 hs2)
  have hss : (s1 == s2) = true := by rw [beq_iff_eq]; exact hs
  clear hx1 hy1 hx2 hy2 hb0 hq1 hq2 l1 l2 l3 l4 hs hs1 hs2
  go_enter Tryz.func79, Tryz.ntmps79
  go_wp2_with fail
  generalize (w.alloc (.cells #[.bool true, .slice a1 (ln n1) k1, .slice a2 (ln d1) k2] 49)).alloc (.cells #[.bool m2, .slice a3 (ln n2) k3, .slice a4 (ln d2) k4] 49) = w0 at HX1 HY1 HX2 HY2 HB HQ1 HQ2 ⊢
  have HS_w0 := Lib.hid (show ∀ W, Below w0.heap.size w0 W → W.cell? ⟨w.heap.size, 0, none⟩ = some (.bool true) ∧ W.cell? ⟨w.heap.size, 1, none⟩ = some (.slice a1 (ln n1) k1) ∧ W.cell? ⟨w.heap.size, 2, none⟩ = some (.slice a2 (ln d1) k2) ∧ W.cell? ⟨w.heap.size + 1, 0, none⟩ = some (.bool m2) ∧ W.cell? ⟨w.heap.size + 1, 1, none⟩ = some (.slice a3 (ln n2) k3) ∧ W.cell? ⟨w.heap.size + 1, 2, none⟩ = some (.slice a4 (ln d2) k4) from fun W h =>
      ⟨(HQ1.out.keep h).c0, (HQ1.out.keep h).c1, (HQ1.out.keep h).c2, (HQ2.out.keep h).c0, (HQ2.out.keep h).c1, (HQ2.out.keep h).c2⟩)
  have hD_w0 := (Below.refl w0.heap.size w0).drew
  go_region_held3 (fun W => W.cell? ⟨w.heap.size, 0, none⟩ = some (.bool true) ∧ W.cell? ⟨w.heap.size, 1, none⟩ = some (.slice a1 (ln n1) k1) ∧ W.cell? ⟨w.heap.size, 2, none⟩ = some (.slice a2 (ln d1) k2) ∧ W.cell? ⟨w.heap.size + 1, 0, none⟩ = some (.bool m2) ∧ W.cell? ⟨w.heap.size + 1, 1, none⟩ = some (.slice a3 (ln n2) k3) ∧ W.cell? ⟨w.heap.size + 1, 2, none⟩ = some (.slice a4 (ln d2) k4))
    (first | exact HS_w0.out _ hD_w0 | exact HS_w0.out _ (by assumption))
    (first
      | (go_at_call_of 90 (Value.agg #[.bool true, .slice a1 (ln n1) k1, .slice a2 (ln d1) k2]); refine (lift_0 (w0 := w0) (by assumption) (HSI.out.1 ▸ fsign_any (m := true) (n := n1) (HX1.out.below (by assumption)) (HY1.out.below (by assumption)))).mono ?_; rintro e u1 ⟨rfl, hbu1, hBu1⟩)
      | (go_at_call_of 90 (Value.agg #[.bool m2, .slice a3 (ln n2) k3, .slice a4 (ln d2) k4]); refine (lift_0 (w0 := w0) (by assumption) (HSI.out.2 ▸ fsign_any (m := m2) (n := n2) (HX2.out.below (by assumption)) (HY2.out.below (by assumption)))).mono ?_; rintro e u2 ⟨rfl, hbu2, hBu2⟩))
  replace HX1 := Lib.hid (HX1.out.below hBu2)
  replace HY1 := Lib.hid (HY1.out.below hBu2)
  replace HX2 := Lib.hid (HX2.out.below hBu2)
  replace HY2 := Lib.hid (HY2.out.below hBu2)
  replace HQ1 := Lib.hid (HQ1.out.keep hBu2)
  replace HQ2 := Lib.hid (HQ2.out.keep hBu2)
  replace HB := Lib.hid (HB.out.trans (hBu2.mono HB.out.size))
  clear hbu1 hBu1 hbu2 hBu2 hD_w0 HS_w0
  have c0 := HQ1.out.c0
  have c1 := HQ1.out.c1
  have c2 := HQ1.out.c2
  have e0 := HQ2.out.c0
  have e1 := HQ2.out.c1
  have e2 := HQ2.out.c2
  have z0 := HQ1.out.z0
  have z1 := HQ1.out.z1
  have z2 := HQ1.out.z2
  have f0 := HQ2.out.z0
  have f1 := HQ2.out.z1
  have f2 := HQ2.out.z2
  go_wp2_with fail
  have hq2' := HQ2.out.stOther (g := w.heap.size) (by omega) m2 (.slice a3 (ln n2) k3) (.slice a4 (ln d2) k4)
  have hq1' := (HQ1.out.st m2 (.slice a3 (ln n2) k3) (.slice a4 (ln d2) k4)).stOther (g := w.heap.size + 1) (by omega) true (.slice a1 (ln n1) k1) (.slice a2 (ln d1) k2)
  replace HX1 := Lib.hid ((HX1.out.st3 c0 m2 (.slice a3 (ln n2) k3) (.slice a4 (ln d2) k4)).st3 hq2'.c0 true (.slice a1 (ln n1) k1) (.slice a2 (ln d1) k2))
  replace HY1 := Lib.hid ((HY1.out.st3 c0 m2 (.slice a3 (ln n2) k3) (.slice a4 (ln d2) k4)).st3 hq2'.c0 true (.slice a1 (ln n1) k1) (.slice a2 (ln d1) k2))
  replace HX2 := Lib.hid ((HX2.out.st3 c0 m2 (.slice a3 (ln n2) k3) (.slice a4 (ln d2) k4)).st3 hq2'.c0 true (.slice a1 (ln n1) k1) (.slice a2 (ln d1) k2))
  replace HY2 := Lib.hid ((HY2.out.st3 c0 m2 (.slice a3 (ln n2) k3) (.slice a4 (ln d2) k4)).st3 hq2'.c0 true (.slice a1 (ln n1) k1) (.slice a2 (ln d1) k2))
  replace HQ2 := Lib.hid (hq2'.st true (.slice a1 (ln n1) k1) (.slice a2 (ln d1) k2))
  replace HQ1 := Lib.hid hq1'
  replace HB := Lib.hid (below_st3 (below_st3 HB.out (Nat.le_refl w.heap.size) m2 (.slice a3 (ln n2) k3) (.slice a4 (ln d2) k4)) (show w.heap.size ≤ w.heap.size + 1 by omega) true (.slice a1 (ln n1) k1) (.slice a2 (ln d1) k2))
  clear hq1' hq2' c0 c1 c2 e0 e1 e2 z0 z1 z2 f0 f1 f2
  change Code.wp _ _ _ _ (st3 (st3 u2 w.heap.size m2 (.slice a3 (ln n2) k3) (.slice a4 (ln d2) k4)) (w.heap.size + 1) true (.slice a1 (ln n1) k1) (.slice a2 (ln d1) k2))
  generalize st3 (st3 u2 w.heap.size m2 (.slice a3 (ln n2) k3) (.slice a4 (ln d2) k4)) (w.heap.size + 1) true (.slice a1 (ln n1) k1) (.slice a2 (ln d1) k2) = u6 at HX1 HY1 HX2 HY2 HQ1 HQ2 HB ⊢
  have HS_u6 := Lib.hid (show ∀ W, Below u6.heap.size u6 W → W.cell? ⟨w.heap.size, 0, none⟩ = some (.bool m2) ∧ W.cell? ⟨w.heap.size, 1, none⟩ = some (.slice a3 (ln n2) k3) ∧ W.cell? ⟨w.heap.size, 2, none⟩ = some (.slice a4 (ln d2) k4) ∧ W.cell? ⟨w.heap.size + 1, 0, none⟩ = some (.bool true) ∧ W.cell? ⟨w.heap.size + 1, 1, none⟩ = some (.slice a1 (ln n1) k1) ∧ W.cell? ⟨w.heap.size + 1, 2, none⟩ = some (.slice a2 (ln d1) k2) from fun W h =>
      ⟨(HQ1.out.keep h).c0, (HQ1.out.keep h).c1, (HQ1.out.keep h).c2, (HQ2.out.keep h).c0, (HQ2.out.keep h).c1, (HQ2.out.keep h).c2⟩)
  have hD_u6 := (Below.refl u6.heap.size u6).drew
  go_region_held3 (fun W => W.cell? ⟨w.heap.size, 0, none⟩ = some (.bool m2) ∧ W.cell? ⟨w.heap.size, 1, none⟩ = some (.slice a3 (ln n2) k3) ∧ W.cell? ⟨w.heap.size, 2, none⟩ = some (.slice a4 (ln d2) k4) ∧ W.cell? ⟨w.heap.size + 1, 0, none⟩ = some (.bool true) ∧ W.cell? ⟨w.heap.size + 1, 1, none⟩ = some (.slice a1 (ln n1) k1) ∧ W.cell? ⟨w.heap.size + 1, 2, none⟩ = some (.slice a2 (ln d1) k2))
    (first | exact HS_u6.out _ hD_u6 | exact HS_u6.out _ (by assumption))
    (first
      | (go_at_call_of 128 (Value.slice a3 (ln n2) k3); refine (lift_num (w0 := u6) (by assumption) (times_any (a := n2) (b := d1) (HX2.out.below (by assumption)) (HY1.out.below (by assumption)) HL.out.2.2.1 HL.out.2.1)).mono ?_; rintro e u7 ⟨vp, rfl, hvp, hbp, hBp⟩; obtain ⟨ap, kp, rfl⟩ := slice_any hvp)
      | (go_at_call_of 128 (Value.slice a1 (ln n1) k1); refine (lift_num (w0 := u6) (by assumption) (times_any (a := n1) (b := d2) (HX1.out.below (by assumption)) (HY2.out.below (by assumption)) HL.out.1 HL.out.2.2.2)).mono ?_; rintro e u8 ⟨vq, rfl, hvq, hbq, hBq⟩; obtain ⟨aq, kq, rfl⟩ := slice_any hvq)
      | (go_at_call 130; refine (lift_0 (w0 := u6) (by assumption) (ncmp_any (a := n2 * d1) (b := n1 * d2) (hvp.below hbq) hvq HM.out.2 HM.out.1)).mono ?_; rintro e u9 ⟨rfl, hbu9, hBu9⟩))
  replace HB := Lib.hid (HB.out.trans (hBu9.mono HB.out.size))
  clear hbu9 hBu9 hvp hbp hBp hvq hbq hBq hD_u6 HS_u6
  go_wp2_with fail
  go_ret
  exact ⟨rfl, HB.out⟩

end Go.Proofs.YtadkijaofmcgfaaGreatDoor
