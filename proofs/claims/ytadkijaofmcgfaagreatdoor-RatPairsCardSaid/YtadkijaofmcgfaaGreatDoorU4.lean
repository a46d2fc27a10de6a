/-
  The reference of rat: Order.
-/
import Derived.Test.YtadkijaofmcgfaaGreatDoorU2
namespace Go.Proofs.YtadkijaofmcgfaaGreatDoor
open Go.RowKit NV
open Go.Lib (decDigits)

theorem lift_s2 {f : Nat} {args : Array Value} {w0 W : World} {v : Value} (h0 : Below w0.heap.size w0 W) (hc : Calls Tryz.prog f args W fun e w' => e = .returned v ∧ Below W.heap.size W w') :
    Calls Tryz.prog f args W fun e w' => e = .returned v ∧ Below W.heap.size W w' ∧ Below w0.heap.size w0 w' :=
  hc.mono fun _ _ ⟨h1, h3⟩ => ⟨h1, h3, h0.trans (h3.mono h0.size)⟩

theorem QR.newD (w : World) (m : Bool) (n d : Value) : QR ((w.alloc (.cells #[.bool m, n, d] 78)).drew) w.heap.size m n d := heap_alloc_new w _

set_option maxHeartbeats 6400000 in
set_option maxRecDepth 100000 in
theorem rorder_Z {w : World} {v u : Value} {p q r : Rat} (hp : QQ w v p) (hq : QQ w u q) (lp : QL 100000 p) (lq : QL 100000 q) (hr : p + -q = r) (hz : tp r = 0) :
    Calls Tryz.prog 102 #[v, u] w fun e w' => e = .returned (.int .i64 (0)) ∧ Below w.heap.size w w' := by
  obtain ⟨a1, k1, a2, k2, rfl⟩ := hp.form
  obtain ⟨a3, k3, a4, k4, rfl⟩ := hq.form
  obtain ⟨hb0, hq1, hq2⟩ := two_newQ w (ng p) (ng q) (.slice a1 (ln (tp p)) k1) (.slice a2 (ln p.den) k2) (.slice a3 (ln (tp q)) k3) (.slice a4 (ln q.den) k4)
  have HP := Lib.hid (hp.below hb0)
  have HQ := Lib.hid (hq.below hb0)
  have HB := Lib.hid hb0
  have HQ1 := Lib.hid hq1
  have HQ2 := Lib.hid hq2
  have HL := Lib.hid (And.intro (lp.mono (show 100000 ≤ 200000 by omega)) (QL.neg (lq.mono (show 100000 ≤ 200000 by omega))))
  have HR := Lib.hid hr
  have hl : ln (tp r) = 0 := by rw [hz, ln_zero]
  have HLN := Lib.hid hl
  clear hp hq lp lq hb0 hq1 hq2 hr hz hl
  go_enter Tryz.func102, Tryz.ntmps102
  go_wp2_with fail
  generalize (w.alloc (.cells #[.bool (ng p), .slice a1 (ln (tp p)) k1, .slice a2 (ln p.den) k2] 78)).alloc (.cells #[.bool (ng q), .slice a3 (ln (tp q)) k3, .slice a4 (ln q.den) k4] 78) = w0 at HP HQ HB HQ1 HQ2 ⊢
  have HS := Lib.hid (show ∀ W, Below w0.heap.size w0 W → W.cell? ⟨w.heap.size, 0, none⟩ = some (.bool (ng p)) ∧ W.cell? ⟨w.heap.size, 1, none⟩ = some (.slice a1 (ln (tp p)) k1) ∧ W.cell? ⟨w.heap.size, 2, none⟩ = some (.slice a2 (ln p.den) k2) ∧ W.cell? ⟨w.heap.size + 1, 0, none⟩ = some (.bool (ng q)) ∧ W.cell? ⟨w.heap.size + 1, 1, none⟩ = some (.slice a3 (ln (tp q)) k3) ∧ W.cell? ⟨w.heap.size + 1, 2, none⟩ = some (.slice a4 (ln q.den) k4) from fun W h =>
      ⟨(HQ1.out.keep h).c0, (HQ1.out.keep h).c1, (HQ1.out.keep h).c2, (HQ2.out.keep h).c0, (HQ2.out.keep h).c1, (HQ2.out.keep h).c2⟩)
  have HT := Lib.hid (show ∀ W g m x y, w.heap.size + 1 < g → Below w0.heap.size w0 W → (st3 W g m x y).cell? ⟨w.heap.size, 0, none⟩ = some (.bool (ng p)) ∧ (st3 W g m x y).cell? ⟨w.heap.size, 1, none⟩ = some (.slice a1 (ln (tp p)) k1) ∧ (st3 W g m x y).cell? ⟨w.heap.size, 2, none⟩ = some (.slice a2 (ln p.den) k2) ∧ (st3 W g m x y).cell? ⟨w.heap.size + 1, 0, none⟩ = some (.bool (ng q)) ∧ (st3 W g m x y).cell? ⟨w.heap.size + 1, 1, none⟩ = some (.slice a3 (ln (tp q)) k3) ∧ (st3 W g m x y).cell? ⟨w.heap.size + 1, 2, none⟩ = some (.slice a4 (ln q.den) k4) from fun W g m x y hg h => by
      have q1 := (HQ1.out.keep h).stOther (g := g) (by omega) m x y
      have q2 := (HQ2.out.keep h).stOther (g := g) (by omega) m x y
      exact ⟨q1.c0, q1.c1, q1.c2, q2.c0, q2.c1, q2.c2⟩)
  have hw2 := HQ2.out.lt
  have hD0 := (Below.refl w0.heap.size w0).drew
  go_region_held3 (fun W => W.cell? ⟨w.heap.size, 0, none⟩ = some (.bool (ng p)) ∧ W.cell? ⟨w.heap.size, 1, none⟩ = some (.slice a1 (ln (tp p)) k1) ∧ W.cell? ⟨w.heap.size, 2, none⟩ = some (.slice a2 (ln p.den) k2) ∧ W.cell? ⟨w.heap.size + 1, 0, none⟩ = some (.bool (ng q)) ∧ W.cell? ⟨w.heap.size + 1, 1, none⟩ = some (.slice a3 (ln (tp q)) k3) ∧ W.cell? ⟨w.heap.size + 1, 2, none⟩ = some (.slice a4 (ln q.den) k4))
    (first | exact HS.out _ hD0 | exact HS.out _ (by assumption) | exact HS.out _ (hD0.alloc hD0.size _) | exact HS.out _ (hB1.alloc hB1.size _) | exact HS.out _ (hB2.alloc hB2.size _) | exact HT.out _ _ _ _ _ (by first | exact hw2 | exact Nat.lt_of_lt_of_le hw2 hB1.size) hB2)
    (first
      | (go_at_call 95; refine (lift_qq (w0 := w0) (by first | assumption | exact hD0.alloc hD0.size _) (rneg_q (HQ.out.below (by first | assumption | exact hD0.alloc hD0.size _)))).mono ?_; rintro e u1 ⟨z1, rfl, hz1, hb1, hB1⟩; obtain ⟨a5, k5, a6, k6, rfl⟩ := hz1.form)
      | (go_at_call 94; refine (lift_qq (w0 := w0) (by first | assumption | exact hB1.alloc hB1.size _) (rplus_q (HP.out.below (by first | assumption | exact hB1.alloc hB1.size _)) (by first | exact hz1 | exact hz1.below (Below.alloc (Below.refl _ _) (Nat.le_refl _) _)) HL.out.1 HL.out.2 HR.out)).mono ?_; rintro e u2 ⟨z2, rfl, hz2, hb2, hB2⟩; obtain ⟨a7, k7, a8, k8, rfl⟩ := hz2.form; (first | (have hqd := ((QR.newD w0 false (.slice none 0 0) (.slice none 0 0)).keep hb1).keep hb2; have i0 := hqd.c0; have i1 := hqd.c1; have i2 := hqd.c2; have j0 := hqd.z0; have j1 := hqd.z1; have j2 := hqd.z2; clear hqd) | (have hqd := ((QR.new w0.drew false (.slice none 0 0) (.slice none 0 0)).keep hb1).keep hb2; have i0 := hqd.c0; have i1 := hqd.c1; have i2 := hqd.c2; have j0 := hqd.z0; have j1 := hqd.z1; have j2 := hqd.z2; clear hqd) | (have hqd := (QR.new u1 false (.slice none 0 0) (.slice none 0 0)).keep hb2; have i0 := hqd.c0; have i1 := hqd.c1; have i2 := hqd.c2; have j0 := hqd.z0; have j1 := hqd.z1; have j2 := hqd.z2; clear hqd) | skip)))
  all_goals rw [HLN.out]
  all_goals (
    have hbz := HB.out.trans (hB2.mono HB.out.size)
    have hsz0 := HB.out.size
    have hsz1 := hB1.size
    go_wp2_with fail
    go_ret
    refine ⟨rfl, ?_⟩
    first
      | exact hbz.alloc (Nat.le_trans HB.out.size hB2.size) _
      | exact ((hbz.setCell (p := ⟨w0.heap.size, 0, none⟩) hsz0 _).setCell (p := ⟨w0.heap.size, 1, none⟩) hsz0 _).setCell (p := ⟨w0.heap.size, 2, none⟩) hsz0 _
      | exact ((hbz.setCell (p := ⟨u1.heap.size, 0, none⟩) (Nat.le_trans hsz0 hsz1) _).setCell (p := ⟨u1.heap.size, 1, none⟩) (Nat.le_trans hsz0 hsz1) _).setCell (p := ⟨u1.heap.size, 2, none⟩) (Nat.le_trans hsz0 hsz1) _)

set_option maxHeartbeats 6400000 in
set_option maxRecDepth 100000 in
theorem rorder_M {w : World} {v u : Value} {p q r : Rat} (hp : QQ w v p) (hq : QQ w u q) (lp : QL 100000 p) (lq : QL 100000 q) (hr : p + -q = r) (hz : tp r ≠ 0) (hm : ng r = true) :
    Calls Tryz.prog 102 #[v, u] w fun e w' => e = .returned (.int .i64 (-1)) ∧ Below w.heap.size w w' := by
  obtain ⟨a1, k1, a2, k2, rfl⟩ := hp.form
  obtain ⟨a3, k3, a4, k4, rfl⟩ := hq.form
  obtain ⟨hb0, hq1, hq2⟩ := two_newQ w (ng p) (ng q) (.slice a1 (ln (tp p)) k1) (.slice a2 (ln p.den) k2) (.slice a3 (ln (tp q)) k3) (.slice a4 (ln q.den) k4)
  have HP := Lib.hid (hp.below hb0)
  have HQ := Lib.hid (hq.below hb0)
  have HB := Lib.hid hb0
  have HQ1 := Lib.hid hq1
  have HQ2 := Lib.hid hq2
  have HL := Lib.hid (And.intro (lp.mono (show 100000 ≤ 200000 by omega)) (QL.neg (lq.mono (show 100000 ≤ 200000 by omega))))
  have HR := Lib.hid hr
  have hl : (((ln (tp r) : Nat) : Int) == 0) = false := by have := ln_pos hz; rw [beq_eq_false_iff_ne]; omega
  have HM := Lib.hid hm
  clear hp hq lp lq hb0 hq1 hq2 hr hz hm
  go_enter Tryz.func102, Tryz.ntmps102
  go_wp2_with fail
  generalize (w.alloc (.cells #[.bool (ng p), .slice a1 (ln (tp p)) k1, .slice a2 (ln p.den) k2] 78)).alloc (.cells #[.bool (ng q), .slice a3 (ln (tp q)) k3, .slice a4 (ln q.den) k4] 78) = w0 at HP HQ HB HQ1 HQ2 ⊢
  have HS := Lib.hid (show ∀ W, Below w0.heap.size w0 W → W.cell? ⟨w.heap.size, 0, none⟩ = some (.bool (ng p)) ∧ W.cell? ⟨w.heap.size, 1, none⟩ = some (.slice a1 (ln (tp p)) k1) ∧ W.cell? ⟨w.heap.size, 2, none⟩ = some (.slice a2 (ln p.den) k2) ∧ W.cell? ⟨w.heap.size + 1, 0, none⟩ = some (.bool (ng q)) ∧ W.cell? ⟨w.heap.size + 1, 1, none⟩ = some (.slice a3 (ln (tp q)) k3) ∧ W.cell? ⟨w.heap.size + 1, 2, none⟩ = some (.slice a4 (ln q.den) k4) from fun W h =>
      ⟨(HQ1.out.keep h).c0, (HQ1.out.keep h).c1, (HQ1.out.keep h).c2, (HQ2.out.keep h).c0, (HQ2.out.keep h).c1, (HQ2.out.keep h).c2⟩)
  have HT := Lib.hid (show ∀ W g m x y, w.heap.size + 1 < g → Below w0.heap.size w0 W → (st3 W g m x y).cell? ⟨w.heap.size, 0, none⟩ = some (.bool (ng p)) ∧ (st3 W g m x y).cell? ⟨w.heap.size, 1, none⟩ = some (.slice a1 (ln (tp p)) k1) ∧ (st3 W g m x y).cell? ⟨w.heap.size, 2, none⟩ = some (.slice a2 (ln p.den) k2) ∧ (st3 W g m x y).cell? ⟨w.heap.size + 1, 0, none⟩ = some (.bool (ng q)) ∧ (st3 W g m x y).cell? ⟨w.heap.size + 1, 1, none⟩ = some (.slice a3 (ln (tp q)) k3) ∧ (st3 W g m x y).cell? ⟨w.heap.size + 1, 2, none⟩ = some (.slice a4 (ln q.den) k4) from fun W g m x y hg h => by
      have q1 := (HQ1.out.keep h).stOther (g := g) (by omega) m x y
      have q2 := (HQ2.out.keep h).stOther (g := g) (by omega) m x y
      exact ⟨q1.c0, q1.c1, q1.c2, q2.c0, q2.c1, q2.c2⟩)
  have hw2 := HQ2.out.lt
  have hD0 := (Below.refl w0.heap.size w0).drew
  go_region_held3 (fun W => W.cell? ⟨w.heap.size, 0, none⟩ = some (.bool (ng p)) ∧ W.cell? ⟨w.heap.size, 1, none⟩ = some (.slice a1 (ln (tp p)) k1) ∧ W.cell? ⟨w.heap.size, 2, none⟩ = some (.slice a2 (ln p.den) k2) ∧ W.cell? ⟨w.heap.size + 1, 0, none⟩ = some (.bool (ng q)) ∧ W.cell? ⟨w.heap.size + 1, 1, none⟩ = some (.slice a3 (ln (tp q)) k3) ∧ W.cell? ⟨w.heap.size + 1, 2, none⟩ = some (.slice a4 (ln q.den) k4))
    (first | exact HS.out _ hD0 | exact HS.out _ (by assumption) | exact HS.out _ (hD0.alloc hD0.size _) | exact HS.out _ (hB1.alloc hB1.size _) | exact HS.out _ (hB2.alloc hB2.size _) | exact HT.out _ _ _ _ _ (by first | exact hw2 | exact Nat.lt_of_lt_of_le hw2 hB1.size) hB2)
    (first
      | (go_at_call 95; refine (lift_qq (w0 := w0) (by first | assumption | exact hD0.alloc hD0.size _) (rneg_q (HQ.out.below (by first | assumption | exact hD0.alloc hD0.size _)))).mono ?_; rintro e u1 ⟨z1, rfl, hz1, hb1, hB1⟩; obtain ⟨a5, k5, a6, k6, rfl⟩ := hz1.form)
      | (go_at_call 94; refine (lift_qq (w0 := w0) (by first | assumption | exact hB1.alloc hB1.size _) (rplus_q (HP.out.below (by first | assumption | exact hB1.alloc hB1.size _)) (by first | exact hz1 | exact hz1.below (Below.alloc (Below.refl _ _) (Nat.le_refl _) _)) HL.out.1 HL.out.2 HR.out)).mono ?_; rintro e u2 ⟨z2, rfl, hz2, hb2, hB2⟩; obtain ⟨a7, k7, a8, k8, rfl⟩ := hz2.form; (first | (have hqd := ((QR.newD w0 false (.slice none 0 0) (.slice none 0 0)).keep hb1).keep hb2; have i0 := hqd.c0; have i1 := hqd.c1; have i2 := hqd.c2; have j0 := hqd.z0; have j1 := hqd.z1; have j2 := hqd.z2; clear hqd) | (have hqd := ((QR.new w0.drew false (.slice none 0 0) (.slice none 0 0)).keep hb1).keep hb2; have i0 := hqd.c0; have i1 := hqd.c1; have i2 := hqd.c2; have j0 := hqd.z0; have j1 := hqd.z1; have j2 := hqd.z2; clear hqd) | (have hqd := (QR.new u1 false (.slice none 0 0) (.slice none 0 0)).keep hb2; have i0 := hqd.c0; have i1 := hqd.c1; have i2 := hqd.c2; have j0 := hqd.z0; have j1 := hqd.z1; have j2 := hqd.z2; clear hqd) | skip)))
  all_goals rw [HM.out]
  all_goals (
    have hbz := HB.out.trans (hB2.mono HB.out.size)
    have hsz0 := HB.out.size
    have hsz1 := hB1.size
    go_wp2_with fail
    go_ret
    refine ⟨rfl, ?_⟩
    first
      | exact hbz.alloc (Nat.le_trans HB.out.size hB2.size) _
      | exact ((hbz.setCell (p := ⟨w0.heap.size, 0, none⟩) hsz0 _).setCell (p := ⟨w0.heap.size, 1, none⟩) hsz0 _).setCell (p := ⟨w0.heap.size, 2, none⟩) hsz0 _
      | exact ((hbz.setCell (p := ⟨u1.heap.size, 0, none⟩) (Nat.le_trans hsz0 hsz1) _).setCell (p := ⟨u1.heap.size, 1, none⟩) (Nat.le_trans hsz0 hsz1) _).setCell (p := ⟨u1.heap.size, 2, none⟩) (Nat.le_trans hsz0 hsz1) _)

set_option maxHeartbeats 6400000 in
set_option maxRecDepth 100000 in
theorem rorder_P {w : World} {v u : Value} {p q r : Rat} (hp : QQ w v p) (hq : QQ w u q) (lp : QL 100000 p) (lq : QL 100000 q) (hr : p + -q = r) (hz : tp r ≠ 0) (hm : ng r = false) :
    Calls Tryz.prog 102 #[v, u] w fun e w' => e = .returned (.int .i64 (1)) ∧ Below w.heap.size w w' := by
  obtain ⟨a1, k1, a2, k2, rfl⟩ := hp.form
  obtain ⟨a3, k3, a4, k4, rfl⟩ := hq.form
  obtain ⟨hb0, hq1, hq2⟩ := two_newQ w (ng p) (ng q) (.slice a1 (ln (tp p)) k1) (.slice a2 (ln p.den) k2) (.slice a3 (ln (tp q)) k3) (.slice a4 (ln q.den) k4)
  have HP := Lib.hid (hp.below hb0)
  have HQ := Lib.hid (hq.below hb0)
  have HB := Lib.hid hb0
  have HQ1 := Lib.hid hq1
  have HQ2 := Lib.hid hq2
  have HL := Lib.hid (And.intro (lp.mono (show 100000 ≤ 200000 by omega)) (QL.neg (lq.mono (show 100000 ≤ 200000 by omega))))
  have HR := Lib.hid hr
  have hl : (((ln (tp r) : Nat) : Int) == 0) = false := by have := ln_pos hz; rw [beq_eq_false_iff_ne]; omega
  have HM := Lib.hid hm
  clear hp hq lp lq hb0 hq1 hq2 hr hz hm
  go_enter Tryz.func102, Tryz.ntmps102
  go_wp2_with fail
  generalize (w.alloc (.cells #[.bool (ng p), .slice a1 (ln (tp p)) k1, .slice a2 (ln p.den) k2] 78)).alloc (.cells #[.bool (ng q), .slice a3 (ln (tp q)) k3, .slice a4 (ln q.den) k4] 78) = w0 at HP HQ HB HQ1 HQ2 ⊢
  have HS := Lib.hid (show ∀ W, Below w0.heap.size w0 W → W.cell? ⟨w.heap.size, 0, none⟩ = some (.bool (ng p)) ∧ W.cell? ⟨w.heap.size, 1, none⟩ = some (.slice a1 (ln (tp p)) k1) ∧ W.cell? ⟨w.heap.size, 2, none⟩ = some (.slice a2 (ln p.den) k2) ∧ W.cell? ⟨w.heap.size + 1, 0, none⟩ = some (.bool (ng q)) ∧ W.cell? ⟨w.heap.size + 1, 1, none⟩ = some (.slice a3 (ln (tp q)) k3) ∧ W.cell? ⟨w.heap.size + 1, 2, none⟩ = some (.slice a4 (ln q.den) k4) from fun W h =>
      ⟨(HQ1.out.keep h).c0, (HQ1.out.keep h).c1, (HQ1.out.keep h).c2, (HQ2.out.keep h).c0, (HQ2.out.keep h).c1, (HQ2.out.keep h).c2⟩)
  have HT := Lib.hid (show ∀ W g m x y, w.heap.size + 1 < g → Below w0.heap.size w0 W → (st3 W g m x y).cell? ⟨w.heap.size, 0, none⟩ = some (.bool (ng p)) ∧ (st3 W g m x y).cell? ⟨w.heap.size, 1, none⟩ = some (.slice a1 (ln (tp p)) k1) ∧ (st3 W g m x y).cell? ⟨w.heap.size, 2, none⟩ = some (.slice a2 (ln p.den) k2) ∧ (st3 W g m x y).cell? ⟨w.heap.size + 1, 0, none⟩ = some (.bool (ng q)) ∧ (st3 W g m x y).cell? ⟨w.heap.size + 1, 1, none⟩ = some (.slice a3 (ln (tp q)) k3) ∧ (st3 W g m x y).cell? ⟨w.heap.size + 1, 2, none⟩ = some (.slice a4 (ln q.den) k4) from fun W g m x y hg h => by
      have q1 := (HQ1.out.keep h).stOther (g := g) (by omega) m x y
      have q2 := (HQ2.out.keep h).stOther (g := g) (by omega) m x y
      exact ⟨q1.c0, q1.c1, q1.c2, q2.c0, q2.c1, q2.c2⟩)
  have hw2 := HQ2.out.lt
  have hD0 := (Below.refl w0.heap.size w0).drew
  go_region_held3 (fun W => W.cell? ⟨w.heap.size, 0, none⟩ = some (.bool (ng p)) ∧ W.cell? ⟨w.heap.size, 1, none⟩ = some (.slice a1 (ln (tp p)) k1) ∧ W.cell? ⟨w.heap.size, 2, none⟩ = some (.slice a2 (ln p.den) k2) ∧ W.cell? ⟨w.heap.size + 1, 0, none⟩ = some (.bool (ng q)) ∧ W.cell? ⟨w.heap.size + 1, 1, none⟩ = some (.slice a3 (ln (tp q)) k3) ∧ W.cell? ⟨w.heap.size + 1, 2, none⟩ = some (.slice a4 (ln q.den) k4))
    (first | exact HS.out _ hD0 | exact HS.out _ (by assumption) | exact HS.out _ (hD0.alloc hD0.size _) | exact HS.out _ (hB1.alloc hB1.size _) | exact HS.out _ (hB2.alloc hB2.size _) | exact HT.out _ _ _ _ _ (by first | exact hw2 | exact Nat.lt_of_lt_of_le hw2 hB1.size) hB2)
    (first
      | (go_at_call 95; refine (lift_qq (w0 := w0) (by first | assumption | exact hD0.alloc hD0.size _) (rneg_q (HQ.out.below (by first | assumption | exact hD0.alloc hD0.size _)))).mono ?_; rintro e u1 ⟨z1, rfl, hz1, hb1, hB1⟩; obtain ⟨a5, k5, a6, k6, rfl⟩ := hz1.form)
      | (go_at_call 94; refine (lift_qq (w0 := w0) (by first | assumption | exact hB1.alloc hB1.size _) (rplus_q (HP.out.below (by first | assumption | exact hB1.alloc hB1.size _)) (by first | exact hz1 | exact hz1.below (Below.alloc (Below.refl _ _) (Nat.le_refl _) _)) HL.out.1 HL.out.2 HR.out)).mono ?_; rintro e u2 ⟨z2, rfl, hz2, hb2, hB2⟩; obtain ⟨a7, k7, a8, k8, rfl⟩ := hz2.form; (first | (have hqd := ((QR.newD w0 false (.slice none 0 0) (.slice none 0 0)).keep hb1).keep hb2; have i0 := hqd.c0; have i1 := hqd.c1; have i2 := hqd.c2; have j0 := hqd.z0; have j1 := hqd.z1; have j2 := hqd.z2; clear hqd) | (have hqd := ((QR.new w0.drew false (.slice none 0 0) (.slice none 0 0)).keep hb1).keep hb2; have i0 := hqd.c0; have i1 := hqd.c1; have i2 := hqd.c2; have j0 := hqd.z0; have j1 := hqd.z1; have j2 := hqd.z2; clear hqd) | (have hqd := (QR.new u1 false (.slice none 0 0) (.slice none 0 0)).keep hb2; have i0 := hqd.c0; have i1 := hqd.c1; have i2 := hqd.c2; have j0 := hqd.z0; have j1 := hqd.z1; have j2 := hqd.z2; clear hqd) | skip)))
  all_goals rw [HM.out]
  all_goals (
    have hbz := HB.out.trans (hB2.mono HB.out.size)
    have hsz0 := HB.out.size
    have hsz1 := hB1.size
    go_wp2_with fail
    go_ret
    refine ⟨rfl, ?_⟩
    first
      | exact hbz.alloc (Nat.le_trans HB.out.size hB2.size) _
      | exact ((hbz.setCell (p := ⟨w0.heap.size, 0, none⟩) hsz0 _).setCell (p := ⟨w0.heap.size, 1, none⟩) hsz0 _).setCell (p := ⟨w0.heap.size, 2, none⟩) hsz0 _
      | exact ((hbz.setCell (p := ⟨u1.heap.size, 0, none⟩) (Nat.le_trans hsz0 hsz1) _).setCell (p := ⟨u1.heap.size, 1, none⟩) (Nat.le_trans hsz0 hsz1) _).setCell (p := ⟨u1.heap.size, 2, none⟩) (Nat.le_trans hsz0 hsz1) _)

theorem rorder_q {w : World} {v u : Value} {p q : Rat} (hp : QQ w v p) (hq : QQ w u q) (lp : QL 100000 p) (lq : QL 100000 q) :
    Calls Tryz.prog 102 #[v, u] w fun e w' => e = .returned (.int .i64 (cmpQ p q)) ∧ Below w.heap.size w w' := by
  rw [← cmpQ_sub, ← sgnF_q, sgnF]
  by_cases hz : tp (p + -q) = 0
  · rw [if_pos hz]; exact rorder_Z hp hq lp lq rfl hz
  · rw [if_neg hz]
    cases hm : ng (p + -q) with
    | true => exact rorder_M hp hq lp lq rfl hz hm
    | false => exact rorder_P hp hq lp lq rfl hz hm

end Go.Proofs.YtadkijaofmcgfaaGreatDoor
