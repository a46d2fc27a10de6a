/-
  The reference of rat: Write, Times, Plus, Order.
-/
import Derived.Test.YtadkijaofmcgfaaGreatDoorU1
namespace Go.Proofs.YtadkijaofmcgfaaGreatDoor
open Go.RowKit NV
open Go.Lib (decDigits)

theorem mul_mk (p q : Rat) : mkQ (ng p != ng q) (tp p * tp q) (p.den * q.den) = p * q := by
  rw [Rat.mul_def', num_of p, num_of q]
  unfold mkQ
  congr 1
  cases ng p <;> cases ng q <;> simp [Int.neg_mul, Int.mul_neg]

theorem add_mk (p q : Rat) : mkQ (sNeg (ng p) (ng q) (tp p * q.den) (tp q * p.den)) (sTop (ng p) (ng q) (tp p * q.den) (tp q * p.den)) (p.den * q.den) = p + q := by
  rw [Rat.add_def', num_of p, num_of q]
  unfold mkQ
  congr 1
  have e : (if ng p then -(tp p : Int) else (tp p : Int)) * (q.den : Int) + (if ng q then -(tp q : Int) else (tp q : Int)) * (p.den : Int) = (if ng p then -((tp p * q.den : Nat) : Int) else ((tp p * q.den : Nat) : Int)) + (if ng q then -((tp q * p.den : Nat) : Int) else ((tp q * p.den : Nat) : Int)) := by
    cases ng p <;> cases ng q <;> simp [Int.neg_mul]
  rw [e]
  generalize tp p * q.den = x
  generalize tp q * p.den = y
  unfold sNeg sTop
  cases ng p <;> cases ng q <;> simp <;> (repeat' split) <;> omega

theorem QR.resT {w : World} {b : Nat} {m : Bool} {n d : Value} {tmps : Array Value} (h : QR w b m n d) (ht : tmps.getD 4 undef = .pointer (some ⟨b, 0, none⟩)) : (results Tryz.f96 tmps).run Tryz.prog w = .ok (.agg #[.bool m, n, d]) w := by
  have hl := h.load
  have ht' : tmps[4]?.getD undef = .pointer (some ⟨b, 0, none⟩) := by rw [← ht]; simp
  simp [results, ht', asAddr, hl]

set_option maxHeartbeats 6400000 in
set_option maxRecDepth 100000 in
theorem rtimes_q {w : World} {v u : Value} {p q r : Rat} (hp : QQ w v p) (hq : QQ w u q) (lp : QL 200000 p) (lq : QL 200000 q) (hr : r = p * q) :
    Calls Tryz.prog 96 #[v, u] w fun e w' => ∃ z, e = .returned z ∧ QQ w' z r ∧ Below w.heap.size w w' := by
  obtain ⟨a1, k1, a2, k2, rfl⟩ := hp.form
  obtain ⟨a3, k3, a4, k4, rfl⟩ := hq.form
  obtain ⟨_, hx1, hy1⟩ := hp.nums
  obtain ⟨_, hx2, hy2⟩ := hq.nums
  obtain ⟨hb0, hq1, hq2, hq3⟩ := three_newQ w (ng p) (ng q) false (.slice a1 (ln (tp p)) k1) (.slice a2 (ln p.den) k2) (.slice a3 (ln (tp q)) k3) (.slice a4 (ln q.den) k4) (.slice none 0 0) (.slice none 0 0)
  have HX1 := Lib.hid (hx1.below hb0)
  have HY1 := Lib.hid (hy1.below hb0)
  have HX2 := Lib.hid (hx2.below hb0)
  have HY2 := Lib.hid (hy2.below hb0)
  have HB := Lib.hid hb0
  have HQ1 := Lib.hid hq1
  have HQ2 := Lib.hid hq2
  have HQ3 := Lib.hid hq3
  have HL := Lib.hid (show ln (tp p) ≤ 1000000 ∧ ln p.den ≤ 1000000 ∧ ln (tp q) ≤ 1000000 ∧ ln q.den ≤ 1000000 from ⟨by have := lp.1; omega, by have := lp.2; omega, by have := lq.1; omega, by have := lq.2; omega⟩)
  have lt1 := ln_mul lp.1 lq.1
  have ld1 := ln_mul lp.2 lq.2
  have lx1 := ln_mul lp.1 lq.2
  have ly1 := ln_mul lq.1 lp.2
  have HM := Lib.hid (show ln (tp p * tp q) ≤ 1000000 ∧ ln (p.den * q.den) ≤ 1000000 ∧ ln (tp p * q.den) ≤ 400000 ∧ ln (tp q * p.den) ≤ 400000 from ⟨by omega, by omega, by omega, by omega⟩)
  have HD := Lib.hid (Nat.mul_ne_zero p.den_nz q.den_nz)
  have HR := Lib.hid (show mkQ (ng p != ng q) (tp p * tp q) (p.den * q.den) = r from (mul_mk p q).trans hr.symm)
  clear hp hq hx1 hy1 hx2 hy2 hb0 hq1 hq2 hq3 lp lq lt1 ld1 lx1 ly1 hr
  go_enter Tryz.func96, Tryz.ntmps96
  go_wp2_with fail
  generalize ((w.alloc (.cells #[.bool (ng p), .slice a1 (ln (tp p)) k1, .slice a2 (ln p.den) k2] 78)).alloc (.cells #[.bool (ng q), .slice a3 (ln (tp q)) k3, .slice a4 (ln q.den) k4] 78)).alloc (.cells #[.bool false, .slice none 0 0, .slice none 0 0] 78) = w0 at HX1 HY1 HX2 HY2 HB HQ1 HQ2 HQ3 ⊢
  have HS_w0 := Lib.hid (show ∀ W, Below w0.heap.size w0 W → W.cell? ⟨w.heap.size, 0, none⟩ = some (.bool (ng p)) ∧ W.cell? ⟨w.heap.size, 1, none⟩ = some (.slice a1 (ln (tp p)) k1) ∧ W.cell? ⟨w.heap.size, 2, none⟩ = some (.slice a2 (ln p.den) k2) ∧ W.cell? ⟨w.heap.size + 1, 0, none⟩ = some (.bool (ng q)) ∧ W.cell? ⟨w.heap.size + 1, 1, none⟩ = some (.slice a3 (ln (tp q)) k3) ∧ W.cell? ⟨w.heap.size + 1, 2, none⟩ = some (.slice a4 (ln q.den) k4) from fun W h =>
      ⟨(HQ1.out.keep h).c0, (HQ1.out.keep h).c1, (HQ1.out.keep h).c2, (HQ2.out.keep h).c0, (HQ2.out.keep h).c1, (HQ2.out.keep h).c2⟩)
  have HT_w0 := Lib.hid (show ∀ W m x y, Below w0.heap.size w0 W → (st3 W (w.heap.size + 2) m x y).cell? ⟨w.heap.size, 0, none⟩ = some (.bool (ng p)) ∧ (st3 W (w.heap.size + 2) m x y).cell? ⟨w.heap.size, 1, none⟩ = some (.slice a1 (ln (tp p)) k1) ∧ (st3 W (w.heap.size + 2) m x y).cell? ⟨w.heap.size, 2, none⟩ = some (.slice a2 (ln p.den) k2) ∧ (st3 W (w.heap.size + 2) m x y).cell? ⟨w.heap.size + 1, 0, none⟩ = some (.bool (ng q)) ∧ (st3 W (w.heap.size + 2) m x y).cell? ⟨w.heap.size + 1, 1, none⟩ = some (.slice a3 (ln (tp q)) k3) ∧ (st3 W (w.heap.size + 2) m x y).cell? ⟨w.heap.size + 1, 2, none⟩ = some (.slice a4 (ln q.den) k4) from fun W m x y h => by
      have q1 := (HQ1.out.keep h).stOther (g := w.heap.size + 2) (by omega) m x y
      have q2 := (HQ2.out.keep h).stOther (g := w.heap.size + 2) (by omega) m x y
      exact ⟨q1.c0, q1.c1, q1.c2, q2.c0, q2.c1, q2.c2⟩)
  have hD_w0 := (Below.refl w0.heap.size w0).drew
  go_region_held3 (fun W => W.cell? ⟨w.heap.size, 0, none⟩ = some (.bool (ng p)) ∧ W.cell? ⟨w.heap.size, 1, none⟩ = some (.slice a1 (ln (tp p)) k1) ∧ W.cell? ⟨w.heap.size, 2, none⟩ = some (.slice a2 (ln p.den) k2) ∧ W.cell? ⟨w.heap.size + 1, 0, none⟩ = some (.bool (ng q)) ∧ W.cell? ⟨w.heap.size + 1, 1, none⟩ = some (.slice a3 (ln (tp q)) k3) ∧ W.cell? ⟨w.heap.size + 1, 2, none⟩ = some (.slice a4 (ln q.den) k4))
    (first | exact HS_w0.out _ hD_w0 | exact HS_w0.out _ (by assumption) | exact HT_w0.out _ _ _ _ (by assumption))
    (first
      | (go_at_call_of 118 (Value.slice a1 (ln (tp p)) k1); refine (lift_i (w0 := w0) (by assumption) (itimes_any (a := tp p) (b := tp q) (HX1.out.below (by assumption)) (HX2.out.below (by assumption)) HL.out.1 HL.out.2.2.1)).mono ?_; rintro e u1 ⟨vn, rfl, hvn, hbn, hBn⟩; obtain ⟨an, kn, rfl⟩ := islice_any hvn)
      | (go_at_call_of 118 (Value.slice a2 (ln p.den) k2); refine (lift_i (w0 := w0) (by assumption) (itimes_any (a := p.den) (b := q.den) (HY1.out.below (by assumption)) (HY2.out.below (by assumption)) HL.out.2.1 HL.out.2.2.2)).mono ?_; rintro e u2 ⟨vd, rfl, hvd, hbd, hBd⟩; obtain ⟨ad, kd, rfl⟩ := islice_any hvd)
      | (go_at_call 100; refine (lift_qq (w0 := w0) (by assumption) (HR.out ▸ rreduce_q (m := ng p != ng q) (hvn.below hbd) hvd HM.out.1 HM.out.2.1 HD.out)).mono ?_; rintro e u3 ⟨z, rfl, hz, hbz, hBz⟩; obtain ⟨a5, k5, a6, k6, rfl⟩ := hz.form; have i0 := (HQ3.out.keep hBz).c0; have i1 := (HQ3.out.keep hBz).c1; have i2 := (HQ3.out.keep hBz).c2; have j0 := (HQ3.out.keep hBz).z0; have j1 := (HQ3.out.keep hBz).z1; have j2 := (HQ3.out.keep hBz).z2))
  obtain ⟨_, hz1, hz2⟩ := hz.nums
  have hq := (HQ3.out.keep hBz).st (ng (r)) (.slice a5 (ln (tp (r))) k5) (.slice a6 (ln (r).den) k6)
  have hn1 := hz1.st3 (HQ3.out.keep hBz) (ng (r)) (.slice a5 (ln (tp (r))) k5) (.slice a6 (ln (r).den) k6)
  have hn2 := hz2.st3 (HQ3.out.keep hBz) (ng (r)) (.slice a5 (ln (tp (r))) k5) (.slice a6 (ln (r).den) k6)
  have hbf := below_st3 (HB.out.trans (hBz.mono HB.out.size)) (show w.heap.size ≤ w.heap.size + 2 by omega) (ng (r)) (.slice a5 (ln (tp (r))) k5) (.slice a6 (ln (r).den) k6)
  have HF := Lib.hid (And.intro hq (And.intro hn1 (And.intro hn2 hbf)))
  clear hq hn1 hn2 hbf i0 i1 i2 j0 j1 j2 hz hz1 hz2 hbz hBz hvn hbn hBn hvd hbd hBd hD_w0
  go_wp2_with fail
  exact bodyPost_ret (HF.out.1.resT rfl) rfl ⟨_, rfl, ⟨_, _, rfl, HF.out.2.1, HF.out.2.2.1⟩, HF.out.2.2.2⟩

theorem QR.resP {w : World} {b : Nat} {m : Bool} {n d : Value} {tmps : Array Value} (h : QR w b m n d) (ht : tmps.getD 4 undef = .pointer (some ⟨b, 0, none⟩)) : (results Tryz.f94 tmps).run Tryz.prog w = .ok (.agg #[.bool m, n, d]) w := by
  have hl := h.load
  have ht' : tmps[4]?.getD undef = .pointer (some ⟨b, 0, none⟩) := by rw [← ht]; simp
  simp [results, ht', asAddr, hl]

set_option maxHeartbeats 6400000 in
set_option maxRecDepth 100000 in
theorem rplus_A {w : World} {v u : Value} {p q r : Rat} (hp : QQ w v p) (hq : QQ w u q) (lp : QL 200000 p) (lq : QL 200000 q) (hr : p + q = r) (hm : ng p = ng q) :
    Calls Tryz.prog 94 #[v, u] w fun e w' => ∃ z, e = .returned z ∧ QQ w' z r ∧ Below w.heap.size w w' := by
  obtain ⟨a1, k1, a2, k2, rfl⟩ := hp.form
  obtain ⟨a3, k3, a4, k4, rfl⟩ := hq.form
  obtain ⟨_, hx1, hy1⟩ := hp.nums
  obtain ⟨_, hx2, hy2⟩ := hq.nums
  obtain ⟨hb0, hq1, hq2, hq3⟩ := three_newQ w (ng p) (ng q) false (.slice a1 (ln (tp p)) k1) (.slice a2 (ln p.den) k2) (.slice a3 (ln (tp q)) k3) (.slice a4 (ln q.den) k4) (.slice none 0 0) (.slice none 0 0)
  have HX1 := Lib.hid (hx1.below hb0)
  have HY1 := Lib.hid (hy1.below hb0)
  have HX2 := Lib.hid (hx2.below hb0)
  have HY2 := Lib.hid (hy2.below hb0)
  have HB := Lib.hid hb0
  have HQ1 := Lib.hid hq1
  have HQ2 := Lib.hid hq2
  have HQ3 := Lib.hid hq3
  have HL := Lib.hid (show ln (tp p) ≤ 1000000 ∧ ln p.den ≤ 1000000 ∧ ln (tp q) ≤ 1000000 ∧ ln q.den ≤ 1000000 from ⟨by have := lp.1; omega, by have := lp.2; omega, by have := lq.1; omega, by have := lq.2; omega⟩)
  have lt1 := ln_mul lp.1 lq.1
  have ld1 := ln_mul lp.2 lq.2
  have lx1 := ln_mul lp.1 lq.2
  have ly1 := ln_mul lq.1 lp.2
  have HM := Lib.hid (show ln (tp p * tp q) ≤ 1000000 ∧ ln (p.den * q.den) ≤ 1000000 ∧ ln (tp p * q.den) ≤ 400000 ∧ ln (tp q * p.den) ≤ 400000 from ⟨by omega, by omega, by omega, by omega⟩)
  have HD := Lib.hid (Nat.mul_ne_zero p.den_nz q.den_nz)
  have HR := Lib.hid (show mkQ (ng p) (tp p * q.den + tp q * p.den) (p.den * q.den) = r from (by rw [← hr, ← add_mk]; unfold sNeg sTop; rw [if_pos hm, if_pos hm]))
  have HTOP := Lib.hid (show ln (tp p * q.den + tp q * p.den) ≤ 1000000 from Nat.le_trans (ln_add (N := 400000) (by omega) (by omega)) (by omega))
  have hmm : (ng p == ng q) = true := by rw [beq_iff_eq]; exact hm
  clear hp hq hx1 hy1 hx2 hy2 hb0 hq1 hq2 hq3 lp lq lt1 ld1 lx1 ly1 hr hm
  go_enter Tryz.func94, Tryz.ntmps94
  go_wp2_with fail
  generalize ((w.alloc (.cells #[.bool (ng p), .slice a1 (ln (tp p)) k1, .slice a2 (ln p.den) k2] 78)).alloc (.cells #[.bool (ng q), .slice a3 (ln (tp q)) k3, .slice a4 (ln q.den) k4] 78)).alloc (.cells #[.bool false, .slice none 0 0, .slice none 0 0] 78) = w0 at HX1 HY1 HX2 HY2 HB HQ1 HQ2 HQ3 ⊢
  have HS_w0 := Lib.hid (show ∀ W, Below w0.heap.size w0 W → W.cell? ⟨w.heap.size, 0, none⟩ = some (.bool (ng p)) ∧ W.cell? ⟨w.heap.size, 1, none⟩ = some (.slice a1 (ln (tp p)) k1) ∧ W.cell? ⟨w.heap.size, 2, none⟩ = some (.slice a2 (ln p.den) k2) ∧ W.cell? ⟨w.heap.size + 1, 0, none⟩ = some (.bool (ng q)) ∧ W.cell? ⟨w.heap.size + 1, 1, none⟩ = some (.slice a3 (ln (tp q)) k3) ∧ W.cell? ⟨w.heap.size + 1, 2, none⟩ = some (.slice a4 (ln q.den) k4) from fun W h =>
      ⟨(HQ1.out.keep h).c0, (HQ1.out.keep h).c1, (HQ1.out.keep h).c2, (HQ2.out.keep h).c0, (HQ2.out.keep h).c1, (HQ2.out.keep h).c2⟩)
  have HT_w0 := Lib.hid (show ∀ W m x y, Below w0.heap.size w0 W → (st3 W (w.heap.size + 2) m x y).cell? ⟨w.heap.size, 0, none⟩ = some (.bool (ng p)) ∧ (st3 W (w.heap.size + 2) m x y).cell? ⟨w.heap.size, 1, none⟩ = some (.slice a1 (ln (tp p)) k1) ∧ (st3 W (w.heap.size + 2) m x y).cell? ⟨w.heap.size, 2, none⟩ = some (.slice a2 (ln p.den) k2) ∧ (st3 W (w.heap.size + 2) m x y).cell? ⟨w.heap.size + 1, 0, none⟩ = some (.bool (ng q)) ∧ (st3 W (w.heap.size + 2) m x y).cell? ⟨w.heap.size + 1, 1, none⟩ = some (.slice a3 (ln (tp q)) k3) ∧ (st3 W (w.heap.size + 2) m x y).cell? ⟨w.heap.size + 1, 2, none⟩ = some (.slice a4 (ln q.den) k4) from fun W m x y h => by
      have q1 := (HQ1.out.keep h).stOther (g := w.heap.size + 2) (by omega) m x y
      have q2 := (HQ2.out.keep h).stOther (g := w.heap.size + 2) (by omega) m x y
      exact ⟨q1.c0, q1.c1, q1.c2, q2.c0, q2.c1, q2.c2⟩)
  have hD_w0 := (Below.refl w0.heap.size w0).drew
  go_region_held3 (fun W => W.cell? ⟨w.heap.size, 0, none⟩ = some (.bool (ng p)) ∧ W.cell? ⟨w.heap.size, 1, none⟩ = some (.slice a1 (ln (tp p)) k1) ∧ W.cell? ⟨w.heap.size, 2, none⟩ = some (.slice a2 (ln p.den) k2) ∧ W.cell? ⟨w.heap.size + 1, 0, none⟩ = some (.bool (ng q)) ∧ W.cell? ⟨w.heap.size + 1, 1, none⟩ = some (.slice a3 (ln (tp q)) k3) ∧ W.cell? ⟨w.heap.size + 1, 2, none⟩ = some (.slice a4 (ln q.den) k4))
    (first | exact HS_w0.out _ hD_w0 | exact HS_w0.out _ (by assumption) | exact HT_w0.out _ _ _ _ (by assumption))
    (first
      | (go_at_call_of 118 (Value.slice a1 (ln (tp p)) k1); refine (lift_i (w0 := w0) (by assumption) (itimes_any (a := tp p) (b := q.den) (HX1.out.below (by assumption)) (HY2.out.below (by assumption)) HL.out.1 HL.out.2.2.2)).mono ?_; rintro e u1 ⟨vx, rfl, hvx, hbx, hBx⟩; obtain ⟨ax, kx, rfl⟩ := islice_any hvx)
      | (go_at_call_of 118 (Value.slice a3 (ln (tp q)) k3); refine (lift_i (w0 := w0) (by assumption) (itimes_any (a := tp q) (b := p.den) (HX2.out.below (by assumption)) (HY1.out.below (by assumption)) HL.out.2.2.1 HL.out.2.1)).mono ?_; rintro e u2 ⟨vy, rfl, hvy, hby, hBy⟩; obtain ⟨ay, ky, rfl⟩ := islice_any hvy))
  replace HY1 := Lib.hid (HY1.out.below hBy)
  replace HY2 := Lib.hid (HY2.out.below hBy)
  replace HQ1 := Lib.hid (HQ1.out.keep hBy)
  replace HQ2 := Lib.hid (HQ2.out.keep hBy)
  replace HQ3 := Lib.hid (HQ3.out.keep hBy)
  replace HB := Lib.hid (HB.out.trans (hBy.mono HB.out.size))
  have HVX := Lib.hid (hvx.below hby)
  have HVY := Lib.hid hvy
  clear hvx hbx hBx hvy hby hBy hD_w0 HS_w0 HT_w0 HX1 HX2
  have c2 := HQ1.out.c2
  have d2 := HQ2.out.c2
  go_wp2_with fail
  refine (itimes_any HY1.out HY2.out HL.out.2.1 HL.out.2.2.2).mono ?_
  rintro e u3 ⟨vd, rfl, hvd, hbd⟩
  obtain ⟨ad, kd, rfl⟩ := islice_any hvd
  replace HQ1 := Lib.hid (HQ1.out.keep hbd)
  replace HQ2 := Lib.hid (HQ2.out.keep hbd)
  replace HQ3 := Lib.hid (HQ3.out.keep hbd)
  replace HVX := Lib.hid (HVX.out.below hbd)
  replace HVY := Lib.hid (HVY.out.below hbd)
  replace HB := Lib.hid (HB.out.trans (hbd.mono HB.out.size))
  have HVD := Lib.hid hvd
  clear hvd hbd c2 d2 HY1 HY2
  have c0 := HQ1.out.c0
  have d0 := HQ2.out.c0
  go_wp2_with fail
  clear c0 d0 hmm
  have HS_u3 := Lib.hid (show ∀ W, Below u3.heap.size u3 W → W.cell? ⟨w.heap.size, 0, none⟩ = some (.bool (ng p)) ∧ W.cell? ⟨w.heap.size, 1, none⟩ = some (.slice a1 (ln (tp p)) k1) ∧ W.cell? ⟨w.heap.size, 2, none⟩ = some (.slice a2 (ln p.den) k2) ∧ W.cell? ⟨w.heap.size + 1, 0, none⟩ = some (.bool (ng q)) ∧ W.cell? ⟨w.heap.size + 1, 1, none⟩ = some (.slice a3 (ln (tp q)) k3) ∧ W.cell? ⟨w.heap.size + 1, 2, none⟩ = some (.slice a4 (ln q.den) k4) from fun W h =>
      ⟨(HQ1.out.keep h).c0, (HQ1.out.keep h).c1, (HQ1.out.keep h).c2, (HQ2.out.keep h).c0, (HQ2.out.keep h).c1, (HQ2.out.keep h).c2⟩)
  have HT_u3 := Lib.hid (show ∀ W m x y, Below u3.heap.size u3 W → (st3 W (w.heap.size + 2) m x y).cell? ⟨w.heap.size, 0, none⟩ = some (.bool (ng p)) ∧ (st3 W (w.heap.size + 2) m x y).cell? ⟨w.heap.size, 1, none⟩ = some (.slice a1 (ln (tp p)) k1) ∧ (st3 W (w.heap.size + 2) m x y).cell? ⟨w.heap.size, 2, none⟩ = some (.slice a2 (ln p.den) k2) ∧ (st3 W (w.heap.size + 2) m x y).cell? ⟨w.heap.size + 1, 0, none⟩ = some (.bool (ng q)) ∧ (st3 W (w.heap.size + 2) m x y).cell? ⟨w.heap.size + 1, 1, none⟩ = some (.slice a3 (ln (tp q)) k3) ∧ (st3 W (w.heap.size + 2) m x y).cell? ⟨w.heap.size + 1, 2, none⟩ = some (.slice a4 (ln q.den) k4) from fun W m x y h => by
      have q1 := (HQ1.out.keep h).stOther (g := w.heap.size + 2) (by omega) m x y
      have q2 := (HQ2.out.keep h).stOther (g := w.heap.size + 2) (by omega) m x y
      exact ⟨q1.c0, q1.c1, q1.c2, q2.c0, q2.c1, q2.c2⟩)
  have hD_u3 := (Below.refl u3.heap.size u3).drew
  go_region_held3 (fun W => W.cell? ⟨w.heap.size, 0, none⟩ = some (.bool (ng p)) ∧ W.cell? ⟨w.heap.size, 1, none⟩ = some (.slice a1 (ln (tp p)) k1) ∧ W.cell? ⟨w.heap.size, 2, none⟩ = some (.slice a2 (ln p.den) k2) ∧ W.cell? ⟨w.heap.size + 1, 0, none⟩ = some (.bool (ng q)) ∧ W.cell? ⟨w.heap.size + 1, 1, none⟩ = some (.slice a3 (ln (tp q)) k3) ∧ W.cell? ⟨w.heap.size + 1, 2, none⟩ = some (.slice a4 (ln q.den) k4))
    (first | exact HS_u3.out _ hD_u3 | exact HS_u3.out _ (by assumption) | exact HT_u3.out _ _ _ _ (by assumption))
    (first
      | (go_at_call 113; refine (lift_i (w0 := u3) (by assumption) (iplus_any (a := tp p * q.den) (b := tp q * p.den) (HVX.out.below (by assumption)) (HVY.out.below (by assumption)) (by have := HM.out; omega) (by have := HM.out; omega) (by have := HTOP.out; omega))).mono ?_; rintro e u5 ⟨vt, rfl, hvt, hbt, hBt⟩; obtain ⟨att, ktt, rfl⟩ := islice_any hvt)
      | (go_at_call 100; refine (lift_qq (w0 := u3) (by assumption) (HR.out ▸ rreduce_q (m := ng p) (n := tp p * q.den + tp q * p.den) (d := p.den * q.den) hvt (HVD.out.below (by assumption)) HTOP.out HM.out.2.1 HD.out)).mono ?_; rintro e u6 ⟨z, rfl, hz, hbz, hBz⟩; obtain ⟨a5, k5, a6, k6, rfl⟩ := hz.form; have i0 := (HQ3.out.keep hBz).c0; have i1 := (HQ3.out.keep hBz).c1; have i2 := (HQ3.out.keep hBz).c2; have j0 := (HQ3.out.keep hBz).z0; have j1 := (HQ3.out.keep hBz).z1; have j2 := (HQ3.out.keep hBz).z2))
  obtain ⟨_, hz1, hz2⟩ := hz.nums
  have hq := (HQ3.out.keep hBz).st (ng (r)) (.slice a5 (ln (tp (r))) k5) (.slice a6 (ln (r).den) k6)
  have hn1 := hz1.st3 (HQ3.out.keep hBz) (ng (r)) (.slice a5 (ln (tp (r))) k5) (.slice a6 (ln (r).den) k6)
  have hn2 := hz2.st3 (HQ3.out.keep hBz) (ng (r)) (.slice a5 (ln (tp (r))) k5) (.slice a6 (ln (r).den) k6)
  have hbf := below_st3 (HB.out.trans (hBz.mono HB.out.size)) (show w.heap.size ≤ w.heap.size + 2 by omega) (ng (r)) (.slice a5 (ln (tp (r))) k5) (.slice a6 (ln (r).den) k6)
  have HF := Lib.hid (And.intro hq (And.intro hn1 (And.intro hn2 hbf)))
  clear hq hn1 hn2 hbf i0 i1 i2 j0 j1 j2 hz hz1 hz2 hbz hBz hvt hbt hBt hD_u3
  go_wp2_with fail
  exact bodyPost_ret (HF.out.1.resP rfl) rfl ⟨_, rfl, ⟨_, _, rfl, HF.out.2.1, HF.out.2.2.1⟩, HF.out.2.2.2⟩

set_option maxHeartbeats 6400000 in
set_option maxRecDepth 100000 in
theorem rplus_B {w : World} {v u : Value} {p q r : Rat} (hp : QQ w v p) (hq : QQ w u q) (lp : QL 200000 p) (lq : QL 200000 q) (hr : p + q = r) (hm : ng p ≠ ng q) (hc : tp q * p.den ≤ tp p * q.den) :
    Calls Tryz.prog 94 #[v, u] w fun e w' => ∃ z, e = .returned z ∧ QQ w' z r ∧ Below w.heap.size w w' := by
  obtain ⟨a1, k1, a2, k2, rfl⟩ := hp.form
  obtain ⟨a3, k3, a4, k4, rfl⟩ := hq.form
  obtain ⟨_, hx1, hy1⟩ := hp.nums
  obtain ⟨_, hx2, hy2⟩ := hq.nums
  obtain ⟨hb0, hq1, hq2, hq3⟩ := three_newQ w (ng p) (ng q) false (.slice a1 (ln (tp p)) k1) (.slice a2 (ln p.den) k2) (.slice a3 (ln (tp q)) k3) (.slice a4 (ln q.den) k4) (.slice none 0 0) (.slice none 0 0)
  have HX1 := Lib.hid (hx1.below hb0)
  have HY1 := Lib.hid (hy1.below hb0)
  have HX2 := Lib.hid (hx2.below hb0)
  have HY2 := Lib.hid (hy2.below hb0)
  have HB := Lib.hid hb0
  have HQ1 := Lib.hid hq1
  have HQ2 := Lib.hid hq2
  have HQ3 := Lib.hid hq3
  have HL := Lib.hid (show ln (tp p) ≤ 1000000 ∧ ln p.den ≤ 1000000 ∧ ln (tp q) ≤ 1000000 ∧ ln q.den ≤ 1000000 from ⟨by have := lp.1; omega, by have := lp.2; omega, by have := lq.1; omega, by have := lq.2; omega⟩)
  have lt1 := ln_mul lp.1 lq.1
  have ld1 := ln_mul lp.2 lq.2
  have lx1 := ln_mul lp.1 lq.2
  have ly1 := ln_mul lq.1 lp.2
  have HM := Lib.hid (show ln (tp p * tp q) ≤ 1000000 ∧ ln (p.den * q.den) ≤ 1000000 ∧ ln (tp p * q.den) ≤ 400000 ∧ ln (tp q * p.den) ≤ 400000 from ⟨by omega, by omega, by omega, by omega⟩)
  have HD := Lib.hid (Nat.mul_ne_zero p.den_nz q.den_nz)
  have HR := Lib.hid (show mkQ (ng p) (tp p * q.den - tp q * p.den) (p.den * q.den) = r from (by rw [← hr, ← add_mk]; unfold sNeg sTop; rw [if_neg hm, if_neg hm, if_pos hc, if_pos hc]))
  have HTOP := Lib.hid (show ln (tp p * q.den - tp q * p.den) ≤ 1000000 from Nat.le_trans (ln_sub (N := 400000) (by omega)) (by omega))
  have hmm : (ng p == ng q) = false := by rw [beq_eq_false_iff_ne]; exact hm
  have HC := Lib.hid hc
  have hcc : ¬ cmpN (tp p * q.den) (tp q * p.den) < 0 := by have := cmpN_high hc; omega
  clear hp hq hx1 hy1 hx2 hy2 hb0 hq1 hq2 hq3 lp lq lt1 ld1 lx1 ly1 hr hm hc
  go_enter Tryz.func94, Tryz.ntmps94
  go_wp2_with fail
  generalize ((w.alloc (.cells #[.bool (ng p), .slice a1 (ln (tp p)) k1, .slice a2 (ln p.den) k2] 78)).alloc (.cells #[.bool (ng q), .slice a3 (ln (tp q)) k3, .slice a4 (ln q.den) k4] 78)).alloc (.cells #[.bool false, .slice none 0 0, .slice none 0 0] 78) = w0 at HX1 HY1 HX2 HY2 HB HQ1 HQ2 HQ3 ⊢
  have HS_w0 := Lib.hid (show ∀ W, Below w0.heap.size w0 W → W.cell? ⟨w.heap.size, 0, none⟩ = some (.bool (ng p)) ∧ W.cell? ⟨w.heap.size, 1, none⟩ = some (.slice a1 (ln (tp p)) k1) ∧ W.cell? ⟨w.heap.size, 2, none⟩ = some (.slice a2 (ln p.den) k2) ∧ W.cell? ⟨w.heap.size + 1, 0, none⟩ = some (.bool (ng q)) ∧ W.cell? ⟨w.heap.size + 1, 1, none⟩ = some (.slice a3 (ln (tp q)) k3) ∧ W.cell? ⟨w.heap.size + 1, 2, none⟩ = some (.slice a4 (ln q.den) k4) from fun W h =>
      ⟨(HQ1.out.keep h).c0, (HQ1.out.keep h).c1, (HQ1.out.keep h).c2, (HQ2.out.keep h).c0, (HQ2.out.keep h).c1, (HQ2.out.keep h).c2⟩)
  have HT_w0 := Lib.hid (show ∀ W m x y, Below w0.heap.size w0 W → (st3 W (w.heap.size + 2) m x y).cell? ⟨w.heap.size, 0, none⟩ = some (.bool (ng p)) ∧ (st3 W (w.heap.size + 2) m x y).cell? ⟨w.heap.size, 1, none⟩ = some (.slice a1 (ln (tp p)) k1) ∧ (st3 W (w.heap.size + 2) m x y).cell? ⟨w.heap.size, 2, none⟩ = some (.slice a2 (ln p.den) k2) ∧ (st3 W (w.heap.size + 2) m x y).cell? ⟨w.heap.size + 1, 0, none⟩ = some (.bool (ng q)) ∧ (st3 W (w.heap.size + 2) m x y).cell? ⟨w.heap.size + 1, 1, none⟩ = some (.slice a3 (ln (tp q)) k3) ∧ (st3 W (w.heap.size + 2) m x y).cell? ⟨w.heap.size + 1, 2, none⟩ = some (.slice a4 (ln q.den) k4) from fun W m x y h => by
      have q1 := (HQ1.out.keep h).stOther (g := w.heap.size + 2) (by omega) m x y
      have q2 := (HQ2.out.keep h).stOther (g := w.heap.size + 2) (by omega) m x y
      exact ⟨q1.c0, q1.c1, q1.c2, q2.c0, q2.c1, q2.c2⟩)
  have hD_w0 := (Below.refl w0.heap.size w0).drew
  go_region_held3 (fun W => W.cell? ⟨w.heap.size, 0, none⟩ = some (.bool (ng p)) ∧ W.cell? ⟨w.heap.size, 1, none⟩ = some (.slice a1 (ln (tp p)) k1) ∧ W.cell? ⟨w.heap.size, 2, none⟩ = some (.slice a2 (ln p.den) k2) ∧ W.cell? ⟨w.heap.size + 1, 0, none⟩ = some (.bool (ng q)) ∧ W.cell? ⟨w.heap.size + 1, 1, none⟩ = some (.slice a3 (ln (tp q)) k3) ∧ W.cell? ⟨w.heap.size + 1, 2, none⟩ = some (.slice a4 (ln q.den) k4))
    (first | exact HS_w0.out _ hD_w0 | exact HS_w0.out _ (by assumption) | exact HT_w0.out _ _ _ _ (by assumption))
    (first
      | (go_at_call_of 118 (Value.slice a1 (ln (tp p)) k1); refine (lift_i (w0 := w0) (by assumption) (itimes_any (a := tp p) (b := q.den) (HX1.out.below (by assumption)) (HY2.out.below (by assumption)) HL.out.1 HL.out.2.2.2)).mono ?_; rintro e u1 ⟨vx, rfl, hvx, hbx, hBx⟩; obtain ⟨ax, kx, rfl⟩ := islice_any hvx)
      | (go_at_call_of 118 (Value.slice a3 (ln (tp q)) k3); refine (lift_i (w0 := w0) (by assumption) (itimes_any (a := tp q) (b := p.den) (HX2.out.below (by assumption)) (HY1.out.below (by assumption)) HL.out.2.2.1 HL.out.2.1)).mono ?_; rintro e u2 ⟨vy, rfl, hvy, hby, hBy⟩; obtain ⟨ay, ky, rfl⟩ := islice_any hvy))
  replace HY1 := Lib.hid (HY1.out.below hBy)
  replace HY2 := Lib.hid (HY2.out.below hBy)
  replace HQ1 := Lib.hid (HQ1.out.keep hBy)
  replace HQ2 := Lib.hid (HQ2.out.keep hBy)
  replace HQ3 := Lib.hid (HQ3.out.keep hBy)
  replace HB := Lib.hid (HB.out.trans (hBy.mono HB.out.size))
  have HVX := Lib.hid (hvx.below hby)
  have HVY := Lib.hid hvy
  clear hvx hbx hBx hvy hby hBy hD_w0 HS_w0 HT_w0 HX1 HX2
  have c2 := HQ1.out.c2
  have d2 := HQ2.out.c2
  go_wp2_with fail
  refine (itimes_any HY1.out HY2.out HL.out.2.1 HL.out.2.2.2).mono ?_
  rintro e u3 ⟨vd, rfl, hvd, hbd⟩
  obtain ⟨ad, kd, rfl⟩ := islice_any hvd
  replace HQ1 := Lib.hid (HQ1.out.keep hbd)
  replace HQ2 := Lib.hid (HQ2.out.keep hbd)
  replace HQ3 := Lib.hid (HQ3.out.keep hbd)
  replace HVX := Lib.hid (HVX.out.below hbd)
  replace HVY := Lib.hid (HVY.out.below hbd)
  replace HB := Lib.hid (HB.out.trans (hbd.mono HB.out.size))
  have HVD := Lib.hid hvd
  clear hvd hbd c2 d2 HY1 HY2
  have c0 := HQ1.out.c0
  have d0 := HQ2.out.c0
  go_wp2_with fail
  refine (iorder_any HVX.out HVY.out (by have := HM.out; omega) (by have := HM.out; omega)).mono ?_
  rintro e u4 ⟨rfl, hbo⟩
  replace HQ1 := Lib.hid (HQ1.out.keep hbo)
  replace HQ2 := Lib.hid (HQ2.out.keep hbo)
  replace HQ3 := Lib.hid (HQ3.out.keep hbo)
  replace HVX := Lib.hid (HVX.out.below hbo)
  replace HVY := Lib.hid (HVY.out.below hbo)
  replace HVD := Lib.hid (HVD.out.below hbo)
  replace HB := Lib.hid (HB.out.trans (hbo.mono HB.out.size))
  clear hbo
  go_wp2_with fail
  clear c0 d0 hcc hmm
  have HS_u4 := Lib.hid (show ∀ W, Below u4.heap.size u4 W → W.cell? ⟨w.heap.size, 0, none⟩ = some (.bool (ng p)) ∧ W.cell? ⟨w.heap.size, 1, none⟩ = some (.slice a1 (ln (tp p)) k1) ∧ W.cell? ⟨w.heap.size, 2, none⟩ = some (.slice a2 (ln p.den) k2) ∧ W.cell? ⟨w.heap.size + 1, 0, none⟩ = some (.bool (ng q)) ∧ W.cell? ⟨w.heap.size + 1, 1, none⟩ = some (.slice a3 (ln (tp q)) k3) ∧ W.cell? ⟨w.heap.size + 1, 2, none⟩ = some (.slice a4 (ln q.den) k4) from fun W h =>
      ⟨(HQ1.out.keep h).c0, (HQ1.out.keep h).c1, (HQ1.out.keep h).c2, (HQ2.out.keep h).c0, (HQ2.out.keep h).c1, (HQ2.out.keep h).c2⟩)
  have HT_u4 := Lib.hid (show ∀ W m x y, Below u4.heap.size u4 W → (st3 W (w.heap.size + 2) m x y).cell? ⟨w.heap.size, 0, none⟩ = some (.bool (ng p)) ∧ (st3 W (w.heap.size + 2) m x y).cell? ⟨w.heap.size, 1, none⟩ = some (.slice a1 (ln (tp p)) k1) ∧ (st3 W (w.heap.size + 2) m x y).cell? ⟨w.heap.size, 2, none⟩ = some (.slice a2 (ln p.den) k2) ∧ (st3 W (w.heap.size + 2) m x y).cell? ⟨w.heap.size + 1, 0, none⟩ = some (.bool (ng q)) ∧ (st3 W (w.heap.size + 2) m x y).cell? ⟨w.heap.size + 1, 1, none⟩ = some (.slice a3 (ln (tp q)) k3) ∧ (st3 W (w.heap.size + 2) m x y).cell? ⟨w.heap.size + 1, 2, none⟩ = some (.slice a4 (ln q.den) k4) from fun W m x y h => by
      have q1 := (HQ1.out.keep h).stOther (g := w.heap.size + 2) (by omega) m x y
      have q2 := (HQ2.out.keep h).stOther (g := w.heap.size + 2) (by omega) m x y
      exact ⟨q1.c0, q1.c1, q1.c2, q2.c0, q2.c1, q2.c2⟩)
  have hD_u4 := (Below.refl u4.heap.size u4).drew
  go_region_held3 (fun W => W.cell? ⟨w.heap.size, 0, none⟩ = some (.bool (ng p)) ∧ W.cell? ⟨w.heap.size, 1, none⟩ = some (.slice a1 (ln (tp p)) k1) ∧ W.cell? ⟨w.heap.size, 2, none⟩ = some (.slice a2 (ln p.den) k2) ∧ W.cell? ⟨w.heap.size + 1, 0, none⟩ = some (.bool (ng q)) ∧ W.cell? ⟨w.heap.size + 1, 1, none⟩ = some (.slice a3 (ln (tp q)) k3) ∧ W.cell? ⟨w.heap.size + 1, 2, none⟩ = some (.slice a4 (ln q.den) k4))
    (first | exact HS_u4.out _ hD_u4 | exact HS_u4.out _ (by assumption) | exact HT_u4.out _ _ _ _ (by assumption))
    (first
      | (go_at_call 146; refine (lift_i (w0 := u4) (by assumption) (iminus_any (a := tp p * q.den) (b := tp q * p.den) (HVX.out.below (by assumption)) (HVY.out.below (by assumption)) (by have := HM.out; omega) HC.out)).mono ?_; rintro e u5 ⟨vt, rfl, hvt, hbt, hBt⟩; obtain ⟨att, ktt, rfl⟩ := islice_any hvt)
      | (go_at_call 100; refine (lift_qq (w0 := u4) (by assumption) (HR.out ▸ rreduce_q (m := ng p) (n := tp p * q.den - tp q * p.den) (d := p.den * q.den) hvt (HVD.out.below (by assumption)) HTOP.out HM.out.2.1 HD.out)).mono ?_; rintro e u6 ⟨z, rfl, hz, hbz, hBz⟩; obtain ⟨a5, k5, a6, k6, rfl⟩ := hz.form; have i0 := (HQ3.out.keep hBz).c0; have i1 := (HQ3.out.keep hBz).c1; have i2 := (HQ3.out.keep hBz).c2; have j0 := (HQ3.out.keep hBz).z0; have j1 := (HQ3.out.keep hBz).z1; have j2 := (HQ3.out.keep hBz).z2))
  obtain ⟨_, hz1, hz2⟩ := hz.nums
  have hq := (HQ3.out.keep hBz).st (ng (r)) (.slice a5 (ln (tp (r))) k5) (.slice a6 (ln (r).den) k6)
  have hn1 := hz1.st3 (HQ3.out.keep hBz) (ng (r)) (.slice a5 (ln (tp (r))) k5) (.slice a6 (ln (r).den) k6)
  have hn2 := hz2.st3 (HQ3.out.keep hBz) (ng (r)) (.slice a5 (ln (tp (r))) k5) (.slice a6 (ln (r).den) k6)
  have hbf := below_st3 (HB.out.trans (hBz.mono HB.out.size)) (show w.heap.size ≤ w.heap.size + 2 by omega) (ng (r)) (.slice a5 (ln (tp (r))) k5) (.slice a6 (ln (r).den) k6)
  have HF := Lib.hid (And.intro hq (And.intro hn1 (And.intro hn2 hbf)))
  clear hq hn1 hn2 hbf i0 i1 i2 j0 j1 j2 hz hz1 hz2 hbz hBz hvt hbt hBt hD_u4
  go_wp2_with fail
  exact bodyPost_ret (HF.out.1.resP rfl) rfl ⟨_, rfl, ⟨_, _, rfl, HF.out.2.1, HF.out.2.2.1⟩, HF.out.2.2.2⟩

set_option maxHeartbeats 6400000 in
set_option maxRecDepth 100000 in
theorem rplus_C {w : World} {v u : Value} {p q r : Rat} (hp : QQ w v p) (hq : QQ w u q) (lp : QL 200000 p) (lq : QL 200000 q) (hr : p + q = r) (hm : ng p ≠ ng q) (hc : ¬ tp q * p.den ≤ tp p * q.den) :
    Calls Tryz.prog 94 #[v, u] w fun e w' => ∃ z, e = .returned z ∧ QQ w' z r ∧ Below w.heap.size w w' := by
  obtain ⟨a1, k1, a2, k2, rfl⟩ := hp.form
  obtain ⟨a3, k3, a4, k4, rfl⟩ := hq.form
  obtain ⟨_, hx1, hy1⟩ := hp.nums
  obtain ⟨_, hx2, hy2⟩ := hq.nums
  obtain ⟨hb0, hq1, hq2, hq3⟩ := three_newQ w (ng p) (ng q) false (.slice a1 (ln (tp p)) k1) (.slice a2 (ln p.den) k2) (.slice a3 (ln (tp q)) k3) (.slice a4 (ln q.den) k4) (.slice none 0 0) (.slice none 0 0)
  have HX1 := Lib.hid (hx1.below hb0)
  have HY1 := Lib.hid (hy1.below hb0)
  have HX2 := Lib.hid (hx2.below hb0)
  have HY2 := Lib.hid (hy2.below hb0)
  have HB := Lib.hid hb0
  have HQ1 := Lib.hid hq1
  have HQ2 := Lib.hid hq2
  have HQ3 := Lib.hid hq3
  have HL := Lib.hid (show ln (tp p) ≤ 1000000 ∧ ln p.den ≤ 1000000 ∧ ln (tp q) ≤ 1000000 ∧ ln q.den ≤ 1000000 from ⟨by have := lp.1; omega, by have := lp.2; omega, by have := lq.1; omega, by have := lq.2; omega⟩)
  have lt1 := ln_mul lp.1 lq.1
  have ld1 := ln_mul lp.2 lq.2
  have lx1 := ln_mul lp.1 lq.2
  have ly1 := ln_mul lq.1 lp.2
  have HM := Lib.hid (show ln (tp p * tp q) ≤ 1000000 ∧ ln (p.den * q.den) ≤ 1000000 ∧ ln (tp p * q.den) ≤ 400000 ∧ ln (tp q * p.den) ≤ 400000 from ⟨by omega, by omega, by omega, by omega⟩)
  have HD := Lib.hid (Nat.mul_ne_zero p.den_nz q.den_nz)
  have HR := Lib.hid (show mkQ (ng q) (tp q * p.den - tp p * q.den) (p.den * q.den) = r from (by rw [← hr, ← add_mk]; unfold sNeg sTop; rw [if_neg hm, if_neg hm, if_neg hc, if_neg hc]))
  have HTOP := Lib.hid (show ln (tp q * p.den - tp p * q.den) ≤ 1000000 from Nat.le_trans (ln_sub (N := 400000) (by omega)) (by omega))
  have hmm : (ng p == ng q) = false := by rw [beq_eq_false_iff_ne]; exact hm
  have HC := Lib.hid (show tp p * q.den ≤ tp q * p.den by omega)
  have hcc : cmpN (tp p * q.den) (tp q * p.den) < 0 := cmpN_low (by omega)
  clear hp hq hx1 hy1 hx2 hy2 hb0 hq1 hq2 hq3 lp lq lt1 ld1 lx1 ly1 hr hm hc
  go_enter Tryz.func94, Tryz.ntmps94
  go_wp2_with fail
  generalize ((w.alloc (.cells #[.bool (ng p), .slice a1 (ln (tp p)) k1, .slice a2 (ln p.den) k2] 78)).alloc (.cells #[.bool (ng q), .slice a3 (ln (tp q)) k3, .slice a4 (ln q.den) k4] 78)).alloc (.cells #[.bool false, .slice none 0 0, .slice none 0 0] 78) = w0 at HX1 HY1 HX2 HY2 HB HQ1 HQ2 HQ3 ⊢
  have HS_w0 := Lib.hid (show ∀ W, Below w0.heap.size w0 W → W.cell? ⟨w.heap.size, 0, none⟩ = some (.bool (ng p)) ∧ W.cell? ⟨w.heap.size, 1, none⟩ = some (.slice a1 (ln (tp p)) k1) ∧ W.cell? ⟨w.heap.size, 2, none⟩ = some (.slice a2 (ln p.den) k2) ∧ W.cell? ⟨w.heap.size + 1, 0, none⟩ = some (.bool (ng q)) ∧ W.cell? ⟨w.heap.size + 1, 1, none⟩ = some (.slice a3 (ln (tp q)) k3) ∧ W.cell? ⟨w.heap.size + 1, 2, none⟩ = some (.slice a4 (ln q.den) k4) from fun W h =>
      ⟨(HQ1.out.keep h).c0, (HQ1.out.keep h).c1, (HQ1.out.keep h).c2, (HQ2.out.keep h).c0, (HQ2.out.keep h).c1, (HQ2.out.keep h).c2⟩)
  have HT_w0 := Lib.hid (show ∀ W m x y, Below w0.heap.size w0 W → (st3 W (w.heap.size + 2) m x y).cell? ⟨w.heap.size, 0, none⟩ = some (.bool (ng p)) ∧ (st3 W (w.heap.size + 2) m x y).cell? ⟨w.heap.size, 1, none⟩ = some (.slice a1 (ln (tp p)) k1) ∧ (st3 W (w.heap.size + 2) m x y).cell? ⟨w.heap.size, 2, none⟩ = some (.slice a2 (ln p.den) k2) ∧ (st3 W (w.heap.size + 2) m x y).cell? ⟨w.heap.size + 1, 0, none⟩ = some (.bool (ng q)) ∧ (st3 W (w.heap.size + 2) m x y).cell? ⟨w.heap.size + 1, 1, none⟩ = some (.slice a3 (ln (tp q)) k3) ∧ (st3 W (w.heap.size + 2) m x y).cell? ⟨w.heap.size + 1, 2, none⟩ = some (.slice a4 (ln q.den) k4) from fun W m x y h => by
      have q1 := (HQ1.out.keep h).stOther (g := w.heap.size + 2) (by omega) m x y
      have q2 := (HQ2.out.keep h).stOther (g := w.heap.size + 2) (by omega) m x y
      exact ⟨q1.c0, q1.c1, q1.c2, q2.c0, q2.c1, q2.c2⟩)
  have hD_w0 := (Below.refl w0.heap.size w0).drew
  go_region_held3 (fun W => W.cell? ⟨w.heap.size, 0, none⟩ = some (.bool (ng p)) ∧ W.cell? ⟨w.heap.size, 1, none⟩ = some (.slice a1 (ln (tp p)) k1) ∧ W.cell? ⟨w.heap.size, 2, none⟩ = some (.slice a2 (ln p.den) k2) ∧ W.cell? ⟨w.heap.size + 1, 0, none⟩ = some (.bool (ng q)) ∧ W.cell? ⟨w.heap.size + 1, 1, none⟩ = some (.slice a3 (ln (tp q)) k3) ∧ W.cell? ⟨w.heap.size + 1, 2, none⟩ = some (.slice a4 (ln q.den) k4))
    (first | exact HS_w0.out _ hD_w0 | exact HS_w0.out _ (by assumption) | exact HT_w0.out _ _ _ _ (by assumption))
    (first
      | (go_at_call_of 118 (Value.slice a1 (ln (tp p)) k1); refine (lift_i (w0 := w0) (by assumption) (itimes_any (a := tp p) (b := q.den) (HX1.out.below (by assumption)) (HY2.out.below (by assumption)) HL.out.1 HL.out.2.2.2)).mono ?_; rintro e u1 ⟨vx, rfl, hvx, hbx, hBx⟩; obtain ⟨ax, kx, rfl⟩ := islice_any hvx)
      | (go_at_call_of 118 (Value.slice a3 (ln (tp q)) k3); refine (lift_i (w0 := w0) (by assumption) (itimes_any (a := tp q) (b := p.den) (HX2.out.below (by assumption)) (HY1.out.below (by assumption)) HL.out.2.2.1 HL.out.2.1)).mono ?_; rintro e u2 ⟨vy, rfl, hvy, hby, hBy⟩; obtain ⟨ay, ky, rfl⟩ := islice_any hvy))
  replace HY1 := Lib.hid (HY1.out.below hBy)
  replace HY2 := Lib.hid (HY2.out.below hBy)
  replace HQ1 := Lib.hid (HQ1.out.keep hBy)
  replace HQ2 := Lib.hid (HQ2.out.keep hBy)
  replace HQ3 := Lib.hid (HQ3.out.keep hBy)
  replace HB := Lib.hid (HB.out.trans (hBy.mono HB.out.size))
  have HVX := Lib.hid (hvx.below hby)
  have HVY := Lib.hid hvy
  clear hvx hbx hBx hvy hby hBy hD_w0 HS_w0 HT_w0 HX1 HX2
  have c2 := HQ1.out.c2
  have d2 := HQ2.out.c2
  go_wp2_with fail
  refine (itimes_any HY1.out HY2.out HL.out.2.1 HL.out.2.2.2).mono ?_
  rintro e u3 ⟨vd, rfl, hvd, hbd⟩
  obtain ⟨ad, kd, rfl⟩ := islice_any hvd
  replace HQ1 := Lib.hid (HQ1.out.keep hbd)
  replace HQ2 := Lib.hid (HQ2.out.keep hbd)
  replace HQ3 := Lib.hid (HQ3.out.keep hbd)
  replace HVX := Lib.hid (HVX.out.below hbd)
  replace HVY := Lib.hid (HVY.out.below hbd)
  replace HB := Lib.hid (HB.out.trans (hbd.mono HB.out.size))
  have HVD := Lib.hid hvd
  clear hvd hbd c2 d2 HY1 HY2
  have c0 := HQ1.out.c0
  have d0 := HQ2.out.c0
  go_wp2_with fail
  refine (iorder_any HVX.out HVY.out (by have := HM.out; omega) (by have := HM.out; omega)).mono ?_
  rintro e u4 ⟨rfl, hbo⟩
  replace HQ1 := Lib.hid (HQ1.out.keep hbo)
  replace HQ2 := Lib.hid (HQ2.out.keep hbo)
  replace HQ3 := Lib.hid (HQ3.out.keep hbo)
  replace HVX := Lib.hid (HVX.out.below hbo)
  replace HVY := Lib.hid (HVY.out.below hbo)
  replace HVD := Lib.hid (HVD.out.below hbo)
  replace HB := Lib.hid (HB.out.trans (hbo.mono HB.out.size))
  clear hbo
  go_wp2_with fail
  clear c0 d0 hcc hmm
  have HS_u4 := Lib.hid (show ∀ W, Below u4.heap.size u4 W → W.cell? ⟨w.heap.size, 0, none⟩ = some (.bool (ng p)) ∧ W.cell? ⟨w.heap.size, 1, none⟩ = some (.slice a1 (ln (tp p)) k1) ∧ W.cell? ⟨w.heap.size, 2, none⟩ = some (.slice a2 (ln p.den) k2) ∧ W.cell? ⟨w.heap.size + 1, 0, none⟩ = some (.bool (ng q)) ∧ W.cell? ⟨w.heap.size + 1, 1, none⟩ = some (.slice a3 (ln (tp q)) k3) ∧ W.cell? ⟨w.heap.size + 1, 2, none⟩ = some (.slice a4 (ln q.den) k4) from fun W h =>
      ⟨(HQ1.out.keep h).c0, (HQ1.out.keep h).c1, (HQ1.out.keep h).c2, (HQ2.out.keep h).c0, (HQ2.out.keep h).c1, (HQ2.out.keep h).c2⟩)
  have HT_u4 := Lib.hid (show ∀ W m x y, Below u4.heap.size u4 W → (st3 W (w.heap.size + 2) m x y).cell? ⟨w.heap.size, 0, none⟩ = some (.bool (ng p)) ∧ (st3 W (w.heap.size + 2) m x y).cell? ⟨w.heap.size, 1, none⟩ = some (.slice a1 (ln (tp p)) k1) ∧ (st3 W (w.heap.size + 2) m x y).cell? ⟨w.heap.size, 2, none⟩ = some (.slice a2 (ln p.den) k2) ∧ (st3 W (w.heap.size + 2) m x y).cell? ⟨w.heap.size + 1, 0, none⟩ = some (.bool (ng q)) ∧ (st3 W (w.heap.size + 2) m x y).cell? ⟨w.heap.size + 1, 1, none⟩ = some (.slice a3 (ln (tp q)) k3) ∧ (st3 W (w.heap.size + 2) m x y).cell? ⟨w.heap.size + 1, 2, none⟩ = some (.slice a4 (ln q.den) k4) from fun W m x y h => by
      have q1 := (HQ1.out.keep h).stOther (g := w.heap.size + 2) (by omega) m x y
      have q2 := (HQ2.out.keep h).stOther (g := w.heap.size + 2) (by omega) m x y
      exact ⟨q1.c0, q1.c1, q1.c2, q2.c0, q2.c1, q2.c2⟩)
  have hD_u4 := (Below.refl u4.heap.size u4).drew
  go_region_held3 (fun W => W.cell? ⟨w.heap.size, 0, none⟩ = some (.bool (ng p)) ∧ W.cell? ⟨w.heap.size, 1, none⟩ = some (.slice a1 (ln (tp p)) k1) ∧ W.cell? ⟨w.heap.size, 2, none⟩ = some (.slice a2 (ln p.den) k2) ∧ W.cell? ⟨w.heap.size + 1, 0, none⟩ = some (.bool (ng q)) ∧ W.cell? ⟨w.heap.size + 1, 1, none⟩ = some (.slice a3 (ln (tp q)) k3) ∧ W.cell? ⟨w.heap.size + 1, 2, none⟩ = some (.slice a4 (ln q.den) k4))
    (first | exact HS_u4.out _ hD_u4 | exact HS_u4.out _ (by assumption) | exact HT_u4.out _ _ _ _ (by assumption))
    (first
      | (go_at_call 146; refine (lift_i (w0 := u4) (by assumption) (iminus_any (a := tp q * p.den) (b := tp p * q.den) (HVY.out.below (by assumption)) (HVX.out.below (by assumption)) (by have := HM.out; omega) HC.out)).mono ?_; rintro e u5 ⟨vt, rfl, hvt, hbt, hBt⟩; obtain ⟨att, ktt, rfl⟩ := islice_any hvt)
      | (go_at_call 100; refine (lift_qq (w0 := u4) (by assumption) (HR.out ▸ rreduce_q (m := ng q) (n := tp q * p.den - tp p * q.den) (d := p.den * q.den) hvt (HVD.out.below (by assumption)) HTOP.out HM.out.2.1 HD.out)).mono ?_; rintro e u6 ⟨z, rfl, hz, hbz, hBz⟩; obtain ⟨a5, k5, a6, k6, rfl⟩ := hz.form; have i0 := (HQ3.out.keep hBz).c0; have i1 := (HQ3.out.keep hBz).c1; have i2 := (HQ3.out.keep hBz).c2; have j0 := (HQ3.out.keep hBz).z0; have j1 := (HQ3.out.keep hBz).z1; have j2 := (HQ3.out.keep hBz).z2))
  obtain ⟨_, hz1, hz2⟩ := hz.nums
  have hq := (HQ3.out.keep hBz).st (ng (r)) (.slice a5 (ln (tp (r))) k5) (.slice a6 (ln (r).den) k6)
  have hn1 := hz1.st3 (HQ3.out.keep hBz) (ng (r)) (.slice a5 (ln (tp (r))) k5) (.slice a6 (ln (r).den) k6)
  have hn2 := hz2.st3 (HQ3.out.keep hBz) (ng (r)) (.slice a5 (ln (tp (r))) k5) (.slice a6 (ln (r).den) k6)
  have hbf := below_st3 (HB.out.trans (hBz.mono HB.out.size)) (show w.heap.size ≤ w.heap.size + 2 by omega) (ng (r)) (.slice a5 (ln (tp (r))) k5) (.slice a6 (ln (r).den) k6)
  have HF := Lib.hid (And.intro hq (And.intro hn1 (And.intro hn2 hbf)))
  clear hq hn1 hn2 hbf i0 i1 i2 j0 j1 j2 hz hz1 hz2 hbz hBz hvt hbt hBt hD_u4
  go_wp2_with fail
  exact bodyPost_ret (HF.out.1.resP rfl) rfl ⟨_, rfl, ⟨_, _, rfl, HF.out.2.1, HF.out.2.2.1⟩, HF.out.2.2.2⟩

theorem rplus_q {w : World} {v u : Value} {p q r : Rat} (hp : QQ w v p) (hq : QQ w u q) (lp : QL 200000 p) (lq : QL 200000 q) (hr : p + q = r) :
    Calls Tryz.prog 94 #[v, u] w fun e w' => ∃ z, e = .returned z ∧ QQ w' z r ∧ Below w.heap.size w w' := by
  by_cases hm : ng p = ng q
  · exact rplus_A hp hq lp lq hr hm
  · by_cases hc : tp q * p.den ≤ tp p * q.den
    · exact rplus_B hp hq lp lq hr hm hc
    · exact rplus_C hp hq lp lq hr hm hc

end Go.Proofs.YtadkijaofmcgfaaGreatDoor
