/-
  The reference of rat: its numbers as rational numbers; Read, Reduce, Negative, Over, Times, Plus, Order, Write. The reference of rat: Write, Times, Plus, Order. The reference of rat: Write and Order. The reference of rat: Order.
-/
import Derived.Test.YtjpepjooefkbkaaGreatDoorT1
import Derived.Test.YtjpepjooefkbkaaGreatDoorGG
import Derived.Test.YtjpepjooefkbkaaGreatDoorGL
import Derived.Test.YtjpepjooefkbkaaGreatDoorP16
import Derived.Test.YtjpepjooefkbkaaGreatDoorHH
namespace Go.Proofs.YtjpepjooefkbkaaGreatDoor
open Go.RowKit NV
open Go.Lib (decDigits)
theorem QR.lt {w : World} {b : Nat} {m : Bool} {n d : Value} (h : QR w b m n d) : b < w.heap.size := (Array.getElem?_eq_some_iff.1 h).1
theorem QR.keep {w w' : World} {b : Nat} {m : Bool} {n d : Value} (h : QR w b m n d) (hb : Below w.heap.size w w') : QR w' b m n d := (hb.block _ h.lt).trans h
theorem QR.c0 {w : World} {b : Nat} {m : Bool} {n d : Value} (h : QR w b m n d) : w.cell? ⟨b, 0, none⟩ = some (.bool m) := by rw [Lib.cell_of_heap h]; rfl
theorem QR.c1 {w : World} {b : Nat} {m : Bool} {n d : Value} (h : QR w b m n d) : w.cell? ⟨b, 1, none⟩ = some n := by rw [Lib.cell_of_heap h]; rfl
theorem QR.c2 {w : World} {b : Nat} {m : Bool} {n d : Value} (h : QR w b m n d) : w.cell? ⟨b, 2, none⟩ = some d := by rw [Lib.cell_of_heap h]; rfl
theorem QR.z0 {w : World} {b : Nat} {m : Bool} {n d : Value} (h : QR w b m n d) : w.frozen? ⟨b, 0, none⟩ = false := Lib.frozen_of_heap h 0
theorem QR.z1 {w : World} {b : Nat} {m : Bool} {n d : Value} (h : QR w b m n d) : w.frozen? ⟨b, 1, none⟩ = false := Lib.frozen_of_heap h 1
theorem QR.z2 {w : World} {b : Nat} {m : Bool} {n d : Value} (h : QR w b m n d) : w.frozen? ⟨b, 2, none⟩ = false := Lib.frozen_of_heap h 2
theorem QR.new (w : World) (m : Bool) (n d : Value) : QR (w.alloc (.cells #[.bool m, n, d] 61)) w.heap.size m n d := heap_alloc_new w _
theorem QR.stOther {w : World} {b g : Nat} {m : Bool} {n d : Value} (h : QR w b m n d) (hg : b ≠ g) (m' : Bool) (n' d' : Value) : QR (st3 w g m' n' d') b m n d :=
 (heap_setCell_other _ ⟨g, 2, none⟩ b _ hg).trans ((heap_setCell_other _ ⟨g, 1, none⟩ b _ hg).trans ((heap_setCell_other w ⟨g, 0, none⟩ b _ hg).trans h))
theorem three_newQ (w : World) (m1 m2 m3 : Bool) (x1 y1 x2 y2 x3 y3 : Value) :
  Below w.heap.size w (((w.alloc (.cells #[.bool m1, x1, y1] 61)).alloc (.cells #[.bool m2, x2, y2] 61)).alloc (.cells #[.bool m3, x3, y3] 61)) ∧
  QR (((w.alloc (.cells #[.bool m1, x1, y1] 61)).alloc (.cells #[.bool m2, x2, y2] 61)).alloc (.cells #[.bool m3, x3, y3] 61)) w.heap.size m1 x1 y1 ∧
  QR (((w.alloc (.cells #[.bool m1, x1, y1] 61)).alloc (.cells #[.bool m2, x2, y2] 61)).alloc (.cells #[.bool m3, x3, y3] 61)) (w.heap.size + 1) m2 x2 y2 ∧
  QR (((w.alloc (.cells #[.bool m1, x1, y1] 61)).alloc (.cells #[.bool m2, x2, y2] 61)).alloc (.cells #[.bool m3, x3, y3] 61)) (w.heap.size + 2) m3 x3 y3 := by
 have h1 := QR.new w m1 x1 y1
 have s1 : (w.alloc (.cells #[.bool m1, x1, y1] 61)).heap.size = w.heap.size + 1 := by simp
 have b1 : Below w.heap.size w (w.alloc (.cells #[.bool m1, x1, y1] 61)) := (Below.refl _ _).alloc (Nat.le_refl _) _
 generalize w.alloc (.cells #[.bool m1, x1, y1] 61) = w1 at *
 have h2 := QR.new w1 m2 x2 y2
 have s2 : (w1.alloc (.cells #[.bool m2, x2, y2] 61)).heap.size = w1.heap.size + 1 := by simp
 have b2 : Below w1.heap.size w1 (w1.alloc (.cells #[.bool m2, x2, y2] 61)) := (Below.refl _ _).alloc (Nat.le_refl _) _
 generalize w1.alloc (.cells #[.bool m2, x2, y2] 61) = w2 at *
 have h3 := QR.new w2 m3 x3 y3
 have b3 : Below w2.heap.size w2 (w2.alloc (.cells #[.bool m3, x3, y3] 61)) := (Below.refl _ _).alloc (Nat.le_refl _) _
 generalize w2.alloc (.cells #[.bool m3, x3, y3] 61) = w3 at *
 refine ⟨(b1.trans (b2.mono (by omega))).trans (b3.mono (by omega)), (h1.keep b2).keep b3, ?_, ?_⟩
 ·rw [← s1]; exact h2.keep b3
 ·rw [show w.heap.size + 2 = w2.heap.size by omega]; exact h3
theorem two_newQ (w : World) (m1 m2 : Bool) (x1 y1 x2 y2 : Value) :
  Below w.heap.size w ((w.alloc (.cells #[.bool m1, x1, y1] 61)).alloc (.cells #[.bool m2, x2, y2] 61)) ∧
  QR ((w.alloc (.cells #[.bool m1, x1, y1] 61)).alloc (.cells #[.bool m2, x2, y2] 61)) w.heap.size m1 x1 y1 ∧
  QR ((w.alloc (.cells #[.bool m1, x1, y1] 61)).alloc (.cells #[.bool m2, x2, y2] 61)) (w.heap.size + 1) m2 x2 y2 := by
 have h1 := QR.new w m1 x1 y1
 have s1 : (w.alloc (.cells #[.bool m1, x1, y1] 61)).heap.size = w.heap.size + 1 := by simp
 have b1 : Below w.heap.size w (w.alloc (.cells #[.bool m1, x1, y1] 61)) := (Below.refl _ _).alloc (Nat.le_refl _) _
 generalize w.alloc (.cells #[.bool m1, x1, y1] 61) = w1 at *
 have h2 := QR.new w1 m2 x2 y2
 have b2 : Below w1.heap.size w1 (w1.alloc (.cells #[.bool m2, x2, y2] 61)) := (Below.refl _ _).alloc (Nat.le_refl _) _
 exact ⟨b1.trans (b2.mono (by omega)), h1.keep b2, by rw [← s1]; exact h2⟩
theorem INum.setCell {w : World} {v : Value} {n g : Nat} {m : Bool} (h : INum w v n) (hg : w.cell? ⟨g, 0, none⟩ = some (.bool m)) (j : Nat) (x : Value) : INum (w.setCell ⟨g, j, none⟩ x) v n := by
 obtain ⟨a, c, rfl, h | ⟨b, rfl, h1, h2, h3⟩⟩ := h
 ·exact ⟨a, c, rfl, .inl h⟩
 ·by_cases h0 : 0 < ln n
  ·have hne : b ≠ g := by
    intro e
    have := h3 0 h0
    rw [e, hg] at this
    simp at this
   have hh : (w.setCell ⟨g, j, none⟩ x).heap[b]? = w.heap[b]? := heap_setCell_other w ⟨g, j, none⟩ b _ hne
   refine ⟨_, c, rfl, .inr ⟨b, rfl, by simpa using h1, h2, fun i hi => ?_⟩⟩
   have := h3 i hi
   simp only [World.cell?] at this ⊢
   rw [hh]
   exact this
  ·refine ⟨_, c, rfl, .inr ⟨b, rfl, by simpa using h1, h2, fun i hi => by omega⟩⟩
theorem INum.st3 {w : World} {v : Value} {n g : Nat} {m : Bool} {x0 y0 : Value} (h : INum w v n) (hq : QR w g m x0 y0) (m' : Bool) (x y : Value) : INum (Go.Proofs.YtjpepjooefkbkaaGreatDoor.st3 w g m' x y) v n := by
 have h1 := h.setCell hq.c0 0 (.bool m')
 have q1 : (w.setCell ⟨g, 0, none⟩ (.bool m')).heap[g]? = some (.cells #[.bool m', x0, y0] 61 (0, 0)) := heap_setCell_same w g 0 _ _ (.bool m') hq
 have h2 := h1.setCell (QR.c0 q1) 1 x
 have q2 : ((w.setCell ⟨g, 0, none⟩ (.bool m')).setCell ⟨g, 1, none⟩ x).heap[g]? = some (.cells #[.bool m', x, y0] 61 (0, 0)) := heap_setCell_same _ g 1 _ _ x q1
 exact h2.setCell (QR.c0 q2) 2 y
def QQ (w : World) (v : Value) (q : Rat) : Prop := ∃ x y, v = .agg #[.bool (ng q), x, y] ∧ INum w x (tp q) ∧ INum w y q.den
theorem QQ.below {w w' : World} {v : Value} {q : Rat} (h : QQ w v q) (hb : Below w.heap.size w w') : QQ w' v q := by
 obtain ⟨x, y, rfl, h1, h2⟩ := h
 exact ⟨x, y, rfl, h1.below hb, h2.below hb⟩
theorem QQ.form {w : World} {v : Value} {q : Rat} (h : QQ w v q) : ∃ a1 k1 a2 k2, v = .agg #[.bool (ng q), .slice a1 (ln (tp q)) k1, .slice a2 (ln q.den) k2] := by
 obtain ⟨x, y, rfl, hx, hy⟩ := h
 obtain ⟨a1, k1, rfl⟩ := islice_any hx
 obtain ⟨a2, k2, rfl⟩ := islice_any hy
 exact ⟨a1, k1, a2, k2, rfl⟩
theorem QQ.nums {w : World} {q : Rat} {m : Bool} {x y : Value} (h : QQ w (.agg #[.bool m, x, y]) q) : m = ng q ∧ INum w x (tp q) ∧ INum w y q.den := by
 obtain ⟨x', y', h1, h2, h3⟩ := h
 simp at h1
 obtain ⟨rfl, rfl, rfl⟩ := h1
 exact ⟨rfl, h2, h3⟩
theorem lift_i {f : Nat} {args : Array Value} {w0 W : World} {n : Nat} (h0 : Below w0.heap.size w0 W) (hc : Calls Tryz.prog f args W fun e w' => ∃ v, e = .returned v ∧ INum w' v n ∧ Below W.heap.size W w') :
  Calls Tryz.prog f args W fun e w' => ∃ v, e = .returned v ∧ INum w' v n ∧ Below W.heap.size W w' ∧ Below w0.heap.size w0 w' :=
 hc.mono fun _ _ ⟨v, h1, h2, h3⟩ => ⟨v, h1, h2, h3, h0.trans (h3.mono h0.size)⟩
theorem lift_qq {f : Nat} {args : Array Value} {w0 W : World} {q : Rat} (h0 : Below w0.heap.size w0 W) (hc : Calls Tryz.prog f args W fun e w' => ∃ v, e = .returned v ∧ QQ w' v q ∧ Below W.heap.size W w') :
  Calls Tryz.prog f args W fun e w' => ∃ v, e = .returned v ∧ QQ w' v q ∧ Below W.heap.size W w' ∧ Below w0.heap.size w0 w' :=
 hc.mono fun _ _ ⟨v, h1, h2, h3⟩ => ⟨v, h1, h2, h3, h0.trans (h3.mono h0.size)⟩
theorem QR.resD {w : World} {b : Nat} {m : Bool} {n d : Value} {tmps : Array Value} (h : QR w b m n d) (ht : tmps.getD 6 undef = .pointer (some ⟨b, 0, none⟩)) : (results Tryz.f51 tmps).run Tryz.prog w = .ok (.agg #[.bool m, n, d]) w := by
 have hl := h.load
 have ht' : tmps[6]?.getD undef = .pointer (some ⟨b, 0, none⟩) := by rw [← ht]; simp
 simp [results, ht', asAddr, hl]
theorem mkQ_zero (m : Bool) (d : Nat) : mkQ m 0 d = 0 := by unfold mkQ; cases m <;> simp
set_option maxHeartbeats 3200000 in
set_option maxRecDepth 100000 in
theorem rreduce_q {w : World} {m : Bool} {x y : Value} {n d : Nat} (hx : INum w x n) (hy : INum w y d) (l1 : ln n ≤ 1000000) (l2 : ln d ≤ 1000000) (g1 : d ≠ 0) :
  Calls Tryz.prog 51 #[.bool m, x, y] w fun e w' => ∃ z, e = .returned z ∧ QQ w' z (mkQ m n d) ∧ Below w.heap.size w w' := by
 obtain ⟨a1, k1, rfl⟩ := islice_any hx
 obtain ⟨a2, k2, rfl⟩ := islice_any hy
 have hb0 : Below w.heap.size w (w.alloc (.cells #[.bool false, .slice none 0 0, .slice none 0 0] 61)) := (Below.refl _ _).alloc (Nat.le_refl _) _
 have HQ := Lib.hid (QR.new w false (.slice none 0 0) (.slice none 0 0))
 have HB := Lib.hid hb0
 by_cases hn : n = 0
 ·have HN := Lib.hid hn
  have hl : ln n = 0 := by rw [hn, ln_zero]
  rw [hl]
  clear hx hy hb0 l1 l2 g1 hn hl
  go_enter Tryz.func51, Tryz.ntmps51
  go_wp2_with fail
  generalize w.alloc (.cells #[.bool false, .slice none 0 0, .slice none 0 0] 61) = w0 at HQ HB ⊢
  refine (rone_any w0).mono ?_
  rintro e w1 ⟨o, rfl, ho, hb1⟩
  obtain ⟨a3, k3, rfl⟩ := islice_any ho
  replace HQ := Lib.hid (HQ.out.keep hb1)
  replace HB := Lib.hid (HB.out.trans (hb1.mono HB.out.size))
  have i0 := HQ.out.c0
  have i1 := HQ.out.c1
  have i2 := HQ.out.c2
  have j0 := HQ.out.z0
  have j1 := HQ.out.z1
  have j2 := HQ.out.z2
  have ho2 := ho.st3 HQ.out false (.slice none 0 0) (.slice a3 (ln 1) k3)
  have hbf := below_st3 HB.out (Nat.le_refl w.heap.size) false (.slice none 0 0) (.slice a3 (ln 1) k3)
  have HF := Lib.hid (And.intro (HQ.out.st false (.slice none 0 0) (.slice a3 (ln 1) k3)) (And.intro ho2 hbf))
  clear ho hb1 ho2 hbf
  go_wp2_with fail
  refine bodyPost_ret (HF.out.1.resD rfl) rfl ⟨_, rfl, ?_, HF.out.2.2⟩
  rw [HN.out, mkQ_zero]
  exact ⟨.slice none 0 0, _, rfl, INum.nil _, HF.out.2.1⟩
 ·have hl : (((ln n : Nat) : Int) == 0) = false := by have := ln_pos hn; rw [beq_eq_false_iff_ne]; omega
  have p1 : Nat.gcd n d ≠ 0 := Nat.ne_of_gt (Nat.gcd_pos_of_pos_right _ (Nat.pos_of_ne_zero g1))
  obtain ⟨r1, r2, r3⟩ := red_parts m n g1
  have hnz : n / Nat.gcd n d ≠ 0 := by
   intro h
   have := Nat.div_mul_cancel (Nat.gcd_dvd_left n d)
   rw [h, Nat.zero_mul] at this
   exact hn this.symm
  rw [decide_eq_false hnz, Bool.not_false, Bool.and_true] at r3
  have HL := Lib.hid (show ln n ≤ 1000000 ∧ ln d ≤ 1000000 ∧ ln (Nat.gcd n d) ≤ 1000000 ∧ Nat.gcd n d ≠ 0 from ⟨l1, l2, gcd_ln l1 l2, p1⟩)
  have HR := Lib.hid (And.intro r1 (And.intro r2 r3))
  have HX := Lib.hid (hx.below hb0)
  have HY := Lib.hid (hy.below hb0)
  clear hx hy hb0 l1 l2 g1 hn hnz r1 r2 r3 p1
  go_enter Tryz.func51, Tryz.ntmps51
  go_wp2_with fail
  generalize w.alloc (.cells #[.bool false, .slice none 0 0, .slice none 0 0] 61) = w0 at HQ HB HX HY ⊢
  refine (icommon_any HX.out HY.out HL.out.1 HL.out.2.1).mono ?_
  rintro e w1 ⟨vg, rfl, hvg, hb1⟩
  obtain ⟨ag, kg, rfl⟩ := islice_any hvg
  replace HX := Lib.hid (HX.out.below hb1)
  replace HY := Lib.hid (HY.out.below hb1)
  replace HQ := Lib.hid (HQ.out.keep hb1)
  replace HB := Lib.hid (HB.out.trans (hb1.mono HB.out.size))
  have HG := Lib.hid hvg
  clear hvg hb1 hl
  go_wp2_with fail
  refine (idivide_any HX.out HG.out HL.out.1 HL.out.2.2.1 HL.out.2.2.2).mono ?_
  rintro e w2 ⟨vp, vr, rfl, hvp, hvr, hb2⟩
  obtain ⟨ap, kp, rfl⟩ := islice_any hvp
  obtain ⟨ar, kr, rfl⟩ := islice_any hvr
  replace HY := Lib.hid (HY.out.below hb2)
  replace HG := Lib.hid (HG.out.below hb2)
  replace HQ := Lib.hid (HQ.out.keep hb2)
  replace HB := Lib.hid (HB.out.trans (hb2.mono HB.out.size))
  have HVP := Lib.hid hvp
  clear hvp hvr hb2 HX
  go_wp2_with fail
  refine (idivide_any HY.out HG.out HL.out.2.1 HL.out.2.2.1 HL.out.2.2.2).mono ?_
  rintro e w3 ⟨vq, vs, rfl, hvq, hvs, hb3⟩
  obtain ⟨aq, kq, rfl⟩ := islice_any hvq
  obtain ⟨as1, ks1, rfl⟩ := islice_any hvs
  replace HVP := Lib.hid (HVP.out.below hb3)
  replace HQ := Lib.hid (HQ.out.keep hb3)
  replace HB := Lib.hid (HB.out.trans (hb3.mono HB.out.size))
  have i0 := HQ.out.c0
  have i1 := HQ.out.c1
  have i2 := HQ.out.c2
  have j0 := HQ.out.z0
  have j1 := HQ.out.z1
  have j2 := HQ.out.z2
  have hn1 := HVP.out.st3 HQ.out m (.slice ap (ln (n / Nat.gcd n d)) kp) (.slice aq (ln (d / Nat.gcd n d)) kq)
  have hn2 := hvq.st3 HQ.out m (.slice ap (ln (n / Nat.gcd n d)) kp) (.slice aq (ln (d / Nat.gcd n d)) kq)
  have hbf := below_st3 HB.out (Nat.le_refl w.heap.size) m (.slice ap (ln (n / Nat.gcd n d)) kp) (.slice aq (ln (d / Nat.gcd n d)) kq)
  have HF := Lib.hid (And.intro (HQ.out.st m (.slice ap (ln (n / Nat.gcd n d)) kp) (.slice aq (ln (d / Nat.gcd n d)) kq)) (And.intro hn1 (And.intro hn2 hbf)))
  clear hvq hvs hb3 hn1 hn2 hbf HY HG
  go_wp2_with fail
  refine bodyPost_ret (HF.out.1.resD rfl) rfl ⟨_, rfl, ?_, HF.out.2.2.2⟩
  unfold QQ
  rw [HR.out.1, HR.out.2.1, HR.out.2.2]
  exact ⟨_, _, rfl, HF.out.2.1, HF.out.2.2.1⟩
theorem QR.resO {w : World} {b : Nat} {m : Bool} {n d : Value} {tmps : Array Value} (h : QR w b m n d) (ht : tmps.getD 2 undef = .pointer (some ⟨b, 0, none⟩)) : (results Tryz.f23 tmps).run Tryz.prog w = .ok (.agg #[.bool m, n, d]) w := by
 have hl := h.load
 have ht' : tmps[2]?.getD undef = .pointer (some ⟨b, 0, none⟩) := by rw [← ht]; simp
 simp [results, ht', asAddr, hl]
theorem QR.resG {w : World} {b : Nat} {m : Bool} {n d : Value} {tmps : Array Value} (h : QR w b m n d) (ht : tmps.getD 2 undef = .pointer (some ⟨b, 0, none⟩)) : (results Tryz.f24 tmps).run Tryz.prog w = .ok (.agg #[.bool m, n, d]) w := by
 have hl := h.load
 have ht' : tmps[2]?.getD undef = .pointer (some ⟨b, 0, none⟩) := by rw [← ht]; simp
 simp [results, ht', asAddr, hl]
set_option maxHeartbeats 3200000 in
set_option maxRecDepth 100000 in
theorem rover_q {w : World} {v : Value} {p : Rat} (hp : QQ w v p) (h0 : p ≠ 0) :
  Calls Tryz.prog 23 #[v] w fun e w' => ∃ z, e = .returned z ∧ QQ w' z p⁻¹ ∧ Below w.heap.size w w' := by
 obtain ⟨a1, k1, a2, k2, rfl⟩ := hp.form
 obtain ⟨_, hx, hy⟩ := hp.nums
 obtain ⟨h1, h2, h3⟩ := inv_parts h0
 have HI := Lib.hid (And.intro h1 (And.intro h2 h3))
 have hw := (two_newQ w (ng p) (ng p) (.slice a1 (ln (tp p)) k1) (.slice a2 (ln p.den) k2) (.slice a2 (ln p.den) k2) (.slice a1 (ln (tp p)) k1))
 have HW := Lib.hid (And.intro hw.1 (And.intro hw.2.2 (And.intro (hx.below hw.1) (hy.below hw.1))))
 clear hp hx hy h0 h1 h2 h3 hw
 go_enter Tryz.func23, Tryz.ntmps23
 go_wp2_with fail
 refine bodyPost_ret (HW.out.2.1.resO rfl) rfl ⟨_, rfl, ?_, HW.out.1⟩
 unfold QQ
 rw [HI.out.1, HI.out.2.1, HI.out.2.2]
 exact ⟨_, _, rfl, HW.out.2.2.2, HW.out.2.2.1⟩
set_option maxHeartbeats 3200000 in
set_option maxRecDepth 100000 in
theorem rneg_q {w : World} {v : Value} {p : Rat} (hp : QQ w v p) :
  Calls Tryz.prog 24 #[v] w fun e w' => ∃ z, e = .returned z ∧ QQ w' z (-p) ∧ Below w.heap.size w w' := by
 obtain ⟨a1, k1, a2, k2, rfl⟩ := hp.form
 obtain ⟨_, hx, hy⟩ := hp.nums
 obtain ⟨h1, h2, h3⟩ := neg_parts p
 cases hm : ng p with
 | true =>
  rw [hm] at h3
  have HI := Lib.hid (And.intro h1 (And.intro h2 (show ng (-p) = false from h3)))
  have hw := (two_newQ w false false (.slice a1 (ln (tp p)) k1) (.slice a2 (ln p.den) k2) (.slice a1 (ln (tp p)) k1) (.slice a2 (ln p.den) k2))
  have HW := Lib.hid (And.intro hw.1 (And.intro hw.2.2 (And.intro (hx.below hw.1) (hy.below hw.1))))
  clear hp hx hy h1 h2 h3 hw hm
  go_enter Tryz.func24, Tryz.ntmps24
  go_wp2_with fail
  refine bodyPost_ret (HW.out.2.1.resG rfl) rfl ⟨_, rfl, ?_, HW.out.1⟩
  unfold QQ
  rw [HI.out.1, HI.out.2.1, HI.out.2.2]
  exact ⟨_, _, rfl, HW.out.2.2.1, HW.out.2.2.2⟩
 | false =>
  rw [hm] at h3
  by_cases hz : tp p = 0
  ·have hl : ln (tp p) = 0 := by rw [hz, ln_zero]
   rw [hl] at hx ⊢
   have HI := Lib.hid (And.intro h1 (And.intro h2 (show ng (-p) = false from h3.trans (by rw [decide_eq_true hz]; rfl))))
   have hw := (two_newQ w false false (.slice a1 0 k1) (.slice a2 (ln p.den) k2) (.slice a1 0 k1) (.slice a2 (ln p.den) k2))
   have HW := Lib.hid (And.intro hw.1 (And.intro hw.2.2 (And.intro (hx.below hw.1) (hy.below hw.1))))
   clear hp hx hy h1 h2 h3 hw hm hz hl
   go_enter Tryz.func24, Tryz.ntmps24
   go_wp2_with fail
   refine bodyPost_ret (HW.out.2.1.resG rfl) rfl ⟨_, rfl, ?_, HW.out.1⟩
   unfold QQ
   rw [HI.out.1, HI.out.2.1, HI.out.2.2]
   exact ⟨_, _, rfl, HW.out.2.2.1, HW.out.2.2.2⟩
  ·have hl : 0 < ln (tp p) := ln_pos hz
   have HI := Lib.hid (And.intro h1 (And.intro h2 (show ng (-p) = true from h3.trans (by rw [decide_eq_false hz]; rfl))))
   have hw := (two_newQ w true true (.slice a1 (ln (tp p)) k1) (.slice a2 (ln p.den) k2) (.slice a1 (ln (tp p)) k1) (.slice a2 (ln p.den) k2))
   have HW := Lib.hid (And.intro hw.1 (And.intro hw.2.2 (And.intro (hx.below hw.1) (hy.below hw.1))))
   clear hp hx hy h1 h2 h3 hw hm hz
   go_enter Tryz.func24, Tryz.ntmps24
   go_wp2_with fail
   refine bodyPost_ret (HW.out.2.1.resG rfl) rfl ⟨_, rfl, ?_, HW.out.1⟩
   unfold QQ
   rw [HI.out.1, HI.out.2.1, HI.out.2.2]
   exact ⟨_, _, rfl, HW.out.2.2.1, HW.out.2.2.2⟩
open Go.RowKit NV
open Go.Lib (decDigits)
theorem mul_mk (p q : Rat) : mkQ (ng p != ng q) (tp p * tp q) (p.den * q.den) = p * q := by
 rw [Rat.mul_def', num_of p, num_of q]
 unfold mkQ
 congr 1
 cases ng p <;> cases ng q <;> simp [Int.neg_mul, Int.mul_neg]
theorem add_mk (p q : Rat) : mkQ (sNeg (ng p) (ng q) (tp p * q.den) (tp q * p.den)) (sTop (ng p) (ng q) (tp p * q.den) (tp q * p.den)) (p.den * q.den) = p + q := by
 rw [Rat.add_def', num_of p, num_of q]
 unfold mkQ
 congr 1
 have e : (if ng p then -(tp p : Int) else (tp p : Int)) * (q.den : Int) + (if ng q then -(tp q : Int) else (tp q : Int)) * (p.den : Int) = (if ng p then -((tp p * q.den : Nat) : Int) else ((tp p * q.den : Nat) : Int)) + (if ng q then -((tp q * p.den : Nat) : Int) else ((tp q * p.den : Nat) : Int)) := by
  cases ng p <;> cases ng q <;> simp [Int.neg_mul]
 rw [e]
 generalize tp p * q.den = x
 generalize tp q * p.den = y
 unfold sNeg sTop
 cases ng p <;> cases ng q <;> simp <;> (repeat' split) <;> omega
theorem QR.resT {w : World} {b : Nat} {m : Bool} {n d : Value} {tmps : Array Value} (h : QR w b m n d) (ht : tmps.getD 4 undef = .pointer (some ⟨b, 0, none⟩)) : (results Tryz.f79 tmps).run Tryz.prog w = .ok (.agg #[.bool m, n, d]) w := by
 have hl := h.load
 have ht' : tmps[4]?.getD undef = .pointer (some ⟨b, 0, none⟩) := by rw [← ht]; simp
 simp [results, ht', asAddr, hl]
set_option maxHeartbeats 6400000 in
set_option maxRecDepth 100000 in
theorem rtimes_q {w : World} {v u : Value} {p q r : Rat} (hp : QQ w v p) (hq : QQ w u q) (lp : QL 200000 p) (lq : QL 200000 q) (hr : r = p * q) :
  Calls Tryz.prog 79 #[v, u] w fun e w' => ∃ z, e = .returned z ∧ QQ w' z r ∧ Below w.heap.size w w' := by
 obtain ⟨a1, k1, a2, k2, rfl⟩ := hp.form
 obtain ⟨a3, k3, a4, k4, rfl⟩ := hq.form
 obtain ⟨_, hx1, hy1⟩ := hp.nums
 obtain ⟨_, hx2, hy2⟩ := hq.nums
 obtain ⟨hb0, hq1, hq2, hq3⟩ := three_newQ w (ng p) (ng q) false (.slice a1 (ln (tp p)) k1) (.slice a2 (ln p.den) k2) (.slice a3 (ln (tp q)) k3) (.slice a4 (ln q.den) k4) (.slice none 0 0) (.slice none 0 0)
 have HX1 := Lib.hid (hx1.below hb0)
 have HY1 := Lib.hid (hy1.below hb0)
 have HX2 := Lib.hid (hx2.below hb0)
 have HY2 := Lib.hid (hy2.below hb0)
 have HB := Lib.hid hb0
 have HQ1 := Lib.hid hq1
 have HQ2 := Lib.hid hq2
 have HQ3 := Lib.hid hq3
 have HL := Lib.hid (show ln (tp p) ≤ 1000000 ∧ ln p.den ≤ 1000000 ∧ ln (tp q) ≤ 1000000 ∧ ln q.den ≤ 1000000 from ⟨by have := lp.1; omega, by have := lp.2; omega, by have := lq.1; omega, by have := lq.2; omega⟩)
 have lt1 := ln_mul lp.1 lq.1
 have ld1 := ln_mul lp.2 lq.2
 have lx1 := ln_mul lp.1 lq.2
 have ly1 := ln_mul lq.1 lp.2
 have HM := Lib.hid (show ln (tp p * tp q) ≤ 1000000 ∧ ln (p.den * q.den) ≤ 1000000 ∧ ln (tp p * q.den) ≤ 400000 ∧ ln (tp q * p.den) ≤ 400000 from ⟨by omega, by omega, by omega, by omega⟩)
 have HD := Lib.hid (Nat.mul_ne_zero p.den_nz q.den_nz)
 have HR := Lib.hid (show mkQ (ng p != ng q) (tp p * tp q) (p.den * q.den) = r from (mul_mk p q).trans hr.symm)
 clear hp hq hx1 hy1 hx2 hy2 hb0 hq1 hq2 hq3 lp lq lt1 ld1 lx1 ly1 hr
 go_enter Tryz.func79, Tryz.ntmps79
 go_wp2_with fail
 generalize ((w.alloc (.cells #[.bool (ng p), .slice a1 (ln (tp p)) k1, .slice a2 (ln p.den) k2] 61)).alloc (.cells #[.bool (ng q), .slice a3 (ln (tp q)) k3, .slice a4 (ln q.den) k4] 61)).alloc (.cells #[.bool false, .slice none 0 0, .slice none 0 0] 61) = w0 at HX1 HY1 HX2 HY2 HB HQ1 HQ2 HQ3 ⊢
 have HS_w0 := Lib.hid (show ∀ W, Below w0.heap.size w0 W → W.cell? ⟨w.heap.size, 0, none⟩ = some (.bool (ng p)) ∧ W.cell? ⟨w.heap.size, 1, none⟩ = some (.slice a1 (ln (tp p)) k1) ∧ W.cell? ⟨w.heap.size, 2, none⟩ = some (.slice a2 (ln p.den) k2) ∧ W.cell? ⟨w.heap.size + 1, 0, none⟩ = some (.bool (ng q)) ∧ W.cell? ⟨w.heap.size + 1, 1, none⟩ = some (.slice a3 (ln (tp q)) k3) ∧ W.cell? ⟨w.heap.size + 1, 2, none⟩ = some (.slice a4 (ln q.den) k4) from fun W h =>
   ⟨(HQ1.out.keep h).c0, (HQ1.out.keep h).c1, (HQ1.out.keep h).c2, (HQ2.out.keep h).c0, (HQ2.out.keep h).c1, (HQ2.out.keep h).c2⟩)
 have HT_w0 := Lib.hid (show ∀ W m x y, Below w0.heap.size w0 W → (st3 W (w.heap.size + 2) m x y).cell? ⟨w.heap.size, 0, none⟩ = some (.bool (ng p)) ∧ (st3 W (w.heap.size + 2) m x y).cell? ⟨w.heap.size, 1, none⟩ = some (.slice a1 (ln (tp p)) k1) ∧ (st3 W (w.heap.size + 2) m x y).cell? ⟨w.heap.size, 2, none⟩ = some (.slice a2 (ln p.den) k2) ∧ (st3 W (w.heap.size + 2) m x y).cell? ⟨w.heap.size + 1, 0, none⟩ = some (.bool (ng q)) ∧ (st3 W (w.heap.size + 2) m x y).cell? ⟨w.heap.size + 1, 1, none⟩ = some (.slice a3 (ln (tp q)) k3) ∧ (st3 W (w.heap.size + 2) m x y).cell? ⟨w.heap.size + 1, 2, none⟩ = some (.slice a4 (ln q.den) k4) from fun W m x y h => by
   have q1 := (HQ1.out.keep h).stOther (g := w.heap.size + 2) (by omega) m x y
   have q2 := (HQ2.out.keep h).stOther (g := w.heap.size + 2) (by omega) m x y
   exact ⟨q1.c0, q1.c1, q1.c2, q2.c0, q2.c1, q2.c2⟩)
 have hD_w0 := (Below.refl w0.heap.size w0).drew
 go_region_held3 (fun W => W.cell? ⟨w.heap.size, 0, none⟩ = some (.bool (ng p)) ∧ W.cell? ⟨w.heap.size, 1, none⟩ = some (.slice a1 (ln (tp p)) k1) ∧ W.cell? ⟨w.heap.size, 2, none⟩ = some (.slice a2 (ln p.den) k2) ∧ W.cell? ⟨w.heap.size + 1, 0, none⟩ = some (.bool (ng q)) ∧ W.cell? ⟨w.heap.size + 1, 1, none⟩ = some (.slice a3 (ln (tp q)) k3) ∧ W.cell? ⟨w.heap.size + 1, 2, none⟩ = some (.slice a4 (ln q.den) k4))
  (first | exact HS_w0.out _ hD_w0 | exact HS_w0.out _ (by assumption) | exact HT_w0.out _ _ _ _ (by assumption))
  (first
   | (go_at_call_of 50 (Value.slice a1 (ln (tp p)) k1); refine (lift_i (w0 := w0) (by assumption) (itimes_any (a := tp p) (b := tp q) (HX1.out.below (by assumption)) (HX2.out.below (by assumption)) HL.out.1 HL.out.2.2.1)).mono ?_; rintro e u1 ⟨vn, rfl, hvn, hbn, hBn⟩; obtain ⟨an, kn, rfl⟩ := islice_any hvn)
   | (go_at_call_of 50 (Value.slice a2 (ln p.den) k2); refine (lift_i (w0 := w0) (by assumption) (itimes_any (a := p.den) (b := q.den) (HY1.out.below (by assumption)) (HY2.out.below (by assumption)) HL.out.2.1 HL.out.2.2.2)).mono ?_; rintro e u2 ⟨vd, rfl, hvd, hbd, hBd⟩; obtain ⟨ad, kd, rfl⟩ := islice_any hvd)
   | (go_at_call 51; refine (lift_qq (w0 := w0) (by assumption) (HR.out ▸ rreduce_q (m := ng p != ng q) (hvn.below hbd) hvd HM.out.1 HM.out.2.1 HD.out)).mono ?_; rintro e u3 ⟨z, rfl, hz, hbz, hBz⟩; obtain ⟨a5, k5, a6, k6, rfl⟩ := hz.form; have i0 := (HQ3.out.keep hBz).c0; have i1 := (HQ3.out.keep hBz).c1; have i2 := (HQ3.out.keep hBz).c2; have j0 := (HQ3.out.keep hBz).z0; have j1 := (HQ3.out.keep hBz).z1; have j2 := (HQ3.out.keep hBz).z2))
 obtain ⟨_, hz1, hz2⟩ := hz.nums
 have hq := (HQ3.out.keep hBz).st (ng (r)) (.slice a5 (ln (tp (r))) k5) (.slice a6 (ln (r).den) k6)
 have hn1 := hz1.st3 (HQ3.out.keep hBz) (ng (r)) (.slice a5 (ln (tp (r))) k5) (.slice a6 (ln (r).den) k6)
 have hn2 := hz2.st3 (HQ3.out.keep hBz) (ng (r)) (.slice a5 (ln (tp (r))) k5) (.slice a6 (ln (r).den) k6)
 have hbf := below_st3 (HB.out.trans (hBz.mono HB.out.size)) (show w.heap.size ≤ w.heap.size + 2 by omega) (ng (r)) (.slice a5 (ln (tp (r))) k5) (.slice a6 (ln (r).den) k6)
 have HF := Lib.hid (And.intro hq (And.intro hn1 (And.intro hn2 hbf)))
 clear hq hn1 hn2 hbf i0 i1 i2 j0 j1 j2 hz hz1 hz2 hbz hBz hvn hbn hBn hvd hbd hBd hD_w0
 go_wp2_with fail
 exact bodyPost_ret (HF.out.1.resT rfl) rfl ⟨_, rfl, ⟨_, _, rfl, HF.out.2.1, HF.out.2.2.1⟩, HF.out.2.2.2⟩
theorem QR.resP {w : World} {b : Nat} {m : Bool} {n d : Value} {tmps : Array Value} (h : QR w b m n d) (ht : tmps.getD 4 undef = .pointer (some ⟨b, 0, none⟩)) : (results Tryz.f21 tmps).run Tryz.prog w = .ok (.agg #[.bool m, n, d]) w := by
 have hl := h.load
 have ht' : tmps[4]?.getD undef = .pointer (some ⟨b, 0, none⟩) := by rw [← ht]; simp
 simp [results, ht', asAddr, hl]
set_option maxHeartbeats 6400000 in
set_option maxRecDepth 100000 in
theorem rplus_A {w : World} {v u : Value} {p q r : Rat} (hp : QQ w v p) (hq : QQ w u q) (lp : QL 200000 p) (lq : QL 200000 q) (hr : p + q = r) (hm : ng p = ng q) :
  Calls Tryz.prog 21 #[v, u] w fun e w' => ∃ z, e = .returned z ∧ QQ w' z r ∧ Below w.heap.size w w' := by
 obtain ⟨a1, k1, a2, k2, rfl⟩ := hp.form
 obtain ⟨a3, k3, a4, k4, rfl⟩ := hq.form
 obtain ⟨_, hx1, hy1⟩ := hp.nums
 obtain ⟨_, hx2, hy2⟩ := hq.nums
 obtain ⟨hb0, hq1, hq2, hq3⟩ := three_newQ w (ng p) (ng q) false (.slice a1 (ln (tp p)) k1) (.slice a2 (ln p.den) k2) (.slice a3 (ln (tp q)) k3) (.slice a4 (ln q.den) k4) (.slice none 0 0) (.slice none 0 0)
 have HX1 := Lib.hid (hx1.below hb0)
 have HY1 := Lib.hid (hy1.below hb0)
 have HX2 := Lib.hid (hx2.below hb0)
 have HY2 := Lib.hid (hy2.below hb0)
 have HB := Lib.hid hb0
 have HQ1 := Lib.hid hq1
 have HQ2 := Lib.hid hq2
 have HQ3 := Lib.hid hq3
 have HL := Lib.hid (show ln (tp p) ≤ 1000000 ∧ ln p.den ≤ 1000000 ∧ ln (tp q) ≤ 1000000 ∧ ln q.den ≤ 1000000 from ⟨by have := lp.1; omega, by have := lp.2; omega, by have := lq.1; omega, by have := lq.2; omega⟩)
 have lt1 := ln_mul lp.1 lq.1
 have ld1 := ln_mul lp.2 lq.2
 have lx1 := ln_mul lp.1 lq.2
 have ly1 := ln_mul lq.1 lp.2
 have HM := Lib.hid (show ln (tp p * tp q) ≤ 1000000 ∧ ln (p.den * q.den) ≤ 1000000 ∧ ln (tp p * q.den) ≤ 400000 ∧ ln (tp q * p.den) ≤ 400000 from ⟨by omega, by omega, by omega, by omega⟩)
 have HD := Lib.hid (Nat.mul_ne_zero p.den_nz q.den_nz)
 have HR := Lib.hid (show mkQ (ng p) (tp p * q.den + tp q * p.den) (p.den * q.den) = r from (by rw [← hr, ← add_mk]; unfold sNeg sTop; rw [if_pos hm, if_pos hm]))
 have HTOP := Lib.hid (show ln (tp p * q.den + tp q * p.den) ≤ 1000000 from Nat.le_trans (ln_add (N := 400000) (by omega) (by omega)) (by omega))
 have hmm : (ng p == ng q) = true := by rw [beq_iff_eq]; exact hm
 clear hp hq hx1 hy1 hx2 hy2 hb0 hq1 hq2 hq3 lp lq lt1 ld1 lx1 ly1 hr hm
 go_enter Tryz.func21, Tryz.ntmps21
 go_wp2_with fail
 generalize ((w.alloc (.cells #[.bool (ng p), .slice a1 (ln (tp p)) k1, .slice a2 (ln p.den) k2] 61)).alloc (.cells #[.bool (ng q), .slice a3 (ln (tp q)) k3, .slice a4 (ln q.den) k4] 61)).alloc (.cells #[.bool false, .slice none 0 0, .slice none 0 0] 61) = w0 at HX1 HY1 HX2 HY2 HB HQ1 HQ2 HQ3 ⊢
 have HS_w0 := Lib.hid (show ∀ W, Below w0.heap.size w0 W → W.cell? ⟨w.heap.size, 0, none⟩ = some (.bool (ng p)) ∧ W.cell? ⟨w.heap.size, 1, none⟩ = some (.slice a1 (ln (tp p)) k1) ∧ W.cell? ⟨w.heap.size, 2, none⟩ = some (.slice a2 (ln p.den) k2) ∧ W.cell? ⟨w.heap.size + 1, 0, none⟩ = some (.bool (ng q)) ∧ W.cell? ⟨w.heap.size + 1, 1, none⟩ = some (.slice a3 (ln (tp q)) k3) ∧ W.cell? ⟨w.heap.size + 1, 2, none⟩ = some (.slice a4 (ln q.den) k4) from fun W h =>
   ⟨(HQ1.out.keep h).c0, (HQ1.out.keep h).c1, (HQ1.out.keep h).c2, (HQ2.out.keep h).c0, (HQ2.out.keep h).c1, (HQ2.out.keep h).c2⟩)
 have HT_w0 := Lib.hid (show ∀ W m x y, Below w0.heap.size w0 W → (st3 W (w.heap.size + 2) m x y).cell? ⟨w.heap.size, 0, none⟩ = some (.bool (ng p)) ∧ (st3 W (w.heap.size + 2) m x y).cell? ⟨w.heap.size, 1, none⟩ = some (.slice a1 (ln (tp p)) k1) ∧ (st3 W (w.heap.size + 2) m x y).cell? ⟨w.heap.size, 2, none⟩ = some (.slice a2 (ln p.den) k2) ∧ (st3 W (w.heap.size + 2) m x y).cell? ⟨w.heap.size + 1, 0, none⟩ = some (.bool (ng q)) ∧ (st3 W (w.heap.size + 2) m x y).cell? ⟨w.heap.size + 1, 1, none⟩ = some (.slice a3 (ln (tp q)) k3) ∧ (st3 W (w.heap.size + 2) m x y).cell? ⟨w.heap.size + 1, 2, none⟩ = some (.slice a4 (ln q.den) k4) from fun W m x y h => by
   have q1 := (HQ1.out.keep h).stOther (g := w.heap.size + 2) (by omega) m x y
   have q2 := (HQ2.out.keep h).stOther (g := w.heap.size + 2) (by omega) m x y
   exact ⟨q1.c0, q1.c1, q1.c2, q2.c0, q2.c1, q2.c2⟩)
 have hD_w0 := (Below.refl w0.heap.size w0).drew
 go_region_held3 (fun W => W.cell? ⟨w.heap.size, 0, none⟩ = some (.bool (ng p)) ∧ W.cell? ⟨w.heap.size, 1, none⟩ = some (.slice a1 (ln (tp p)) k1) ∧ W.cell? ⟨w.heap.size, 2, none⟩ = some (.slice a2 (ln p.den) k2) ∧ W.cell? ⟨w.heap.size + 1, 0, none⟩ = some (.bool (ng q)) ∧ W.cell? ⟨w.heap.size + 1, 1, none⟩ = some (.slice a3 (ln (tp q)) k3) ∧ W.cell? ⟨w.heap.size + 1, 2, none⟩ = some (.slice a4 (ln q.den) k4))
  (first | exact HS_w0.out _ hD_w0 | exact HS_w0.out _ (by assumption) | exact HT_w0.out _ _ _ _ (by assumption))
  (first
   | (go_at_call_of 50 (Value.slice a1 (ln (tp p)) k1); refine (lift_i (w0 := w0) (by assumption) (itimes_any (a := tp p) (b := q.den) (HX1.out.below (by assumption)) (HY2.out.below (by assumption)) HL.out.1 HL.out.2.2.2)).mono ?_; rintro e u1 ⟨vx, rfl, hvx, hbx, hBx⟩; obtain ⟨ax, kx, rfl⟩ := islice_any hvx)
   | (go_at_call_of 50 (Value.slice a3 (ln (tp q)) k3); refine (lift_i (w0 := w0) (by assumption) (itimes_any (a := tp q) (b := p.den) (HX2.out.below (by assumption)) (HY1.out.below (by assumption)) HL.out.2.2.1 HL.out.2.1)).mono ?_; rintro e u2 ⟨vy, rfl, hvy, hby, hBy⟩; obtain ⟨ay, ky, rfl⟩ := islice_any hvy))
 replace HY1 := Lib.hid (HY1.out.below hBy)
 replace HY2 := Lib.hid (HY2.out.below hBy)
 replace HQ1 := Lib.hid (HQ1.out.keep hBy)
 replace HQ2 := Lib.hid (HQ2.out.keep hBy)
 replace HQ3 := Lib.hid (HQ3.out.keep hBy)
 replace HB := Lib.hid (HB.out.trans (hBy.mono HB.out.size))
 have HVX := Lib.hid (hvx.below hby)
 have HVY := Lib.hid hvy
 clear hvx hbx hBx hvy hby hBy hD_w0 HS_w0 HT_w0 HX1 HX2
 have c2 := HQ1.out.c2
 have d2 := HQ2.out.c2
 go_wp2_with fail
 refine (itimes_any HY1.out HY2.out HL.out.2.1 HL.out.2.2.2).mono ?_
 rintro e u3 ⟨vd, rfl, hvd, hbd⟩
 obtain ⟨ad, kd, rfl⟩ := islice_any hvd
 replace HQ1 := Lib.hid (HQ1.out.keep hbd)
 replace HQ2 := Lib.hid (HQ2.out.keep hbd)
 replace HQ3 := Lib.hid (HQ3.out.keep hbd)
 replace HVX := Lib.hid (HVX.out.below hbd)
 replace HVY := Lib.hid (HVY.out.below hbd)
 replace HB := Lib.hid (HB.out.trans (hbd.mono HB.out.size))
 have HVD := Lib.hid hvd
 clear hvd hbd c2 d2 HY1 HY2
 have c0 := HQ1.out.c0
 have d0 := HQ2.out.c0
 go_wp2_with fail
 clear c0 d0 hmm
 have HS_u3 := Lib.hid (show ∀ W, Below u3.heap.size u3 W → W.cell? ⟨w.heap.size, 0, none⟩ = some (.bool (ng p)) ∧ W.cell? ⟨w.heap.size, 1, none⟩ = some (.slice a1 (ln (tp p)) k1) ∧ W.cell? ⟨w.heap.size, 2, none⟩ = some (.slice a2 (ln p.den) k2) ∧ W.cell? ⟨w.heap.size + 1, 0, none⟩ = some (.bool (ng q)) ∧ W.cell? ⟨w.heap.size + 1, 1, none⟩ = some (.slice a3 (ln (tp q)) k3) ∧ W.cell? ⟨w.heap.size + 1, 2, none⟩ = some (.slice a4 (ln q.den) k4) from fun W h =>
   ⟨(HQ1.out.keep h).c0, (HQ1.out.keep h).c1, (HQ1.out.keep h).c2, (HQ2.out.keep h).c0, (HQ2.out.keep h).c1, (HQ2.out.keep h).c2⟩)
 have HT_u3 := Lib.hid (show ∀ W m x y, Below u3.heap.size u3 W → (st3 W (w.heap.size + 2) m x y).cell? ⟨w.heap.size, 0, none⟩ = some (.bool (ng p)) ∧ (st3 W (w.heap.size + 2) m x y).cell? ⟨w.heap.size, 1, none⟩ = some (.slice a1 (ln (tp p)) k1) ∧ (st3 W (w.heap.size + 2) m x y).cell? ⟨w.heap.size, 2, none⟩ = some (.slice a2 (ln p.den) k2) ∧ (st3 W (w.heap.size + 2) m x y).cell? ⟨w.heap.size + 1, 0, none⟩ = some (.bool (ng q)) ∧ (st3 W (w.heap.size + 2) m x y).cell? ⟨w.heap.size + 1, 1, none⟩ = some (.slice a3 (ln (tp q)) k3) ∧ (st3 W (w.heap.size + 2) m x y).cell? ⟨w.heap.size + 1, 2, none⟩ = some (.slice a4 (ln q.den) k4) from fun W m x y h => by
   have q1 := (HQ1.out.keep h).stOther (g := w.heap.size + 2) (by omega) m x y
   have q2 := (HQ2.out.keep h).stOther (g := w.heap.size + 2) (by omega) m x y
   exact ⟨q1.c0, q1.c1, q1.c2, q2.c0, q2.c1, q2.c2⟩)
 have hD_u3 := (Below.refl u3.heap.size u3).drew
 go_region_held3 (fun W => W.cell? ⟨w.heap.size, 0, none⟩ = some (.bool (ng p)) ∧ W.cell? ⟨w.heap.size, 1, none⟩ = some (.slice a1 (ln (tp p)) k1) ∧ W.cell? ⟨w.heap.size, 2, none⟩ = some (.slice a2 (ln p.den) k2) ∧ W.cell? ⟨w.heap.size + 1, 0, none⟩ = some (.bool (ng q)) ∧ W.cell? ⟨w.heap.size + 1, 1, none⟩ = some (.slice a3 (ln (tp q)) k3) ∧ W.cell? ⟨w.heap.size + 1, 2, none⟩ = some (.slice a4 (ln q.den) k4))
  (first | exact HS_u3.out _ hD_u3 | exact HS_u3.out _ (by assumption) | exact HT_u3.out _ _ _ _ (by assumption))
  (first
   | (go_at_call 52; refine (lift_i (w0 := u3) (by assumption) (iplus_any (a := tp p * q.den) (b := tp q * p.den) (HVX.out.below (by assumption)) (HVY.out.below (by assumption)) (by have := HM.out; omega) (by have := HM.out; omega) (by have := HTOP.out; omega))).mono ?_; rintro e u5 ⟨vt, rfl, hvt, hbt, hBt⟩; obtain ⟨att, ktt, rfl⟩ := islice_any hvt)
   | (go_at_call 51; refine (lift_qq (w0 := u3) (by assumption) (HR.out ▸ rreduce_q (m := ng p) (n := tp p * q.den + tp q * p.den) (d := p.den * q.den) hvt (HVD.out.below (by assumption)) HTOP.out HM.out.2.1 HD.out)).mono ?_; rintro e u6 ⟨z, rfl, hz, hbz, hBz⟩; obtain ⟨a5, k5, a6, k6, rfl⟩ := hz.form; have i0 := (HQ3.out.keep hBz).c0; have i1 := (HQ3.out.keep hBz).c1; have i2 := (HQ3.out.keep hBz).c2; have j0 := (HQ3.out.keep hBz).z0; have j1 := (HQ3.out.keep hBz).z1; have j2 := (HQ3.out.keep hBz).z2))
 obtain ⟨_, hz1, hz2⟩ := hz.nums
 have hq := (HQ3.out.keep hBz).st (ng (r)) (.slice a5 (ln (tp (r))) k5) (.slice a6 (ln (r).den) k6)
 have hn1 := hz1.st3 (HQ3.out.keep hBz) (ng (r)) (.slice a5 (ln (tp (r))) k5) (.slice a6 (ln (r).den) k6)
 have hn2 := hz2.st3 (HQ3.out.keep hBz) (ng (r)) (.slice a5 (ln (tp (r))) k5) (.slice a6 (ln (r).den) k6)
 have hbf := below_st3 (HB.out.trans (hBz.mono HB.out.size)) (show w.heap.size ≤ w.heap.size + 2 by omega) (ng (r)) (.slice a5 (ln (tp (r))) k5) (.slice a6 (ln (r).den) k6)
 have HF := Lib.hid (And.intro hq (And.intro hn1 (And.intro hn2 hbf)))
 clear hq hn1 hn2 hbf i0 i1 i2 j0 j1 j2 hz hz1 hz2 hbz hBz hvt hbt hBt hD_u3
 go_wp2_with fail
 exact bodyPost_ret (HF.out.1.resP rfl) rfl ⟨_, rfl, ⟨_, _, rfl, HF.out.2.1, HF.out.2.2.1⟩, HF.out.2.2.2⟩
set_option maxHeartbeats 6400000 in
set_option maxRecDepth 100000 in
theorem rplus_B {w : World} {v u : Value} {p q r : Rat} (hp : QQ w v p) (hq : QQ w u q) (lp : QL 200000 p) (lq : QL 200000 q) (hr : p + q = r) (hm : ng p ≠ ng q) (hc : tp q * p.den ≤ tp p * q.den) :
  Calls Tryz.prog 21 #[v, u] w fun e w' => ∃ z, e = .returned z ∧ QQ w' z r ∧ Below w.heap.size w w' := by
 obtain ⟨a1, k1, a2, k2, rfl⟩ := hp.form
 obtain ⟨a3, k3, a4, k4, rfl⟩ := hq.form
 obtain ⟨_, hx1, hy1⟩ := hp.nums
 obtain ⟨_, hx2, hy2⟩ := hq.nums
 obtain ⟨hb0, hq1, hq2, hq3⟩ := three_newQ w (ng p) (ng q) false (.slice a1 (ln (tp p)) k1) (.slice a2 (ln p.den) k2) (.slice a3 (ln (tp q)) k3) (.slice a4 (ln q.den) k4) (.slice none 0 0) (.slice none 0 0)
 have HX1 := Lib.hid (hx1.below hb0)
 have HY1 := Lib.hid (hy1.below hb0)
 have HX2 := Lib.hid (hx2.below hb0)
 have HY2 := Lib.hid (hy2.below hb0)
 have HB := Lib.hid hb0
 have HQ1 := Lib.hid hq1
 have HQ2 := Lib.hid hq2
 have HQ3 := Lib.hid hq3
 have HL := Lib.hid (show ln (tp p) ≤ 1000000 ∧ ln p.den ≤ 1000000 ∧ ln (tp q) ≤ 1000000 ∧ ln q.den ≤ 1000000 from ⟨by have := lp.1; omega, by have := lp.2; omega, by have := lq.1; omega, by have := lq.2; omega⟩)
 have lt1 := ln_mul lp.1 lq.1
 have ld1 := ln_mul lp.2 lq.2
 have lx1 := ln_mul lp.1 lq.2
 have ly1 := ln_mul lq.1 lp.2
 have HM := Lib.hid (show ln (tp p * tp q) ≤ 1000000 ∧ ln (p.den * q.den) ≤ 1000000 ∧ ln (tp p * q.den) ≤ 400000 ∧ ln (tp q * p.den) ≤ 400000 from ⟨by omega, by omega, by omega, by omega⟩)
 have HD := Lib.hid (Nat.mul_ne_zero p.den_nz q.den_nz)
 have HR := Lib.hid (show mkQ (ng p) (tp p * q.den - tp q * p.den) (p.den * q.den) = r from (by rw [← hr, ← add_mk]; unfold sNeg sTop; rw [if_neg hm, if_neg hm, if_pos hc, if_pos hc]))
 have HTOP := Lib.hid (show ln (tp p * q.den - tp q * p.den) ≤ 1000000 from Nat.le_trans (ln_sub (N := 400000) (by omega)) (by omega))
 have hmm : (ng p == ng q) = false := by rw [beq_eq_false_iff_ne]; exact hm
 have HC := Lib.hid hc
 have hcc : ¬ cmpN (tp p * q.den) (tp q * p.den) < 0 := by have := cmpN_high hc; omega
 clear hp hq hx1 hy1 hx2 hy2 hb0 hq1 hq2 hq3 lp lq lt1 ld1 lx1 ly1 hr hm hc
 go_enter Tryz.func21, Tryz.ntmps21
 go_wp2_with fail
 generalize ((w.alloc (.cells #[.bool (ng p), .slice a1 (ln (tp p)) k1, .slice a2 (ln p.den) k2] 61)).alloc (.cells #[.bool (ng q), .slice a3 (ln (tp q)) k3, .slice a4 (ln q.den) k4] 61)).alloc (.cells #[.bool false, .slice none 0 0, .slice none 0 0] 61) = w0 at HX1 HY1 HX2 HY2 HB HQ1 HQ2 HQ3 ⊢
 have HS_w0 := Lib.hid (show ∀ W, Below w0.heap.size w0 W → W.cell? ⟨w.heap.size, 0, none⟩ = some (.bool (ng p)) ∧ W.cell? ⟨w.heap.size, 1, none⟩ = some (.slice a1 (ln (tp p)) k1) ∧ W.cell? ⟨w.heap.size, 2, none⟩ = some (.slice a2 (ln p.den) k2) ∧ W.cell? ⟨w.heap.size + 1, 0, none⟩ = some (.bool (ng q)) ∧ W.cell? ⟨w.heap.size + 1, 1, none⟩ = some (.slice a3 (ln (tp q)) k3) ∧ W.cell? ⟨w.heap.size + 1, 2, none⟩ = some (.slice a4 (ln q.den) k4) from fun W h =>
   ⟨(HQ1.out.keep h).c0, (HQ1.out.keep h).c1, (HQ1.out.keep h).c2, (HQ2.out.keep h).c0, (HQ2.out.keep h).c1, (HQ2.out.keep h).c2⟩)
 have HT_w0 := Lib.hid (show ∀ W m x y, Below w0.heap.size w0 W → (st3 W (w.heap.size + 2) m x y).cell? ⟨w.heap.size, 0, none⟩ = some (.bool (ng p)) ∧ (st3 W (w.heap.size + 2) m x y).cell? ⟨w.heap.size, 1, none⟩ = some (.slice a1 (ln (tp p)) k1) ∧ (st3 W (w.heap.size + 2) m x y).cell? ⟨w.heap.size, 2, none⟩ = some (.slice a2 (ln p.den) k2) ∧ (st3 W (w.heap.size + 2) m x y).cell? ⟨w.heap.size + 1, 0, none⟩ = some (.bool (ng q)) ∧ (st3 W (w.heap.size + 2) m x y).cell? ⟨w.heap.size + 1, 1, none⟩ = some (.slice a3 (ln (tp q)) k3) ∧ (st3 W (w.heap.size + 2) m x y).cell? ⟨w.heap.size + 1, 2, none⟩ = some (.slice a4 (ln q.den) k4) from fun W m x y h => by
   have q1 := (HQ1.out.keep h).stOther (g := w.heap.size + 2) (by omega) m x y
   have q2 := (HQ2.out.keep h).stOther (g := w.heap.size + 2) (by omega) m x y
   exact ⟨q1.c0, q1.c1, q1.c2, q2.c0, q2.c1, q2.c2⟩)
 have hD_w0 := (Below.refl w0.heap.size w0).drew
 go_region_held3 (fun W => W.cell? ⟨w.heap.size, 0, none⟩ = some (.bool (ng p)) ∧ W.cell? ⟨w.heap.size, 1, none⟩ = some (.slice a1 (ln (tp p)) k1) ∧ W.cell? ⟨w.heap.size, 2, none⟩ = some (.slice a2 (ln p.den) k2) ∧ W.cell? ⟨w.heap.size + 1, 0, none⟩ = some (.bool (ng q)) ∧ W.cell? ⟨w.heap.size + 1, 1, none⟩ = some (.slice a3 (ln (tp q)) k3) ∧ W.cell? ⟨w.heap.size + 1, 2, none⟩ = some (.slice a4 (ln q.den) k4))
  (first | exact HS_w0.out _ hD_w0 | exact HS_w0.out _ (by assumption) | exact HT_w0.out _ _ _ _ (by assumption))
  (first
   | (go_at_call_of 50 (Value.slice a1 (ln (tp p)) k1); refine (lift_i (w0 := w0) (by assumption) (itimes_any (a := tp p) (b := q.den) (HX1.out.below (by assumption)) (HY2.out.below (by assumption)) HL.out.1 HL.out.2.2.2)).mono ?_; rintro e u1 ⟨vx, rfl, hvx, hbx, hBx⟩; obtain ⟨ax, kx, rfl⟩ := islice_any hvx)
   | (go_at_call_of 50 (Value.slice a3 (ln (tp q)) k3); refine (lift_i (w0 := w0) (by assumption) (itimes_any (a := tp q) (b := p.den) (HX2.out.below (by assumption)) (HY1.out.below (by assumption)) HL.out.2.2.1 HL.out.2.1)).mono ?_; rintro e u2 ⟨vy, rfl, hvy, hby, hBy⟩; obtain ⟨ay, ky, rfl⟩ := islice_any hvy))
 replace HY1 := Lib.hid (HY1.out.below hBy)
 replace HY2 := Lib.hid (HY2.out.below hBy)
 replace HQ1 := Lib.hid (HQ1.out.keep hBy)
 replace HQ2 := Lib.hid (HQ2.out.keep hBy)
 replace HQ3 := Lib.hid (HQ3.out.keep hBy)
 replace HB := Lib.hid (HB.out.trans (hBy.mono HB.out.size))
 have HVX := Lib.hid (hvx.below hby)
 have HVY := Lib.hid hvy
 clear hvx hbx hBx hvy hby hBy hD_w0 HS_w0 HT_w0 HX1 HX2
 have c2 := HQ1.out.c2
 have d2 := HQ2.out.c2
 go_wp2_with fail
 refine (itimes_any HY1.out HY2.out HL.out.2.1 HL.out.2.2.2).mono ?_
 rintro e u3 ⟨vd, rfl, hvd, hbd⟩
 obtain ⟨ad, kd, rfl⟩ := islice_any hvd
 replace HQ1 := Lib.hid (HQ1.out.keep hbd)
 replace HQ2 := Lib.hid (HQ2.out.keep hbd)
 replace HQ3 := Lib.hid (HQ3.out.keep hbd)
 replace HVX := Lib.hid (HVX.out.below hbd)
 replace HVY := Lib.hid (HVY.out.below hbd)
 replace HB := Lib.hid (HB.out.trans (hbd.mono HB.out.size))
 have HVD := Lib.hid hvd
 clear hvd hbd c2 d2 HY1 HY2
 have c0 := HQ1.out.c0
 have d0 := HQ2.out.c0
 go_wp2_with fail
 refine (iorder_any HVX.out HVY.out (by have := HM.out; omega) (by have := HM.out; omega)).mono ?_
 rintro e u4 ⟨rfl, hbo⟩
 replace HQ1 := Lib.hid (HQ1.out.keep hbo)
 replace HQ2 := Lib.hid (HQ2.out.keep hbo)
 replace HQ3 := Lib.hid (HQ3.out.keep hbo)
 replace HVX := Lib.hid (HVX.out.below hbo)
 replace HVY := Lib.hid (HVY.out.below hbo)
 replace HVD := Lib.hid (HVD.out.below hbo)
 replace HB := Lib.hid (HB.out.trans (hbo.mono HB.out.size))
 clear hbo
 go_wp2_with fail
 clear c0 d0 hcc hmm
 have HS_u4 := Lib.hid (show ∀ W, Below u4.heap.size u4 W → W.cell? ⟨w.heap.size, 0, none⟩ = some (.bool (ng p)) ∧ W.cell? ⟨w.heap.size, 1, none⟩ = some (.slice a1 (ln (tp p)) k1) ∧ W.cell? ⟨w.heap.size, 2, none⟩ = some (.slice a2 (ln p.den) k2) ∧ W.cell? ⟨w.heap.size + 1, 0, none⟩ = some (.bool (ng q)) ∧ W.cell? ⟨w.heap.size + 1, 1, none⟩ = some (.slice a3 (ln (tp q)) k3) ∧ W.cell? ⟨w.heap.size + 1, 2, none⟩ = some (.slice a4 (ln q.den) k4) from fun W h =>
   ⟨(HQ1.out.keep h).c0, (HQ1.out.keep h).c1, (HQ1.out.keep h).c2, (HQ2.out.keep h).c0, (HQ2.out.keep h).c1, (HQ2.out.keep h).c2⟩)
 have HT_u4 := Lib.hid (show ∀ W m x y, Below u4.heap.size u4 W → (st3 W (w.heap.size + 2) m x y).cell? ⟨w.heap.size, 0, none⟩ = some (.bool (ng p)) ∧ (st3 W (w.heap.size + 2) m x y).cell? ⟨w.heap.size, 1, none⟩ = some (.slice a1 (ln (tp p)) k1) ∧ (st3 W (w.heap.size + 2) m x y).cell? ⟨w.heap.size, 2, none⟩ = some (.slice a2 (ln p.den) k2) ∧ (st3 W (w.heap.size + 2) m x y).cell? ⟨w.heap.size + 1, 0, none⟩ = some (.bool (ng q)) ∧ (st3 W (w.heap.size + 2) m x y).cell? ⟨w.heap.size + 1, 1, none⟩ = some (.slice a3 (ln (tp q)) k3) ∧ (st3 W (w.heap.size + 2) m x y).cell? ⟨w.heap.size + 1, 2, none⟩ = some (.slice a4 (ln q.den) k4) from fun W m x y h => by
   have q1 := (HQ1.out.keep h).stOther (g := w.heap.size + 2) (by omega) m x y
   have q2 := (HQ2.out.keep h).stOther (g := w.heap.size + 2) (by omega) m x y
   exact ⟨q1.c0, q1.c1, q1.c2, q2.c0, q2.c1, q2.c2⟩)
 have hD_u4 := (Below.refl u4.heap.size u4).drew
 go_region_held3 (fun W => W.cell? ⟨w.heap.size, 0, none⟩ = some (.bool (ng p)) ∧ W.cell? ⟨w.heap.size, 1, none⟩ = some (.slice a1 (ln (tp p)) k1) ∧ W.cell? ⟨w.heap.size, 2, none⟩ = some (.slice a2 (ln p.den) k2) ∧ W.cell? ⟨w.heap.size + 1, 0, none⟩ = some (.bool (ng q)) ∧ W.cell? ⟨w.heap.size + 1, 1, none⟩ = some (.slice a3 (ln (tp q)) k3) ∧ W.cell? ⟨w.heap.size + 1, 2, none⟩ = some (.slice a4 (ln q.den) k4))
  (first | exact HS_u4.out _ hD_u4 | exact HS_u4.out _ (by assumption) | exact HT_u4.out _ _ _ _ (by assumption))
  (first
   | (go_at_call 54; refine (lift_i (w0 := u4) (by assumption) (iminus_any (a := tp p * q.den) (b := tp q * p.den) (HVX.out.below (by assumption)) (HVY.out.below (by assumption)) (by have := HM.out; omega) HC.out)).mono ?_; rintro e u5 ⟨vt, rfl, hvt, hbt, hBt⟩; obtain ⟨att, ktt, rfl⟩ := islice_any hvt)
   | (go_at_call 51; refine (lift_qq (w0 := u4) (by assumption) (HR.out ▸ rreduce_q (m := ng p) (n := tp p * q.den - tp q * p.den) (d := p.den * q.den) hvt (HVD.out.below (by assumption)) HTOP.out HM.out.2.1 HD.out)).mono ?_; rintro e u6 ⟨z, rfl, hz, hbz, hBz⟩; obtain ⟨a5, k5, a6, k6, rfl⟩ := hz.form; have i0 := (HQ3.out.keep hBz).c0; have i1 := (HQ3.out.keep hBz).c1; have i2 := (HQ3.out.keep hBz).c2; have j0 := (HQ3.out.keep hBz).z0; have j1 := (HQ3.out.keep hBz).z1; have j2 := (HQ3.out.keep hBz).z2))
 obtain ⟨_, hz1, hz2⟩ := hz.nums
 have hq := (HQ3.out.keep hBz).st (ng (r)) (.slice a5 (ln (tp (r))) k5) (.slice a6 (ln (r).den) k6)
 have hn1 := hz1.st3 (HQ3.out.keep hBz) (ng (r)) (.slice a5 (ln (tp (r))) k5) (.slice a6 (ln (r).den) k6)
 have hn2 := hz2.st3 (HQ3.out.keep hBz) (ng (r)) (.slice a5 (ln (tp (r))) k5) (.slice a6 (ln (r).den) k6)
 have hbf := below_st3 (HB.out.trans (hBz.mono HB.out.size)) (show w.heap.size ≤ w.heap.size + 2 by omega) (ng (r)) (.slice a5 (ln (tp (r))) k5) (.slice a6 (ln (r).den) k6)
 have HF := Lib.hid (And.intro hq (And.intro hn1 (And.intro hn2 hbf)))
 clear hq hn1 hn2 hbf i0 i1 i2 j0 j1 j2 hz hz1 hz2 hbz hBz hvt hbt hBt hD_u4
 go_wp2_with fail
 exact bodyPost_ret (HF.out.1.resP rfl) rfl ⟨_, rfl, ⟨_, _, rfl, HF.out.2.1, HF.out.2.2.1⟩, HF.out.2.2.2⟩
set_option maxHeartbeats 6400000 in
set_option maxRecDepth 100000 in
theorem rplus_C {w : World} {v u : Value} {p q r : Rat} (hp : QQ w v p) (hq : QQ w u q) (lp : QL 200000 p) (lq : QL 200000 q) (hr : p + q = r) (hm : ng p ≠ ng q) (hc : ¬ tp q * p.den ≤ tp p * q.den) :
  Calls Tryz.prog 21 #[v, u] w fun e w' => ∃ z, e = .returned z ∧ QQ w' z r ∧ Below w.heap.size w w' := by
 obtain ⟨a1, k1, a2, k2, rfl⟩ := hp.form
 obtain ⟨a3, k3, a4, k4, rfl⟩ := hq.form
 obtain ⟨_, hx1, hy1⟩ := hp.nums
 obtain ⟨_, hx2, hy2⟩ := hq.nums
 obtain ⟨hb0, hq1, hq2, hq3⟩ := three_newQ w (ng p) (ng q) false (.slice a1 (ln (tp p)) k1) (.slice a2 (ln p.den) k2) (.slice a3 (ln (tp q)) k3) (.slice a4 (ln q.den) k4) (.slice none 0 0) (.slice none 0 0)
 have HX1 := Lib.hid (hx1.below hb0)
 have HY1 := Lib.hid (hy1.below hb0)
 have HX2 := Lib.hid (hx2.below hb0)
 have HY2 := Lib.hid (hy2.below hb0)
 have HB := Lib.hid hb0
 have HQ1 := Lib.hid hq1
 have HQ2 := Lib.hid hq2
 have HQ3 := Lib.hid hq3
 have HL := Lib.hid (show ln (tp p) ≤ 1000000 ∧ ln p.den ≤ 1000000 ∧ ln (tp q) ≤ 1000000 ∧ ln q.den ≤ 1000000 from ⟨by have := lp.1; omega, by have := lp.2; omega, by have := lq.1; omega, by have := lq.2; omega⟩)
 have lt1 := ln_mul lp.1 lq.1
 have ld1 := ln_mul lp.2 lq.2
 have lx1 := ln_mul lp.1 lq.2
 have ly1 := ln_mul lq.1 lp.2
 have HM := Lib.hid (show ln (tp p * tp q) ≤ 1000000 ∧ ln (p.den * q.den) ≤ 1000000 ∧ ln (tp p * q.den) ≤ 400000 ∧ ln (tp q * p.den) ≤ 400000 from ⟨by omega, by omega, by omega, by omega⟩)
 have HD := Lib.hid (Nat.mul_ne_zero p.den_nz q.den_nz)
 have HR := Lib.hid (show mkQ (ng q) (tp q * p.den - tp p * q.den) (p.den * q.den) = r from (by rw [← hr, ← add_mk]; unfold sNeg sTop; rw [if_neg hm, if_neg hm, if_neg hc, if_neg hc]))
 have HTOP := Lib.hid (show ln (tp q * p.den - tp p * q.den) ≤ 1000000 from Nat.le_trans (ln_sub (N := 400000) (by omega)) (by omega))
 have hmm : (ng p == ng q) = false := by rw [beq_eq_false_iff_ne]; exact hm
 have HC := Lib.hid (show tp p * q.den ≤ tp q * p.den by omega)
 have hcc : cmpN (tp p * q.den) (tp q * p.den) < 0 := cmpN_low (by omega)
 clear hp hq hx1 hy1 hx2 hy2 hb0 hq1 hq2 hq3 lp lq lt1 ld1 lx1 ly1 hr hm hc
 go_enter Tryz.func21, Tryz.ntmps21
 go_wp2_with fail
 generalize ((w.alloc (.cells #[.bool (ng p), .slice a1 (ln (tp p)) k1, .slice a2 (ln p.den) k2] 61)).alloc (.cells #[.bool (ng q), .slice a3 (ln (tp q)) k3, .slice a4 (ln q.den) k4] 61)).alloc (.cells #[.bool false, .slice none 0 0, .slice none 0 0] 61) = w0 at HX1 HY1 HX2 HY2 HB HQ1 HQ2 HQ3 ⊢
 have HS_w0 := Lib.hid (show ∀ W, Below w0.heap.size w0 W → W.cell? ⟨w.heap.size, 0, none⟩ = some (.bool (ng p)) ∧ W.cell? ⟨w.heap.size, 1, none⟩ = some (.slice a1 (ln (tp p)) k1) ∧ W.cell? ⟨w.heap.size, 2, none⟩ = some (.slice a2 (ln p.den) k2) ∧ W.cell? ⟨w.heap.size + 1, 0, none⟩ = some (.bool (ng q)) ∧ W.cell? ⟨w.heap.size + 1, 1, none⟩ = some (.slice a3 (ln (tp q)) k3) ∧ W.cell? ⟨w.heap.size + 1, 2, none⟩ = some (.slice a4 (ln q.den) k4) from fun W h =>
   ⟨(HQ1.out.keep h).c0, (HQ1.out.keep h).c1, (HQ1.out.keep h).c2, (HQ2.out.keep h).c0, (HQ2.out.keep h).c1, (HQ2.out.keep h).c2⟩)
 have HT_w0 := Lib.hid (show ∀ W m x y, Below w0.heap.size w0 W → (st3 W (w.heap.size + 2) m x y).cell? ⟨w.heap.size, 0, none⟩ = some (.bool (ng p)) ∧ (st3 W (w.heap.size + 2) m x y).cell? ⟨w.heap.size, 1, none⟩ = some (.slice a1 (ln (tp p)) k1) ∧ (st3 W (w.heap.size + 2) m x y).cell? ⟨w.heap.size, 2, none⟩ = some (.slice a2 (ln p.den) k2) ∧ (st3 W (w.heap.size + 2) m x y).cell? ⟨w.heap.size + 1, 0, none⟩ = some (.bool (ng q)) ∧ (st3 W (w.heap.size + 2) m x y).cell? ⟨w.heap.size + 1, 1, none⟩ = some (.slice a3 (ln (tp q)) k3) ∧ (st3 W (w.heap.size + 2) m x y).cell? ⟨w.heap.size + 1, 2, none⟩ = some (.slice a4 (ln q.den) k4) from fun W m x y h => by
   have q1 := (HQ1.out.keep h).stOther (g := w.heap.size + 2) (by omega) m x y
   have q2 := (HQ2.out.keep h).stOther (g := w.heap.size + 2) (by omega) m x y
   exact ⟨q1.c0, q1.c1, q1.c2, q2.c0, q2.c1, q2.c2⟩)
 have hD_w0 := (Below.refl w0.heap.size w0).drew
 go_region_held3 (fun W => W.cell? ⟨w.heap.size, 0, none⟩ = some (.bool (ng p)) ∧ W.cell? ⟨w.heap.size, 1, none⟩ = some (.slice a1 (ln (tp p)) k1) ∧ W.cell? ⟨w.heap.size, 2, none⟩ = some (.slice a2 (ln p.den) k2) ∧ W.cell? ⟨w.heap.size + 1, 0, none⟩ = some (.bool (ng q)) ∧ W.cell? ⟨w.heap.size + 1, 1, none⟩ = some (.slice a3 (ln (tp q)) k3) ∧ W.cell? ⟨w.heap.size + 1, 2, none⟩ = some (.slice a4 (ln q.den) k4))
  (first | exact HS_w0.out _ hD_w0 | exact HS_w0.out _ (by assumption) | exact HT_w0.out _ _ _ _ (by assumption))
  (first
   | (go_at_call_of 50 (Value.slice a1 (ln (tp p)) k1); refine (lift_i (w0 := w0) (by assumption) (itimes_any (a := tp p) (b := q.den) (HX1.out.below (by assumption)) (HY2.out.below (by assumption)) HL.out.1 HL.out.2.2.2)).mono ?_; rintro e u1 ⟨vx, rfl, hvx, hbx, hBx⟩; obtain ⟨ax, kx, rfl⟩ := islice_any hvx)
   | (go_at_call_of 50 (Value.slice a3 (ln (tp q)) k3); refine (lift_i (w0 := w0) (by assumption) (itimes_any (a := tp q) (b := p.den) (HX2.out.below (by assumption)) (HY1.out.below (by assumption)) HL.out.2.2.1 HL.out.2.1)).mono ?_; rintro e u2 ⟨vy, rfl, hvy, hby, hBy⟩; obtain ⟨ay, ky, rfl⟩ := islice_any hvy))
 replace HY1 := Lib.hid (HY1.out.below hBy)
 replace HY2 := Lib.hid (HY2.out.below hBy)
 replace HQ1 := Lib.hid (HQ1.out.keep hBy)
 replace HQ2 := Lib.hid (HQ2.out.keep hBy)
 replace HQ3 := Lib.hid (HQ3.out.keep hBy)
 replace HB := Lib.hid (HB.out.trans (hBy.mono HB.out.size))
 have HVX := Lib.hid (hvx.below hby)
 have HVY := Lib.hid hvy
 clear hvx hbx hBx hvy hby hBy hD_w0 HS_w0 HT_w0 HX1 HX2
 have c2 := HQ1.out.c2
 have d2 := HQ2.out.c2
 go_wp2_with fail
 refine (itimes_any HY1.out HY2.out HL.out.2.1 HL.out.2.2.2).mono ?_
 rintro e u3 ⟨vd, rfl, hvd, hbd⟩
 obtain ⟨ad, kd, rfl⟩ := islice_any hvd
 replace HQ1 := Lib.hid (HQ1.out.keep hbd)
 replace HQ2 := Lib.hid (HQ2.out.keep hbd)
 replace HQ3 := Lib.hid (HQ3.out.keep hbd)
 replace HVX := Lib.hid (HVX.out.below hbd)
 replace HVY := Lib.hid (HVY.out.below hbd)
 replace HB := Lib.hid (HB.out.trans (hbd.mono HB.out.size))
 have HVD := Lib.hid hvd
 clear hvd hbd c2 d2 HY1 HY2
 have c0 := HQ1.out.c0
 have d0 := HQ2.out.c0
 go_wp2_with fail
 refine (iorder_any HVX.out HVY.out (by have := HM.out; omega) (by have := HM.out; omega)).mono ?_
 rintro e u4 ⟨rfl, hbo⟩
 replace HQ1 := Lib.hid (HQ1.out.keep hbo)
 replace HQ2 := Lib.hid (HQ2.out.keep hbo)
 replace HQ3 := Lib.hid (HQ3.out.keep hbo)
 replace HVX := Lib.hid (HVX.out.below hbo)
 replace HVY := Lib.hid (HVY.out.below hbo)
 replace HVD := Lib.hid (HVD.out.below hbo)
 replace HB := Lib.hid (HB.out.trans (hbo.mono HB.out.size))
 clear hbo
 go_wp2_with fail
 clear c0 d0 hcc hmm
 have HS_u4 := Lib.hid (show ∀ W, Below u4.heap.size u4 W → W.cell? ⟨w.heap.size, 0, none⟩ = some (.bool (ng p)) ∧ W.cell? ⟨w.heap.size, 1, none⟩ = some (.slice a1 (ln (tp p)) k1) ∧ W.cell? ⟨w.heap.size, 2, none⟩ = some (.slice a2 (ln p.den) k2) ∧ W.cell? ⟨w.heap.size + 1, 0, none⟩ = some (.bool (ng q)) ∧ W.cell? ⟨w.heap.size + 1, 1, none⟩ = some (.slice a3 (ln (tp q)) k3) ∧ W.cell? ⟨w.heap.size + 1, 2, none⟩ = some (.slice a4 (ln q.den) k4) from fun W h =>
   ⟨(HQ1.out.keep h).c0, (HQ1.out.keep h).c1, (HQ1.out.keep h).c2, (HQ2.out.keep h).c0, (HQ2.out.keep h).c1, (HQ2.out.keep h).c2⟩)
 have HT_u4 := Lib.hid (show ∀ W m x y, Below u4.heap.size u4 W → (st3 W (w.heap.size + 2) m x y).cell? ⟨w.heap.size, 0, none⟩ = some (.bool (ng p)) ∧ (st3 W (w.heap.size + 2) m x y).cell? ⟨w.heap.size, 1, none⟩ = some (.slice a1 (ln (tp p)) k1) ∧ (st3 W (w.heap.size + 2) m x y).cell? ⟨w.heap.size, 2, none⟩ = some (.slice a2 (ln p.den) k2) ∧ (st3 W (w.heap.size + 2) m x y).cell? ⟨w.heap.size + 1, 0, none⟩ = some (.bool (ng q)) ∧ (st3 W (w.heap.size + 2) m x y).cell? ⟨w.heap.size + 1, 1, none⟩ = some (.slice a3 (ln (tp q)) k3) ∧ (st3 W (w.heap.size + 2) m x y).cell? ⟨w.heap.size + 1, 2, none⟩ = some (.slice a4 (ln q.den) k4) from fun W m x y h => by
   have q1 := (HQ1.out.keep h).stOther (g := w.heap.size + 2) (by omega) m x y
   have q2 := (HQ2.out.keep h).stOther (g := w.heap.size + 2) (by omega) m x y
   exact ⟨q1.c0, q1.c1, q1.c2, q2.c0, q2.c1, q2.c2⟩)
 have hD_u4 := (Below.refl u4.heap.size u4).drew
 go_region_held3 (fun W => W.cell? ⟨w.heap.size, 0, none⟩ = some (.bool (ng p)) ∧ W.cell? ⟨w.heap.size, 1, none⟩ = some (.slice a1 (ln (tp p)) k1) ∧ W.cell? ⟨w.heap.size, 2, none⟩ = some (.slice a2 (ln p.den) k2) ∧ W.cell? ⟨w.heap.size + 1, 0, none⟩ = some (.bool (ng q)) ∧ W.cell? ⟨w.heap.size + 1, 1, none⟩ = some (.slice a3 (ln (tp q)) k3) ∧ W.cell? ⟨w.heap.size + 1, 2, none⟩ = some (.slice a4 (ln q.den) k4))
  (first | exact HS_u4.out _ hD_u4 | exact HS_u4.out _ (by assumption) | exact HT_u4.out _ _ _ _ (by assumption))
  (first
   | (go_at_call 54; refine (lift_i (w0 := u4) (by assumption) (iminus_any (a := tp q * p.den) (b := tp p * q.den) (HVY.out.below (by assumption)) (HVX.out.below (by assumption)) (by have := HM.out; omega) HC.out)).mono ?_; rintro e u5 ⟨vt, rfl, hvt, hbt, hBt⟩; obtain ⟨att, ktt, rfl⟩ := islice_any hvt)
   | (go_at_call 51; refine (lift_qq (w0 := u4) (by assumption) (HR.out ▸ rreduce_q (m := ng q) (n := tp q * p.den - tp p * q.den) (d := p.den * q.den) hvt (HVD.out.below (by assumption)) HTOP.out HM.out.2.1 HD.out)).mono ?_; rintro e u6 ⟨z, rfl, hz, hbz, hBz⟩; obtain ⟨a5, k5, a6, k6, rfl⟩ := hz.form; have i0 := (HQ3.out.keep hBz).c0; have i1 := (HQ3.out.keep hBz).c1; have i2 := (HQ3.out.keep hBz).c2; have j0 := (HQ3.out.keep hBz).z0; have j1 := (HQ3.out.keep hBz).z1; have j2 := (HQ3.out.keep hBz).z2))
 obtain ⟨_, hz1, hz2⟩ := hz.nums
 have hq := (HQ3.out.keep hBz).st (ng (r)) (.slice a5 (ln (tp (r))) k5) (.slice a6 (ln (r).den) k6)
 have hn1 := hz1.st3 (HQ3.out.keep hBz) (ng (r)) (.slice a5 (ln (tp (r))) k5) (.slice a6 (ln (r).den) k6)
 have hn2 := hz2.st3 (HQ3.out.keep hBz) (ng (r)) (.slice a5 (ln (tp (r))) k5) (.slice a6 (ln (r).den) k6)
 have hbf := below_st3 (HB.out.trans (hBz.mono HB.out.size)) (show w.heap.size ≤ w.heap.size + 2 by omega) (ng (r)) (.slice a5 (ln (tp (r))) k5) (.slice a6 (ln (r).den) k6)
 have HF := Lib.hid (And.intro hq (And.intro hn1 (And.intro hn2 hbf)))
 clear hq hn1 hn2 hbf i0 i1 i2 j0 j1 j2 hz hz1 hz2 hbz hBz hvt hbt hBt hD_u4
 go_wp2_with fail
 exact bodyPost_ret (HF.out.1.resP rfl) rfl ⟨_, rfl, ⟨_, _, rfl, HF.out.2.1, HF.out.2.2.1⟩, HF.out.2.2.2⟩
theorem rplus_q {w : World} {v u : Value} {p q r : Rat} (hp : QQ w v p) (hq : QQ w u q) (lp : QL 200000 p) (lq : QL 200000 q) (hr : p + q = r) :
  Calls Tryz.prog 21 #[v, u] w fun e w' => ∃ z, e = .returned z ∧ QQ w' z r ∧ Below w.heap.size w w' := by
 by_cases hm : ng p = ng q
 ·exact rplus_A hp hq lp lq hr hm
 ·by_cases hc : tp q * p.den ≤ tp p * q.den
  ·exact rplus_B hp hq lp lq hr hm hc
  ·exact rplus_C hp hq lp lq hr hm hc
open Go.RowKit NV
open Go.Lib (decDigits)
theorem lift_s {f : Nat} {args : Array Value} {w0 W : World} {v : Value} (h0 : Below w0.heap.size w0 W) (hc : Calls Tryz.prog f args W fun e w' => e = .returned v ∧ Below W.heap.size W w') :
  Calls Tryz.prog f args W fun e w' => e = .returned v ∧ Below W.heap.size W w' ∧ Below w0.heap.size w0 w' :=
 hc.mono fun _ _ ⟨h1, h3⟩ => ⟨h1, h3, h0.trans (h3.mono h0.size)⟩
set_option maxHeartbeats 3200000 in
set_option maxRecDepth 100000 in
theorem rwrite_N {w : World} {v : Value} {q : Rat} (hq : QQ w v q) (l : QL 1000000 q) (ho : ¬ Ok (tp q)) :
  Calls Tryz.prog 20 #[v] w (RQ q w) := by
 obtain ⟨a1, k1, a2, k2, rfl⟩ := hq.form
 obtain ⟨_, hx, hy⟩ := hq.nums
 have hb0 : Below w.heap.size w (w.alloc (.cells #[.bool (ng q), .slice a1 (ln (tp q)) k1, .slice a2 (ln q.den) k2] 61)) := (Below.refl _ _).alloc (Nat.le_refl _) _
 have HX := Lib.hid (hx.below hb0)
 have HY := Lib.hid (hy.below hb0)
 have HB := Lib.hid hb0
 have HQ := Lib.hid (QR.new w (ng q) (.slice a1 (ln (tp q)) k1) (.slice a2 (ln q.den) k2))
 have HL := Lib.hid l
 have HW := Lib.hid (show wQ q = (⟨#[]⟩, 5) from if_neg (fun h => ho h.1))
 have h1 : (4000 : Int) < (((dstr (tp q)).size : Nat) : Int) := by rw [dstr_size]; unfold Ok at ho; omega
 have hcl := ho
 clear hq hx hy hb0 l hcl ho
 unfold RQ
 rw [HW.out]
 clear HW
 go_enter Tryz.func20, Tryz.ntmps20
 go_wp2_with fail
 generalize w.alloc (.cells #[.bool (ng q), .slice a1 (ln (tp q)) k1, .slice a2 (ln q.den) k2] 61) = w0 at HX HY HB HQ ⊢
 have HS := Lib.hid (show ∀ W, Below w0.heap.size w0 W → W.cell? ⟨w.heap.size, 1, none⟩ = some (.slice a1 (ln (tp q)) k1) ∧ W.cell? ⟨w.heap.size, 2, none⟩ = some (.slice a2 (ln q.den) k2) from fun W h => ⟨(HQ.out.keep h).c1, (HQ.out.keep h).c2⟩)
 have hD0 := (Below.refl w0.heap.size w0).drew
 go_region_held3 (fun W => W.cell? ⟨w.heap.size, 1, none⟩ = some (.slice a1 (ln (tp q)) k1) ∧ W.cell? ⟨w.heap.size, 2, none⟩ = some (.slice a2 (ln q.den) k2))
  (first | exact HS.out _ hD0 | exact HS.out _ (by assumption))
  (first
   | (go_at_call_of 49 (Value.slice a1 (ln (tp q)) k1); refine (lift_s (w0 := w0) (by assumption) (iwrite_any (n := tp q) (HX.out.below (by assumption)) HL.out.1)).mono ?_; rintro e u1 ⟨rfl, hb1, hB1⟩)
   | (go_at_call_of 49 (Value.slice a2 (ln q.den) k2); refine (lift_s (w0 := w0) (by assumption) (iwrite_any (n := q.den) (HY.out.below (by assumption)) HL.out.2)).mono ?_; rintro e u2 ⟨rfl, hb2, hB2⟩))
 replace HB := Lib.hid (HB.out.trans (hB2.mono HB.out.size))
 have c0 := (HQ.out.keep hB2).c0
 clear hb1 hB1 hb2 hB2 hD0 HS
 go_wp2_with fail
 go_ret2
 exact ⟨rfl, HB.out⟩
set_option maxHeartbeats 3200000 in
set_option maxRecDepth 100000 in
theorem rwrite_D {w : World} {v : Value} {q : Rat} (hq : QQ w v q) (l : QL 1000000 q) (ho : Ok (tp q)) (ho2 : ¬ Ok q.den) :
  Calls Tryz.prog 20 #[v] w (RQ q w) := by
 obtain ⟨a1, k1, a2, k2, rfl⟩ := hq.form
 obtain ⟨_, hx, hy⟩ := hq.nums
 have hb0 : Below w.heap.size w (w.alloc (.cells #[.bool (ng q), .slice a1 (ln (tp q)) k1, .slice a2 (ln q.den) k2] 61)) := (Below.refl _ _).alloc (Nat.le_refl _) _
 have HX := Lib.hid (hx.below hb0)
 have HY := Lib.hid (hy.below hb0)
 have HB := Lib.hid hb0
 have HQ := Lib.hid (QR.new w (ng q) (.slice a1 (ln (tp q)) k1) (.slice a2 (ln q.den) k2))
 have HL := Lib.hid l
 have HW := Lib.hid (show wQ q = (⟨#[]⟩, 5) from if_neg (fun h => ho2 h.2))
 have h1 : ¬ (4000 : Int) < (((dstr (tp q)).size : Nat) : Int) := by rw [dstr_size]; unfold Ok at ho; omega
 have h2 : (4000 : Int) < (((dstr q.den).size : Nat) : Int) := by rw [dstr_size]; unfold Ok at ho2; omega
 have hcl := And.intro ho ho2
 clear hq hx hy hb0 l hcl ho ho2
 unfold RQ
 rw [HW.out]
 clear HW
 go_enter Tryz.func20, Tryz.ntmps20
 go_wp2_with fail
 generalize w.alloc (.cells #[.bool (ng q), .slice a1 (ln (tp q)) k1, .slice a2 (ln q.den) k2] 61) = w0 at HX HY HB HQ ⊢
 have HS := Lib.hid (show ∀ W, Below w0.heap.size w0 W → W.cell? ⟨w.heap.size, 1, none⟩ = some (.slice a1 (ln (tp q)) k1) ∧ W.cell? ⟨w.heap.size, 2, none⟩ = some (.slice a2 (ln q.den) k2) from fun W h => ⟨(HQ.out.keep h).c1, (HQ.out.keep h).c2⟩)
 have hD0 := (Below.refl w0.heap.size w0).drew
 go_region_held3 (fun W => W.cell? ⟨w.heap.size, 1, none⟩ = some (.slice a1 (ln (tp q)) k1) ∧ W.cell? ⟨w.heap.size, 2, none⟩ = some (.slice a2 (ln q.den) k2))
  (first | exact HS.out _ hD0 | exact HS.out _ (by assumption))
  (first
   | (go_at_call_of 49 (Value.slice a1 (ln (tp q)) k1); refine (lift_s (w0 := w0) (by assumption) (iwrite_any (n := tp q) (HX.out.below (by assumption)) HL.out.1)).mono ?_; rintro e u1 ⟨rfl, hb1, hB1⟩)
   | (go_at_call_of 49 (Value.slice a2 (ln q.den) k2); refine (lift_s (w0 := w0) (by assumption) (iwrite_any (n := q.den) (HY.out.below (by assumption)) HL.out.2)).mono ?_; rintro e u2 ⟨rfl, hb2, hB2⟩))
 replace HB := Lib.hid (HB.out.trans (hB2.mono HB.out.size))
 have c0 := (HQ.out.keep hB2).c0
 clear hb1 hB1 hb2 hB2 hD0 HS
 go_wp2_with fail
 go_ret2
 exact ⟨rfl, HB.out⟩
set_option maxHeartbeats 3200000 in
set_option maxRecDepth 100000 in
theorem rwrite_m1 {w : World} {v : Value} {q : Rat} (hq : QQ w v q) (l : QL 1000000 q) (ho : QOk q) (hm : ng q = true) (hd : q.den = 1) :
  Calls Tryz.prog 20 #[v] w (RQ q w) := by
 obtain ⟨a1, k1, a2, k2, rfl⟩ := hq.form
 obtain ⟨_, hx, hy⟩ := hq.nums
 have hb0 : Below w.heap.size w (w.alloc (.cells #[.bool (ng q), .slice a1 (ln (tp q)) k1, .slice a2 (ln q.den) k2] 61)) := (Below.refl _ _).alloc (Nat.le_refl _) _
 have HX := Lib.hid (hx.below hb0)
 have HY := Lib.hid (hy.below hb0)
 have HB := Lib.hid hb0
 have HQ := Lib.hid (QR.new w (ng q) (.slice a1 (ln (tp q)) k1) (.slice a2 (ln q.den) k2))
 have HL := Lib.hid l
 have HW := Lib.hid (show wQ q = (⟨#[45]⟩ ++ dstr (tp q), 0) by rw [wQ_ok ho]; unfold qstr rstr; rw [hm]; rw [if_pos hd]; rfl)
 have h1 : ¬ (4000 : Int) < (((dstr (tp q)).size : Nat) : Int) := by have := ho.1; rw [dstr_size]; unfold Ok at this; omega
 have h2 : ¬ (4000 : Int) < (((dstr q.den).size : Nat) : Int) := by have := ho.2; rw [dstr_size]; unfold Ok at this; omega
 have h3 : (dstr (tp q)).size ≤ 4000 := by omega
 have h4 : (dstr q.den).size ≤ 4000 := by omega
 have h5 : ((dstr q.den).toList == [49]) = true := by rw [dstr_is q.den 49 (by decide)]; exact decide_eq_true (by simpa using hd)
 have hcl := And.intro ho hd
 rw [hm] at HQ
 clear hq hx hy hb0 l hcl ho hd
 unfold RQ
 rw [HW.out]
 generalize wQ q = wq at HW
 rw [hm] at HX HY HB ⊢
 clear hm HW
 go_enter Tryz.func20, Tryz.ntmps20
 go_wp2_with fail
 generalize w.alloc (.cells #[.bool true, .slice a1 (ln (tp q)) k1, .slice a2 (ln q.den) k2] 61) = w0 at HX HY HB HQ ⊢
 have HS := Lib.hid (show ∀ W, Below w0.heap.size w0 W → W.cell? ⟨w.heap.size, 1, none⟩ = some (.slice a1 (ln (tp q)) k1) ∧ W.cell? ⟨w.heap.size, 2, none⟩ = some (.slice a2 (ln q.den) k2) from fun W h => ⟨(HQ.out.keep h).c1, (HQ.out.keep h).c2⟩)
 have hD0 := (Below.refl w0.heap.size w0).drew
 go_region_held3 (fun W => W.cell? ⟨w.heap.size, 1, none⟩ = some (.slice a1 (ln (tp q)) k1) ∧ W.cell? ⟨w.heap.size, 2, none⟩ = some (.slice a2 (ln q.den) k2))
  (first | exact HS.out _ hD0 | exact HS.out _ (by assumption))
  (first
   | (go_at_call_of 49 (Value.slice a1 (ln (tp q)) k1); refine (lift_s (w0 := w0) (by assumption) (iwrite_any (n := tp q) (HX.out.below (by assumption)) HL.out.1)).mono ?_; rintro e u1 ⟨rfl, hb1, hB1⟩)
   | (go_at_call_of 49 (Value.slice a2 (ln q.den) k2); refine (lift_s (w0 := w0) (by assumption) (iwrite_any (n := q.den) (HY.out.below (by assumption)) HL.out.2)).mono ?_; rintro e u2 ⟨rfl, hb2, hB2⟩))
 replace HB := Lib.hid (HB.out.trans (hB2.mono HB.out.size))
 have c0 := (HQ.out.keep hB2).c0
 clear hb1 hB1 hb2 hB2 hD0 HS
 go_wp2_with fail
 go_ret2
 exact ⟨rfl, HB.out⟩
set_option maxHeartbeats 3200000 in
set_option maxRecDepth 100000 in
theorem rwrite_md {w : World} {v : Value} {q : Rat} (hq : QQ w v q) (l : QL 1000000 q) (ho : QOk q) (hm : ng q = true) (hd : q.den ≠ 1) :
  Calls Tryz.prog 20 #[v] w (RQ q w) := by
 obtain ⟨a1, k1, a2, k2, rfl⟩ := hq.form
 obtain ⟨_, hx, hy⟩ := hq.nums
 have hb0 : Below w.heap.size w (w.alloc (.cells #[.bool (ng q), .slice a1 (ln (tp q)) k1, .slice a2 (ln q.den) k2] 61)) := (Below.refl _ _).alloc (Nat.le_refl _) _
 have HX := Lib.hid (hx.below hb0)
 have HY := Lib.hid (hy.below hb0)
 have HB := Lib.hid hb0
 have HQ := Lib.hid (QR.new w (ng q) (.slice a1 (ln (tp q)) k1) (.slice a2 (ln q.den) k2))
 have HL := Lib.hid l
 have HW := Lib.hid (show wQ q = (⟨#[45]⟩ ++ dstr (tp q) ++ ⟨#[47]⟩ ++ dstr q.den, 0) by rw [wQ_ok ho]; unfold qstr rstr; rw [hm]; rw [if_neg hd]; rfl)
 have h1 : ¬ (4000 : Int) < (((dstr (tp q)).size : Nat) : Int) := by have := ho.1; rw [dstr_size]; unfold Ok at this; omega
 have h2 : ¬ (4000 : Int) < (((dstr q.den).size : Nat) : Int) := by have := ho.2; rw [dstr_size]; unfold Ok at this; omega
 have h3 : (dstr (tp q)).size ≤ 4000 := by omega
 have h4 : (dstr q.den).size ≤ 4000 := by omega
 have h5 : ((dstr q.den).toList == [49]) = false := by rw [dstr_is q.den 49 (by decide)]; exact decide_eq_false (by simpa using hd)
 have hcl := And.intro ho hd
 have h6 : ((⟨#[45]⟩ : ByteArray) ++ dstr (tp q)).size ≤ 4001 := by rw [ByteArray.size_append, show (⟨#[45]⟩ : ByteArray).size = 1 from rfl]; omega
 have h7 : ((⟨#[45]⟩ ++ dstr (tp q)) ++ (⟨#[47]⟩ : ByteArray)).size ≤ 4002 := by rw [ByteArray.size_append, show (⟨#[47]⟩ : ByteArray).size = 1 from rfl]; omega
 rw [hm] at HQ
 clear hq hx hy hb0 l hcl ho hd
 unfold RQ
 rw [HW.out]
 generalize wQ q = wq at HW
 rw [hm] at HX HY HB ⊢
 clear hm HW
 go_enter Tryz.func20, Tryz.ntmps20
 go_wp2_with fail
 generalize w.alloc (.cells #[.bool true, .slice a1 (ln (tp q)) k1, .slice a2 (ln q.den) k2] 61) = w0 at HX HY HB HQ ⊢
 have HS := Lib.hid (show ∀ W, Below w0.heap.size w0 W → W.cell? ⟨w.heap.size, 1, none⟩ = some (.slice a1 (ln (tp q)) k1) ∧ W.cell? ⟨w.heap.size, 2, none⟩ = some (.slice a2 (ln q.den) k2) from fun W h => ⟨(HQ.out.keep h).c1, (HQ.out.keep h).c2⟩)
 have hD0 := (Below.refl w0.heap.size w0).drew
 go_region_held3 (fun W => W.cell? ⟨w.heap.size, 1, none⟩ = some (.slice a1 (ln (tp q)) k1) ∧ W.cell? ⟨w.heap.size, 2, none⟩ = some (.slice a2 (ln q.den) k2))
  (first | exact HS.out _ hD0 | exact HS.out _ (by assumption))
  (first
   | (go_at_call_of 49 (Value.slice a1 (ln (tp q)) k1); refine (lift_s (w0 := w0) (by assumption) (iwrite_any (n := tp q) (HX.out.below (by assumption)) HL.out.1)).mono ?_; rintro e u1 ⟨rfl, hb1, hB1⟩)
   | (go_at_call_of 49 (Value.slice a2 (ln q.den) k2); refine (lift_s (w0 := w0) (by assumption) (iwrite_any (n := q.den) (HY.out.below (by assumption)) HL.out.2)).mono ?_; rintro e u2 ⟨rfl, hb2, hB2⟩))
 replace HB := Lib.hid (HB.out.trans (hB2.mono HB.out.size))
 have c0 := (HQ.out.keep hB2).c0
 clear hb1 hB1 hb2 hB2 hD0 HS
 go_wp2_with fail
 go_ret2
 exact ⟨rfl, HB.out⟩
set_option maxHeartbeats 3200000 in
set_option maxRecDepth 100000 in
theorem rwrite_p1 {w : World} {v : Value} {q : Rat} (hq : QQ w v q) (l : QL 1000000 q) (ho : QOk q) (hm : ng q = false) (hd : q.den = 1) :
  Calls Tryz.prog 20 #[v] w (RQ q w) := by
 obtain ⟨a1, k1, a2, k2, rfl⟩ := hq.form
 obtain ⟨_, hx, hy⟩ := hq.nums
 have hb0 : Below w.heap.size w (w.alloc (.cells #[.bool (ng q), .slice a1 (ln (tp q)) k1, .slice a2 (ln q.den) k2] 61)) := (Below.refl _ _).alloc (Nat.le_refl _) _
 have HX := Lib.hid (hx.below hb0)
 have HY := Lib.hid (hy.below hb0)
 have HB := Lib.hid hb0
 have HQ := Lib.hid (QR.new w (ng q) (.slice a1 (ln (tp q)) k1) (.slice a2 (ln q.den) k2))
 have HL := Lib.hid l
 have HW := Lib.hid (show wQ q = (dstr (tp q), 0) by rw [wQ_ok ho]; unfold qstr rstr; rw [hm]; rw [if_pos hd]; rfl)
 have h1 : ¬ (4000 : Int) < (((dstr (tp q)).size : Nat) : Int) := by have := ho.1; rw [dstr_size]; unfold Ok at this; omega
 have h2 : ¬ (4000 : Int) < (((dstr q.den).size : Nat) : Int) := by have := ho.2; rw [dstr_size]; unfold Ok at this; omega
 have h3 : (dstr (tp q)).size ≤ 4000 := by omega
 have h4 : (dstr q.den).size ≤ 4000 := by omega
 have h5 : ((dstr q.den).toList == [49]) = true := by rw [dstr_is q.den 49 (by decide)]; exact decide_eq_true (by simpa using hd)
 have hcl := And.intro ho hd
 rw [hm] at HQ
 clear hq hx hy hb0 l hcl ho hd
 unfold RQ
 rw [HW.out]
 generalize wQ q = wq at HW
 rw [hm] at HX HY HB ⊢
 clear hm HW
 go_enter Tryz.func20, Tryz.ntmps20
 go_wp2_with fail
 generalize w.alloc (.cells #[.bool false, .slice a1 (ln (tp q)) k1, .slice a2 (ln q.den) k2] 61) = w0 at HX HY HB HQ ⊢
 have HS := Lib.hid (show ∀ W, Below w0.heap.size w0 W → W.cell? ⟨w.heap.size, 1, none⟩ = some (.slice a1 (ln (tp q)) k1) ∧ W.cell? ⟨w.heap.size, 2, none⟩ = some (.slice a2 (ln q.den) k2) from fun W h => ⟨(HQ.out.keep h).c1, (HQ.out.keep h).c2⟩)
 have hD0 := (Below.refl w0.heap.size w0).drew
 go_region_held3 (fun W => W.cell? ⟨w.heap.size, 1, none⟩ = some (.slice a1 (ln (tp q)) k1) ∧ W.cell? ⟨w.heap.size, 2, none⟩ = some (.slice a2 (ln q.den) k2))
  (first | exact HS.out _ hD0 | exact HS.out _ (by assumption))
  (first
   | (go_at_call_of 49 (Value.slice a1 (ln (tp q)) k1); refine (lift_s (w0 := w0) (by assumption) (iwrite_any (n := tp q) (HX.out.below (by assumption)) HL.out.1)).mono ?_; rintro e u1 ⟨rfl, hb1, hB1⟩)
   | (go_at_call_of 49 (Value.slice a2 (ln q.den) k2); refine (lift_s (w0 := w0) (by assumption) (iwrite_any (n := q.den) (HY.out.below (by assumption)) HL.out.2)).mono ?_; rintro e u2 ⟨rfl, hb2, hB2⟩))
 replace HB := Lib.hid (HB.out.trans (hB2.mono HB.out.size))
 have c0 := (HQ.out.keep hB2).c0
 clear hb1 hB1 hb2 hB2 hD0 HS
 go_wp2_with fail
 go_ret2
 exact ⟨rfl, HB.out⟩
set_option maxHeartbeats 3200000 in
set_option maxRecDepth 100000 in
theorem rwrite_pd {w : World} {v : Value} {q : Rat} (hq : QQ w v q) (l : QL 1000000 q) (ho : QOk q) (hm : ng q = false) (hd : q.den ≠ 1) :
  Calls Tryz.prog 20 #[v] w (RQ q w) := by
 obtain ⟨a1, k1, a2, k2, rfl⟩ := hq.form
 obtain ⟨_, hx, hy⟩ := hq.nums
 have hb0 : Below w.heap.size w (w.alloc (.cells #[.bool (ng q), .slice a1 (ln (tp q)) k1, .slice a2 (ln q.den) k2] 61)) := (Below.refl _ _).alloc (Nat.le_refl _) _
 have HX := Lib.hid (hx.below hb0)
 have HY := Lib.hid (hy.below hb0)
 have HB := Lib.hid hb0
 have HQ := Lib.hid (QR.new w (ng q) (.slice a1 (ln (tp q)) k1) (.slice a2 (ln q.den) k2))
 have HL := Lib.hid l
 have HW := Lib.hid (show wQ q = (dstr (tp q) ++ ⟨#[47]⟩ ++ dstr q.den, 0) by rw [wQ_ok ho]; unfold qstr rstr; rw [hm]; rw [if_neg hd]; rfl)
 have h1 : ¬ (4000 : Int) < (((dstr (tp q)).size : Nat) : Int) := by have := ho.1; rw [dstr_size]; unfold Ok at this; omega
 have h2 : ¬ (4000 : Int) < (((dstr q.den).size : Nat) : Int) := by have := ho.2; rw [dstr_size]; unfold Ok at this; omega
 have h3 : (dstr (tp q)).size ≤ 4000 := by omega
 have h4 : (dstr q.den).size ≤ 4000 := by omega
 have h5 : ((dstr q.den).toList == [49]) = false := by rw [dstr_is q.den 49 (by decide)]; exact decide_eq_false (by simpa using hd)
 have hcl := And.intro ho hd
 have h7 : ((dstr (tp q)) ++ (⟨#[47]⟩ : ByteArray)).size ≤ 4002 := by rw [ByteArray.size_append, show (⟨#[47]⟩ : ByteArray).size = 1 from rfl]; omega
 rw [hm] at HQ
 clear hq hx hy hb0 l hcl ho hd
 unfold RQ
 rw [HW.out]
 generalize wQ q = wq at HW
 rw [hm] at HX HY HB ⊢
 clear hm HW
 go_enter Tryz.func20, Tryz.ntmps20
 go_wp2_with fail
 generalize w.alloc (.cells #[.bool false, .slice a1 (ln (tp q)) k1, .slice a2 (ln q.den) k2] 61) = w0 at HX HY HB HQ ⊢
 have HS := Lib.hid (show ∀ W, Below w0.heap.size w0 W → W.cell? ⟨w.heap.size, 1, none⟩ = some (.slice a1 (ln (tp q)) k1) ∧ W.cell? ⟨w.heap.size, 2, none⟩ = some (.slice a2 (ln q.den) k2) from fun W h => ⟨(HQ.out.keep h).c1, (HQ.out.keep h).c2⟩)
 have hD0 := (Below.refl w0.heap.size w0).drew
 go_region_held3 (fun W => W.cell? ⟨w.heap.size, 1, none⟩ = some (.slice a1 (ln (tp q)) k1) ∧ W.cell? ⟨w.heap.size, 2, none⟩ = some (.slice a2 (ln q.den) k2))
  (first | exact HS.out _ hD0 | exact HS.out _ (by assumption))
  (first
   | (go_at_call_of 49 (Value.slice a1 (ln (tp q)) k1); refine (lift_s (w0 := w0) (by assumption) (iwrite_any (n := tp q) (HX.out.below (by assumption)) HL.out.1)).mono ?_; rintro e u1 ⟨rfl, hb1, hB1⟩)
   | (go_at_call_of 49 (Value.slice a2 (ln q.den) k2); refine (lift_s (w0 := w0) (by assumption) (iwrite_any (n := q.den) (HY.out.below (by assumption)) HL.out.2)).mono ?_; rintro e u2 ⟨rfl, hb2, hB2⟩))
 replace HB := Lib.hid (HB.out.trans (hB2.mono HB.out.size))
 have c0 := (HQ.out.keep hB2).c0
 clear hb1 hB1 hb2 hB2 hD0 HS
 go_wp2_with fail
 go_ret2
 exact ⟨rfl, HB.out⟩
theorem rwrite_q {w : World} {v : Value} {q : Rat} (hq : QQ w v q) (l : QL 1000000 q) :
  Calls Tryz.prog 20 #[v] w (RQ q w) := by
 by_cases h1 : Ok (tp q)
 ·by_cases h2 : Ok q.den
  ·by_cases hd : q.den = 1
   ·cases hm : ng q with
    | true => exact rwrite_m1 hq l ⟨h1, h2⟩ hm hd
    | false => exact rwrite_p1 hq l ⟨h1, h2⟩ hm hd
   ·cases hm : ng q with
    | true => exact rwrite_md hq l ⟨h1, h2⟩ hm hd
    | false => exact rwrite_pd hq l ⟨h1, h2⟩ hm hd
  ·exact rwrite_D hq l h1 h2
 ·exact rwrite_N hq l h1
open Go.RowKit NV
open Go.Lib (decDigits)
theorem QR.newD (w : World) (m : Bool) (n d : Value) : QR ((w.alloc (.cells #[.bool m, n, d] 61)).drew) w.heap.size m n d := heap_alloc_new w _
set_option maxHeartbeats 6400000 in
set_option maxRecDepth 100000 in
theorem rorder_Z {w : World} {v u : Value} {p q r : Rat} (hp : QQ w v p) (hq : QQ w u q) (lp : QL 100000 p) (lq : QL 100000 q) (hr : p + -q = r) (hz : tp r = 0) :
  Calls Tryz.prog 48 #[v, u] w fun e w' => e = .returned (.int .i64 (0)) ∧ Below w.heap.size w w' := by
 obtain ⟨a1, k1, a2, k2, rfl⟩ := hp.form
 obtain ⟨a3, k3, a4, k4, rfl⟩ := hq.form
 obtain ⟨hb0, hq1, hq2⟩ := two_newQ w (ng p) (ng q) (.slice a1 (ln (tp p)) k1) (.slice a2 (ln p.den) k2) (.slice a3 (ln (tp q)) k3) (.slice a4 (ln q.den) k4)
 have HP := Lib.hid (hp.below hb0)
 have HQ := Lib.hid (hq.below hb0)
 have HB := Lib.hid hb0
 have HQ1 := Lib.hid hq1
 have HQ2 := Lib.hid hq2
 have HL := Lib.hid (And.intro (lp.mono (show 100000 ≤ 200000 by omega)) (QL.neg (lq.mono (show 100000 ≤ 200000 by omega))))
 have HR := Lib.hid hr
 have hl : ln (tp r) = 0 := by rw [hz, ln_zero]
 have HLN := Lib.hid hl
 clear hp hq lp lq hb0 hq1 hq2 hr hz hl
 go_enter Tryz.func48, Tryz.ntmps48
 go_wp2_with fail
 generalize (w.alloc (.cells #[.bool (ng p), .slice a1 (ln (tp p)) k1, .slice a2 (ln p.den) k2] 61)).alloc (.cells #[.bool (ng q), .slice a3 (ln (tp q)) k3, .slice a4 (ln q.den) k4] 61) = w0 at HP HQ HB HQ1 HQ2 ⊢
 have HS := Lib.hid (show ∀ W, Below w0.heap.size w0 W → W.cell? ⟨w.heap.size, 0, none⟩ = some (.bool (ng p)) ∧ W.cell? ⟨w.heap.size, 1, none⟩ = some (.slice a1 (ln (tp p)) k1) ∧ W.cell? ⟨w.heap.size, 2, none⟩ = some (.slice a2 (ln p.den) k2) ∧ W.cell? ⟨w.heap.size + 1, 0, none⟩ = some (.bool (ng q)) ∧ W.cell? ⟨w.heap.size + 1, 1, none⟩ = some (.slice a3 (ln (tp q)) k3) ∧ W.cell? ⟨w.heap.size + 1, 2, none⟩ = some (.slice a4 (ln q.den) k4) from fun W h =>
   ⟨(HQ1.out.keep h).c0, (HQ1.out.keep h).c1, (HQ1.out.keep h).c2, (HQ2.out.keep h).c0, (HQ2.out.keep h).c1, (HQ2.out.keep h).c2⟩)
 have HT := Lib.hid (show ∀ W g m x y, w.heap.size + 1 < g → Below w0.heap.size w0 W → (st3 W g m x y).cell? ⟨w.heap.size, 0, none⟩ = some (.bool (ng p)) ∧ (st3 W g m x y).cell? ⟨w.heap.size, 1, none⟩ = some (.slice a1 (ln (tp p)) k1) ∧ (st3 W g m x y).cell? ⟨w.heap.size, 2, none⟩ = some (.slice a2 (ln p.den) k2) ∧ (st3 W g m x y).cell? ⟨w.heap.size + 1, 0, none⟩ = some (.bool (ng q)) ∧ (st3 W g m x y).cell? ⟨w.heap.size + 1, 1, none⟩ = some (.slice a3 (ln (tp q)) k3) ∧ (st3 W g m x y).cell? ⟨w.heap.size + 1, 2, none⟩ = some (.slice a4 (ln q.den) k4) from fun W g m x y hg h => by
   have q1 := (HQ1.out.keep h).stOther (g := g) (by omega) m x y
   have q2 := (HQ2.out.keep h).stOther (g := g) (by omega) m x y
   exact ⟨q1.c0, q1.c1, q1.c2, q2.c0, q2.c1, q2.c2⟩)
 have hw2 := HQ2.out.lt
 have hD0 := (Below.refl w0.heap.size w0).drew
 go_region_held3 (fun W => W.cell? ⟨w.heap.size, 0, none⟩ = some (.bool (ng p)) ∧ W.cell? ⟨w.heap.size, 1, none⟩ = some (.slice a1 (ln (tp p)) k1) ∧ W.cell? ⟨w.heap.size, 2, none⟩ = some (.slice a2 (ln p.den) k2) ∧ W.cell? ⟨w.heap.size + 1, 0, none⟩ = some (.bool (ng q)) ∧ W.cell? ⟨w.heap.size + 1, 1, none⟩ = some (.slice a3 (ln (tp q)) k3) ∧ W.cell? ⟨w.heap.size + 1, 2, none⟩ = some (.slice a4 (ln q.den) k4))
  (first | exact HS.out _ hD0 | exact HS.out _ (by assumption) | exact HS.out _ (hD0.alloc hD0.size _) | exact HS.out _ (hB1.alloc hB1.size _) | exact HS.out _ (hB2.alloc hB2.size _) | exact HT.out _ _ _ _ _ (by first | exact hw2 | exact Nat.lt_of_lt_of_le hw2 hB1.size) hB2)
  (first
   | (go_at_call 24; refine (lift_qq (w0 := w0) (by first | assumption | exact hD0.alloc hD0.size _) (rneg_q (HQ.out.below (by first | assumption | exact hD0.alloc hD0.size _)))).mono ?_; rintro e u1 ⟨z1, rfl, hz1, hb1, hB1⟩; obtain ⟨a5, k5, a6, k6, rfl⟩ := hz1.form)
   | (go_at_call 21; refine (lift_qq (w0 := w0) (by first | assumption | exact hB1.alloc hB1.size _) (rplus_q (HP.out.below (by first | assumption | exact hB1.alloc hB1.size _)) (by first | exact hz1 | exact hz1.below (Below.alloc (Below.refl _ _) (Nat.le_refl _) _)) HL.out.1 HL.out.2 HR.out)).mono ?_; rintro e u2 ⟨z2, rfl, hz2, hb2, hB2⟩; obtain ⟨a7, k7, a8, k8, rfl⟩ := hz2.form; (first | (have hqd := ((QR.newD w0 false (.slice none 0 0) (.slice none 0 0)).keep hb1).keep hb2; have i0 := hqd.c0; have i1 := hqd.c1; have i2 := hqd.c2; have j0 := hqd.z0; have j1 := hqd.z1; have j2 := hqd.z2; clear hqd) | (have hqd := ((QR.new w0.drew false (.slice none 0 0) (.slice none 0 0)).keep hb1).keep hb2; have i0 := hqd.c0; have i1 := hqd.c1; have i2 := hqd.c2; have j0 := hqd.z0; have j1 := hqd.z1; have j2 := hqd.z2; clear hqd) | (have hqd := (QR.new u1 false (.slice none 0 0) (.slice none 0 0)).keep hb2; have i0 := hqd.c0; have i1 := hqd.c1; have i2 := hqd.c2; have j0 := hqd.z0; have j1 := hqd.z1; have j2 := hqd.z2; clear hqd) | skip)))
 all_goals rw [HLN.out]
 all_goals (
  have hbz := HB.out.trans (hB2.mono HB.out.size)
  have hsz0 := HB.out.size
  have hsz1 := hB1.size
  go_wp2_with fail
  go_ret
  refine ⟨rfl, ?_⟩
  first
   | exact hbz.alloc (Nat.le_trans HB.out.size hB2.size) _
   | exact ((hbz.setCell (p := ⟨w0.heap.size, 0, none⟩) hsz0 _).setCell (p := ⟨w0.heap.size, 1, none⟩) hsz0 _).setCell (p := ⟨w0.heap.size, 2, none⟩) hsz0 _
   | exact ((hbz.setCell (p := ⟨u1.heap.size, 0, none⟩) (Nat.le_trans hsz0 hsz1) _).setCell (p := ⟨u1.heap.size, 1, none⟩) (Nat.le_trans hsz0 hsz1) _).setCell (p := ⟨u1.heap.size, 2, none⟩) (Nat.le_trans hsz0 hsz1) _)
set_option maxHeartbeats 6400000 in
set_option maxRecDepth 100000 in
theorem rorder_M {w : World} {v u : Value} {p q r : Rat} (hp : QQ w v p) (hq : QQ w u q) (lp : QL 100000 p) (lq : QL 100000 q) (hr : p + -q = r) (hz : tp r ≠ 0) (hm : ng r = true) :
  Calls Tryz.prog 48 #[v, u] w fun e w' => e = .returned (.int .i64 (-1)) ∧ Below w.heap.size w w' := by
 obtain ⟨a1, k1, a2, k2, rfl⟩ := hp.form
 obtain ⟨a3, k3, a4, k4, rfl⟩ := hq.form
 obtain ⟨hb0, hq1, hq2⟩ := two_newQ w (ng p) (ng q) (.slice a1 (ln (tp p)) k1) (.slice a2 (ln p.den) k2) (.slice a3 (ln (tp q)) k3) (.slice a4 (ln q.den) k4)
 have HP := Lib.hid (hp.below hb0)
 have HQ := Lib.hid (hq.below hb0)
 have HB := Lib.hid hb0
 have HQ1 := Lib.hid hq1
 have HQ2 := Lib.hid hq2
 have HL := Lib.hid (And.intro (lp.mono (show 100000 ≤ 200000 by omega)) (QL.neg (lq.mono (show 100000 ≤ 200000 by omega))))
 have HR := Lib.hid hr
 have hl : (((ln (tp r) : Nat) : Int) == 0) = false := by have := ln_pos hz; rw [beq_eq_false_iff_ne]; omega
 have HM := Lib.hid hm
 clear hp hq lp lq hb0 hq1 hq2 hr hz hm
 go_enter Tryz.func48, Tryz.ntmps48
 go_wp2_with fail
 generalize (w.alloc (.cells #[.bool (ng p), .slice a1 (ln (tp p)) k1, .slice a2 (ln p.den) k2] 61)).alloc (.cells #[.bool (ng q), .slice a3 (ln (tp q)) k3, .slice a4 (ln q.den) k4] 61) = w0 at HP HQ HB HQ1 HQ2 ⊢
 have HS := Lib.hid (show ∀ W, Below w0.heap.size w0 W → W.cell? ⟨w.heap.size, 0, none⟩ = some (.bool (ng p)) ∧ W.cell? ⟨w.heap.size, 1, none⟩ = some (.slice a1 (ln (tp p)) k1) ∧ W.cell? ⟨w.heap.size, 2, none⟩ = some (.slice a2 (ln p.den) k2) ∧ W.cell? ⟨w.heap.size + 1, 0, none⟩ = some (.bool (ng q)) ∧ W.cell? ⟨w.heap.size + 1, 1, none⟩ = some (.slice a3 (ln (tp q)) k3) ∧ W.cell? ⟨w.heap.size + 1, 2, none⟩ = some (.slice a4 (ln q.den) k4) from fun W h =>
   ⟨(HQ1.out.keep h).c0, (HQ1.out.keep h).c1, (HQ1.out.keep h).c2, (HQ2.out.keep h).c0, (HQ2.out.keep h).c1, (HQ2.out.keep h).c2⟩)
 have HT := Lib.hid (show ∀ W g m x y, w.heap.size + 1 < g → Below w0.heap.size w0 W → (st3 W g m x y).cell? ⟨w.heap.size, 0, none⟩ = some (.bool (ng p)) ∧ (st3 W g m x y).cell? ⟨w.heap.size, 1, none⟩ = some (.slice a1 (ln (tp p)) k1) ∧ (st3 W g m x y).cell? ⟨w.heap.size, 2, none⟩ = some (.slice a2 (ln p.den) k2) ∧ (st3 W g m x y).cell? ⟨w.heap.size + 1, 0, none⟩ = some (.bool (ng q)) ∧ (st3 W g m x y).cell? ⟨w.heap.size + 1, 1, none⟩ = some (.slice a3 (ln (tp q)) k3) ∧ (st3 W g m x y).cell? ⟨w.heap.size + 1, 2, none⟩ = some (.slice a4 (ln q.den) k4) from fun W g m x y hg h => by
   have q1 := (HQ1.out.keep h).stOther (g := g) (by omega) m x y
   have q2 := (HQ2.out.keep h).stOther (g := g) (by omega) m x y
   exact ⟨q1.c0, q1.c1, q1.c2, q2.c0, q2.c1, q2.c2⟩)
 have hw2 := HQ2.out.lt
 have hD0 := (Below.refl w0.heap.size w0).drew
 go_region_held3 (fun W => W.cell? ⟨w.heap.size, 0, none⟩ = some (.bool (ng p)) ∧ W.cell? ⟨w.heap.size, 1, none⟩ = some (.slice a1 (ln (tp p)) k1) ∧ W.cell? ⟨w.heap.size, 2, none⟩ = some (.slice a2 (ln p.den) k2) ∧ W.cell? ⟨w.heap.size + 1, 0, none⟩ = some (.bool (ng q)) ∧ W.cell? ⟨w.heap.size + 1, 1, none⟩ = some (.slice a3 (ln (tp q)) k3) ∧ W.cell? ⟨w.heap.size + 1, 2, none⟩ = some (.slice a4 (ln q.den) k4))
  (first | exact HS.out _ hD0 | exact HS.out _ (by assumption) | exact HS.out _ (hD0.alloc hD0.size _) | exact HS.out _ (hB1.alloc hB1.size _) | exact HS.out _ (hB2.alloc hB2.size _) | exact HT.out _ _ _ _ _ (by first | exact hw2 | exact Nat.lt_of_lt_of_le hw2 hB1.size) hB2)
  (first
   | (go_at_call 24; refine (lift_qq (w0 := w0) (by first | assumption | exact hD0.alloc hD0.size _) (rneg_q (HQ.out.below (by first | assumption | exact hD0.alloc hD0.size _)))).mono ?_; rintro e u1 ⟨z1, rfl, hz1, hb1, hB1⟩; obtain ⟨a5, k5, a6, k6, rfl⟩ := hz1.form)
   | (go_at_call 21; refine (lift_qq (w0 := w0) (by first | assumption | exact hB1.alloc hB1.size _) (rplus_q (HP.out.below (by first | assumption | exact hB1.alloc hB1.size _)) (by first | exact hz1 | exact hz1.below (Below.alloc (Below.refl _ _) (Nat.le_refl _) _)) HL.out.1 HL.out.2 HR.out)).mono ?_; rintro e u2 ⟨z2, rfl, hz2, hb2, hB2⟩; obtain ⟨a7, k7, a8, k8, rfl⟩ := hz2.form; (first | (have hqd := ((QR.newD w0 false (.slice none 0 0) (.slice none 0 0)).keep hb1).keep hb2; have i0 := hqd.c0; have i1 := hqd.c1; have i2 := hqd.c2; have j0 := hqd.z0; have j1 := hqd.z1; have j2 := hqd.z2; clear hqd) | (have hqd := ((QR.new w0.drew false (.slice none 0 0) (.slice none 0 0)).keep hb1).keep hb2; have i0 := hqd.c0; have i1 := hqd.c1; have i2 := hqd.c2; have j0 := hqd.z0; have j1 := hqd.z1; have j2 := hqd.z2; clear hqd) | (have hqd := (QR.new u1 false (.slice none 0 0) (.slice none 0 0)).keep hb2; have i0 := hqd.c0; have i1 := hqd.c1; have i2 := hqd.c2; have j0 := hqd.z0; have j1 := hqd.z1; have j2 := hqd.z2; clear hqd) | skip)))
 all_goals rw [HM.out]
 all_goals (
  have hbz := HB.out.trans (hB2.mono HB.out.size)
  have hsz0 := HB.out.size
  have hsz1 := hB1.size
  go_wp2_with fail
  go_ret
  refine ⟨rfl, ?_⟩
  first
   | exact hbz.alloc (Nat.le_trans HB.out.size hB2.size) _
   | exact ((hbz.setCell (p := ⟨w0.heap.size, 0, none⟩) hsz0 _).setCell (p := ⟨w0.heap.size, 1, none⟩) hsz0 _).setCell (p := ⟨w0.heap.size, 2, none⟩) hsz0 _
   | exact ((hbz.setCell (p := ⟨u1.heap.size, 0, none⟩) (Nat.le_trans hsz0 hsz1) _).setCell (p := ⟨u1.heap.size, 1, none⟩) (Nat.le_trans hsz0 hsz1) _).setCell (p := ⟨u1.heap.size, 2, none⟩) (Nat.le_trans hsz0 hsz1) _)
set_option maxHeartbeats 6400000 in
set_option maxRecDepth 100000 in
theorem rorder_P {w : World} {v u : Value} {p q r : Rat} (hp : QQ w v p) (hq : QQ w u q) (lp : QL 100000 p) (lq : QL 100000 q) (hr : p + -q = r) (hz : tp r ≠ 0) (hm : ng r = false) :
  Calls Tryz.prog 48 #[v, u] w fun e w' => e = .returned (.int .i64 (1)) ∧ Below w.heap.size w w' := by
 obtain ⟨a1, k1, a2, k2, rfl⟩ := hp.form
 obtain ⟨a3, k3, a4, k4, rfl⟩ := hq.form
 obtain ⟨hb0, hq1, hq2⟩ := two_newQ w (ng p) (ng q) (.slice a1 (ln (tp p)) k1) (.slice a2 (ln p.den) k2) (.slice a3 (ln (tp q)) k3) (.slice a4 (ln q.den) k4)
 have HP := Lib.hid (hp.below hb0)
 have HQ := Lib.hid (hq.below hb0)
 have HB := Lib.hid hb0
 have HQ1 := Lib.hid hq1
 have HQ2 := Lib.hid hq2
 have HL := Lib.hid (And.intro (lp.mono (show 100000 ≤ 200000 by omega)) (QL.neg (lq.mono (show 100000 ≤ 200000 by omega))))
 have HR := Lib.hid hr
 have hl : (((ln (tp r) : Nat) : Int) == 0) = false := by have := ln_pos hz; rw [beq_eq_false_iff_ne]; omega
 have HM := Lib.hid hm
 clear hp hq lp lq hb0 hq1 hq2 hr hz hm
 go_enter Tryz.func48, Tryz.ntmps48
 go_wp2_with fail
 generalize (w.alloc (.cells #[.bool (ng p), .slice a1 (ln (tp p)) k1, .slice a2 (ln p.den) k2] 61)).alloc (.cells #[.bool (ng q), .slice a3 (ln (tp q)) k3, .slice a4 (ln q.den) k4] 61) = w0 at HP HQ HB HQ1 HQ2 ⊢
 have HS := Lib.hid (show ∀ W, Below w0.heap.size w0 W → W.cell? ⟨w.heap.size, 0, none⟩ = some (.bool (ng p)) ∧ W.cell? ⟨w.heap.size, 1, none⟩ = some (.slice a1 (ln (tp p)) k1) ∧ W.cell? ⟨w.heap.size, 2, none⟩ = some (.slice a2 (ln p.den) k2) ∧ W.cell? ⟨w.heap.size + 1, 0, none⟩ = some (.bool (ng q)) ∧ W.cell? ⟨w.heap.size + 1, 1, none⟩ = some (.slice a3 (ln (tp q)) k3) ∧ W.cell? ⟨w.heap.size + 1, 2, none⟩ = some (.slice a4 (ln q.den) k4) from fun W h =>
   ⟨(HQ1.out.keep h).c0, (HQ1.out.keep h).c1, (HQ1.out.keep h).c2, (HQ2.out.keep h).c0, (HQ2.out.keep h).c1, (HQ2.out.keep h).c2⟩)
 have HT := Lib.hid (show ∀ W g m x y, w.heap.size + 1 < g → Below w0.heap.size w0 W → (st3 W g m x y).cell? ⟨w.heap.size, 0, none⟩ = some (.bool (ng p)) ∧ (st3 W g m x y).cell? ⟨w.heap.size, 1, none⟩ = some (.slice a1 (ln (tp p)) k1) ∧ (st3 W g m x y).cell? ⟨w.heap.size, 2, none⟩ = some (.slice a2 (ln p.den) k2) ∧ (st3 W g m x y).cell? ⟨w.heap.size + 1, 0, none⟩ = some (.bool (ng q)) ∧ (st3 W g m x y).cell? ⟨w.heap.size + 1, 1, none⟩ = some (.slice a3 (ln (tp q)) k3) ∧ (st3 W g m x y).cell? ⟨w.heap.size + 1, 2, none⟩ = some (.slice a4 (ln q.den) k4) from fun W g m x y hg h => by
   have q1 := (HQ1.out.keep h).stOther (g := g) (by omega) m x y
   have q2 := (HQ2.out.keep h).stOther (g := g) (by omega) m x y
   exact ⟨q1.c0, q1.c1, q1.c2, q2.c0, q2.c1, q2.c2⟩)
 have hw2 := HQ2.out.lt
 have hD0 := (Below.refl w0.heap.size w0).drew
 go_region_held3 (fun W => W.cell? ⟨w.heap.size, 0, none⟩ = some (.bool (ng p)) ∧ W.cell? ⟨w.heap.size, 1, none⟩ = some (.slice a1 (ln (tp p)) k1) ∧ W.cell? ⟨w.heap.size, 2, none⟩ = some (.slice a2 (ln p.den) k2) ∧ W.cell? ⟨w.heap.size + 1, 0, none⟩ = some (.bool (ng q)) ∧ W.cell? ⟨w.heap.size + 1, 1, none⟩ = some (.slice a3 (ln (tp q)) k3) ∧ W.cell? ⟨w.heap.size + 1, 2, none⟩ = some (.slice a4 (ln q.den) k4))
  (first | exact HS.out _ hD0 | exact HS.out _ (by assumption) | exact HS.out _ (hD0.alloc hD0.size _) | exact HS.out _ (hB1.alloc hB1.size _) | exact HS.out _ (hB2.alloc hB2.size _) | exact HT.out _ _ _ _ _ (by first | exact hw2 | exact Nat.lt_of_lt_of_le hw2 hB1.size) hB2)
  (first
   | (go_at_call 24; refine (lift_qq (w0 := w0) (by first | assumption | exact hD0.alloc hD0.size _) (rneg_q (HQ.out.below (by first | assumption | exact hD0.alloc hD0.size _)))).mono ?_; rintro e u1 ⟨z1, rfl, hz1, hb1, hB1⟩; obtain ⟨a5, k5, a6, k6, rfl⟩ := hz1.form)
   | (go_at_call 21; refine (lift_qq (w0 := w0) (by first | assumption | exact hB1.alloc hB1.size _) (rplus_q (HP.out.below (by first | assumption | exact hB1.alloc hB1.size _)) (by first | exact hz1 | exact hz1.below (Below.alloc (Below.refl _ _) (Nat.le_refl _) _)) HL.out.1 HL.out.2 HR.out)).mono ?_; rintro e u2 ⟨z2, rfl, hz2, hb2, hB2⟩; obtain ⟨a7, k7, a8, k8, rfl⟩ := hz2.form; (first | (have hqd := ((QR.newD w0 false (.slice none 0 0) (.slice none 0 0)).keep hb1).keep hb2; have i0 := hqd.c0; have i1 := hqd.c1; have i2 := hqd.c2; have j0 := hqd.z0; have j1 := hqd.z1; have j2 := hqd.z2; clear hqd) | (have hqd := ((QR.new w0.drew false (.slice none 0 0) (.slice none 0 0)).keep hb1).keep hb2; have i0 := hqd.c0; have i1 := hqd.c1; have i2 := hqd.c2; have j0 := hqd.z0; have j1 := hqd.z1; have j2 := hqd.z2; clear hqd) | (have hqd := (QR.new u1 false (.slice none 0 0) (.slice none 0 0)).keep hb2; have i0 := hqd.c0; have i1 := hqd.c1; have i2 := hqd.c2; have j0 := hqd.z0; have j1 := hqd.z1; have j2 := hqd.z2; clear hqd) | skip)))
 all_goals rw [HM.out]
 all_goals (
  have hbz := HB.out.trans (hB2.mono HB.out.size)
  have hsz0 := HB.out.size
  have hsz1 := hB1.size
  go_wp2_with fail
  go_ret
  refine ⟨rfl, ?_⟩
  first
   | exact hbz.alloc (Nat.le_trans HB.out.size hB2.size) _
   | exact ((hbz.setCell (p := ⟨w0.heap.size, 0, none⟩) hsz0 _).setCell (p := ⟨w0.heap.size, 1, none⟩) hsz0 _).setCell (p := ⟨w0.heap.size, 2, none⟩) hsz0 _
   | exact ((hbz.setCell (p := ⟨u1.heap.size, 0, none⟩) (Nat.le_trans hsz0 hsz1) _).setCell (p := ⟨u1.heap.size, 1, none⟩) (Nat.le_trans hsz0 hsz1) _).setCell (p := ⟨u1.heap.size, 2, none⟩) (Nat.le_trans hsz0 hsz1) _)
theorem rorder_q {w : World} {v u : Value} {p q : Rat} (hp : QQ w v p) (hq : QQ w u q) (lp : QL 100000 p) (lq : QL 100000 q) :
  Calls Tryz.prog 48 #[v, u] w fun e w' => e = .returned (.int .i64 (cmpQ p q)) ∧ Below w.heap.size w w' := by
 rw [← cmpQ_sub, ← sgnF_q, sgnF]
 by_cases hz : tp (p + -q) = 0
 ·rw [if_pos hz]; exact rorder_Z hp hq lp lq rfl hz
 ·rw [if_neg hz]
  cases hm : ng (p + -q) with
  | true => exact rorder_M hp hq lp lq rfl hz hm
  | false => exact rorder_P hp hq lp lq rfl hz hm
end Go.Proofs.YtjpepjooefkbkaaGreatDoor
