/-
  The reference of rat: its numbers as rational numbers; Read, Reduce, Negative, Over, Times, Plus, Order, Write.
-/
import Derived.Test.YtadkijaofmcgfaaGreatDoorT1
import Derived.Test.YtadkijaofmcgfaaGreatDoorGG
import Derived.Test.YtadkijaofmcgfaaGreatDoorGL
import Derived.Test.YtadkijaofmcgfaaGreatDoorP16
import Derived.Test.YtadkijaofmcgfaaGreatDoorP26
import Derived.Test.YtadkijaofmcgfaaGreatDoorP27
namespace Go.Proofs.YtadkijaofmcgfaaGreatDoor
open Go.RowKit NV
open Go.Lib (decDigits)

theorem QR.lt {w : World} {b : Nat} {m : Bool} {n d : Value} (h : QR w b m n d) : b < w.heap.size := (Array.getElem?_eq_some_iff.1 h).1
theorem QR.keep {w w' : World} {b : Nat} {m : Bool} {n d : Value} (h : QR w b m n d) (hb : Below w.heap.size w w') : QR w' b m n d := (hb.block _ h.lt).trans h
theorem QR.c0 {w : World} {b : Nat} {m : Bool} {n d : Value} (h : QR w b m n d) : w.cell? ⟨b, 0, none⟩ = some (.bool m) := by rw [Lib.cell_of_heap h]; rfl
theorem QR.c1 {w : World} {b : Nat} {m : Bool} {n d : Value} (h : QR w b m n d) : w.cell? ⟨b, 1, none⟩ = some n := by rw [Lib.cell_of_heap h]; rfl
theorem QR.c2 {w : World} {b : Nat} {m : Bool} {n d : Value} (h : QR w b m n d) : w.cell? ⟨b, 2, none⟩ = some d := by rw [Lib.cell_of_heap h]; rfl
theorem QR.z0 {w : World} {b : Nat} {m : Bool} {n d : Value} (h : QR w b m n d) : w.frozen? ⟨b, 0, none⟩ = false := Lib.frozen_of_heap h 0
theorem QR.z1 {w : World} {b : Nat} {m : Bool} {n d : Value} (h : QR w b m n d) : w.frozen? ⟨b, 1, none⟩ = false := Lib.frozen_of_heap h 1
theorem QR.z2 {w : World} {b : Nat} {m : Bool} {n d : Value} (h : QR w b m n d) : w.frozen? ⟨b, 2, none⟩ = false := Lib.frozen_of_heap h 2
theorem QR.new (w : World) (m : Bool) (n d : Value) : QR (w.alloc (.cells #[.bool m, n, d] 78)) w.heap.size m n d := heap_alloc_new w _

theorem QR.stOther {w : World} {b g : Nat} {m : Bool} {n d : Value} (h : QR w b m n d) (hg : b ≠ g) (m' : Bool) (n' d' : Value) : QR (st3 w g m' n' d') b m n d :=
  (heap_setCell_other _ ⟨g, 2, none⟩ b _ hg).trans ((heap_setCell_other _ ⟨g, 1, none⟩ b _ hg).trans ((heap_setCell_other w ⟨g, 0, none⟩ b _ hg).trans h))

/-- Three numbers of the reference laid. -/
theorem three_newQ (w : World) (m1 m2 m3 : Bool) (x1 y1 x2 y2 x3 y3 : Value) :
    Below w.heap.size w (((w.alloc (.cells #[.bool m1, x1, y1] 78)).alloc (.cells #[.bool m2, x2, y2] 78)).alloc (.cells #[.bool m3, x3, y3] 78)) ∧
    QR (((w.alloc (.cells #[.bool m1, x1, y1] 78)).alloc (.cells #[.bool m2, x2, y2] 78)).alloc (.cells #[.bool m3, x3, y3] 78)) w.heap.size m1 x1 y1 ∧
    QR (((w.alloc (.cells #[.bool m1, x1, y1] 78)).alloc (.cells #[.bool m2, x2, y2] 78)).alloc (.cells #[.bool m3, x3, y3] 78)) (w.heap.size + 1) m2 x2 y2 ∧
    QR (((w.alloc (.cells #[.bool m1, x1, y1] 78)).alloc (.cells #[.bool m2, x2, y2] 78)).alloc (.cells #[.bool m3, x3, y3] 78)) (w.heap.size + 2) m3 x3 y3 := by
  have h1 := QR.new w m1 x1 y1
  have s1 : (w.alloc (.cells #[.bool m1, x1, y1] 78)).heap.size = w.heap.size + 1 := by simp
  have b1 : Below w.heap.size w (w.alloc (.cells #[.bool m1, x1, y1] 78)) := (Below.refl _ _).alloc (Nat.le_refl _) _
  generalize w.alloc (.cells #[.bool m1, x1, y1] 78) = w1 at *
  have h2 := QR.new w1 m2 x2 y2
  have s2 : (w1.alloc (.cells #[.bool m2, x2, y2] 78)).heap.size = w1.heap.size + 1 := by simp
  have b2 : Below w1.heap.size w1 (w1.alloc (.cells #[.bool m2, x2, y2] 78)) := (Below.refl _ _).alloc (Nat.le_refl _) _
  generalize w1.alloc (.cells #[.bool m2, x2, y2] 78) = w2 at *
  have h3 := QR.new w2 m3 x3 y3
  have b3 : Below w2.heap.size w2 (w2.alloc (.cells #[.bool m3, x3, y3] 78)) := (Below.refl _ _).alloc (Nat.le_refl _) _
  generalize w2.alloc (.cells #[.bool m3, x3, y3] 78) = w3 at *
  refine ⟨(b1.trans (b2.mono (by omega))).trans (b3.mono (by omega)), (h1.keep b2).keep b3, ?_, ?_⟩
  · rw [← s1]; exact h2.keep b3
  · rw [show w.heap.size + 2 = w2.heap.size by omega]; exact h3

/-- Two numbers of the reference laid. -/
theorem two_newQ (w : World) (m1 m2 : Bool) (x1 y1 x2 y2 : Value) :
    Below w.heap.size w ((w.alloc (.cells #[.bool m1, x1, y1] 78)).alloc (.cells #[.bool m2, x2, y2] 78)) ∧
    QR ((w.alloc (.cells #[.bool m1, x1, y1] 78)).alloc (.cells #[.bool m2, x2, y2] 78)) w.heap.size m1 x1 y1 ∧
    QR ((w.alloc (.cells #[.bool m1, x1, y1] 78)).alloc (.cells #[.bool m2, x2, y2] 78)) (w.heap.size + 1) m2 x2 y2 := by
  have h1 := QR.new w m1 x1 y1
  have s1 : (w.alloc (.cells #[.bool m1, x1, y1] 78)).heap.size = w.heap.size + 1 := by simp
  have b1 : Below w.heap.size w (w.alloc (.cells #[.bool m1, x1, y1] 78)) := (Below.refl _ _).alloc (Nat.le_refl _) _
  generalize w.alloc (.cells #[.bool m1, x1, y1] 78) = w1 at *
  have h2 := QR.new w1 m2 x2 y2
  have b2 : Below w1.heap.size w1 (w1.alloc (.cells #[.bool m2, x2, y2] 78)) := (Below.refl _ _).alloc (Nat.le_refl _) _
  exact ⟨b1.trans (b2.mono (by omega)), h1.keep b2, by rw [← s1]; exact h2⟩

/-- A number of the reference keeps its value when a part of a struct is written over. -/
theorem INum.setCell {w : World} {v : Value} {n g : Nat} {m : Bool} (h : INum w v n) (hg : w.cell? ⟨g, 0, none⟩ = some (.bool m)) (j : Nat) (x : Value) : INum (w.setCell ⟨g, j, none⟩ x) v n := by
  obtain ⟨a, c, rfl, h | ⟨b, rfl, h1, h2, h3⟩⟩ := h
  · exact ⟨a, c, rfl, .inl h⟩
  · by_cases h0 : 0 < ln n
    · have hne : b ≠ g := by
        intro e
        have := h3 0 h0
        rw [e, hg] at this
        simp at this
      have hh : (w.setCell ⟨g, j, none⟩ x).heap[b]? = w.heap[b]? := heap_setCell_other w ⟨g, j, none⟩ b _ hne
      refine ⟨_, c, rfl, .inr ⟨b, rfl, by simpa using h1, h2, fun i hi => ?_⟩⟩
      have := h3 i hi
      simp only [World.cell?] at this ⊢
      rw [hh]
      exact this
    · refine ⟨_, c, rfl, .inr ⟨b, rfl, by simpa using h1, h2, fun i hi => by omega⟩⟩
theorem INum.st3 {w : World} {v : Value} {n g : Nat} {m : Bool} {x0 y0 : Value} (h : INum w v n) (hq : QR w g m x0 y0) (m' : Bool) (x y : Value) : INum (Go.Proofs.YtadkijaofmcgfaaGreatDoor.st3 w g m' x y) v n := by
  have h1 := h.setCell hq.c0 0 (.bool m')
  have q1 : (w.setCell ⟨g, 0, none⟩ (.bool m')).heap[g]? = some (.cells #[.bool m', x0, y0] 78 (0, 0)) := heap_setCell_same w g 0 _ _ (.bool m') hq
  have h2 := h1.setCell (QR.c0 q1) 1 x
  have q2 : ((w.setCell ⟨g, 0, none⟩ (.bool m')).setCell ⟨g, 1, none⟩ x).heap[g]? = some (.cells #[.bool m', x, y0] 78 (0, 0)) := heap_setCell_same _ g 1 _ _ x q1
  exact h2.setCell (QR.c0 q2) 2 y

/-- The value v is the rational number q, as the reference has it. -/
def QQ (w : World) (v : Value) (q : Rat) : Prop := ∃ x y, v = .agg #[.bool (ng q), x, y] ∧ INum w x (tp q) ∧ INum w y q.den
theorem QQ.below {w w' : World} {v : Value} {q : Rat} (h : QQ w v q) (hb : Below w.heap.size w w') : QQ w' v q := by
  obtain ⟨x, y, rfl, h1, h2⟩ := h
  exact ⟨x, y, rfl, h1.below hb, h2.below hb⟩
theorem QQ.form {w : World} {v : Value} {q : Rat} (h : QQ w v q) : ∃ a1 k1 a2 k2, v = .agg #[.bool (ng q), .slice a1 (ln (tp q)) k1, .slice a2 (ln q.den) k2] := by
  obtain ⟨x, y, rfl, hx, hy⟩ := h
  obtain ⟨a1, k1, rfl⟩ := islice_any hx
  obtain ⟨a2, k2, rfl⟩ := islice_any hy
  exact ⟨a1, k1, a2, k2, rfl⟩
theorem QQ.nums {w : World} {q : Rat} {m : Bool} {x y : Value} (h : QQ w (.agg #[.bool m, x, y]) q) : m = ng q ∧ INum w x (tp q) ∧ INum w y q.den := by
  obtain ⟨x', y', h1, h2, h3⟩ := h
  simp at h1
  obtain ⟨rfl, rfl, rfl⟩ := h1
  exact ⟨rfl, h2, h3⟩

theorem lift_i {f : Nat} {args : Array Value} {w0 W : World} {n : Nat} (h0 : Below w0.heap.size w0 W) (hc : Calls Tryz.prog f args W fun e w' => ∃ v, e = .returned v ∧ INum w' v n ∧ Below W.heap.size W w') :
    Calls Tryz.prog f args W fun e w' => ∃ v, e = .returned v ∧ INum w' v n ∧ Below W.heap.size W w' ∧ Below w0.heap.size w0 w' :=
  hc.mono fun _ _ ⟨v, h1, h2, h3⟩ => ⟨v, h1, h2, h3, h0.trans (h3.mono h0.size)⟩
theorem lift_qq {f : Nat} {args : Array Value} {w0 W : World} {q : Rat} (h0 : Below w0.heap.size w0 W) (hc : Calls Tryz.prog f args W fun e w' => ∃ v, e = .returned v ∧ QQ w' v q ∧ Below W.heap.size W w') :
    Calls Tryz.prog f args W fun e w' => ∃ v, e = .returned v ∧ QQ w' v q ∧ Below W.heap.size W w' ∧ Below w0.heap.size w0 w' :=
  hc.mono fun _ _ ⟨v, h1, h2, h3⟩ => ⟨v, h1, h2, h3, h0.trans (h3.mono h0.size)⟩

theorem QR.resD {w : World} {b : Nat} {m : Bool} {n d : Value} {tmps : Array Value} (h : QR w b m n d) (ht : tmps.getD 6 undef = .pointer (some ⟨b, 0, none⟩)) : (results Tryz.f100 tmps).run Tryz.prog w = .ok (.agg #[.bool m, n, d]) w := by
  have hl := h.load
  have ht' : tmps[6]?.getD undef = .pointer (some ⟨b, 0, none⟩) := by rw [← ht]; simp
  simp [results, ht', asAddr, hl]

theorem mkQ_zero (m : Bool) (d : Nat) : mkQ m 0 d = 0 := by unfold mkQ; cases m <;> simp

set_option maxHeartbeats 3200000 in
set_option maxRecDepth 100000 in
theorem rreduce_q {w : World} {m : Bool} {x y : Value} {n d : Nat} (hx : INum w x n) (hy : INum w y d) (l1 : ln n ≤ 1000000) (l2 : ln d ≤ 1000000) (g1 : d ≠ 0) :
    Calls Tryz.prog 100 #[.bool m, x, y] w fun e w' => ∃ z, e = .returned z ∧ QQ w' z (mkQ m n d) ∧ Below w.heap.size w w' := by
  obtain ⟨a1, k1, rfl⟩ := islice_any hx
  obtain ⟨a2, k2, rfl⟩ := islice_any hy
  have hb0 : Below w.heap.size w (w.alloc (.cells #[.bool false, .slice none 0 0, .slice none 0 0] 78)) := (Below.refl _ _).alloc (Nat.le_refl _) _
  have HQ := Lib.hid (QR.new w false (.slice none 0 0) (.slice none 0 0))
  have HB := Lib.hid hb0
  by_cases hn : n = 0
  · have HN := Lib.hid hn
    have hl : ln n = 0 := by rw [hn, ln_zero]
    rw [hl]
    clear hx hy hb0 l1 l2 g1 hn hl
    go_enter Tryz.func100, Tryz.ntmps100
    go_wp2_with fail
    generalize w.alloc (.cells #[.bool false, .slice none 0 0, .slice none 0 0] 78) = w0 at HQ HB ⊢
    refine (rone_any w0).mono ?_
    rintro e w1 ⟨o, rfl, ho, hb1⟩
    obtain ⟨a3, k3, rfl⟩ := islice_any ho
    replace HQ := Lib.hid (HQ.out.keep hb1)
    replace HB := Lib.hid (HB.out.trans (hb1.mono HB.out.size))
    have i0 := HQ.out.c0
    have i1 := HQ.out.c1
    have i2 := HQ.out.c2
    have j0 := HQ.out.z0
    have j1 := HQ.out.z1
    have j2 := HQ.out.z2
    have ho2 := ho.st3 HQ.out false (.slice none 0 0) (.slice a3 (ln 1) k3)
    have hbf := below_st3 HB.out (Nat.le_refl w.heap.size) false (.slice none 0 0) (.slice a3 (ln 1) k3)
    have HF := Lib.hid (And.intro (HQ.out.st false (.slice none 0 0) (.slice a3 (ln 1) k3)) (And.intro ho2 hbf))
    clear ho hb1 ho2 hbf
    go_wp2_with fail
    refine bodyPost_ret (HF.out.1.resD rfl) rfl ⟨_, rfl, ?_, HF.out.2.2⟩
    rw [HN.out, mkQ_zero]
    exact ⟨.slice none 0 0, _, rfl, INum.nil _, HF.out.2.1⟩
  · have hl : (((ln n : Nat) : Int) == 0) = false := by have := ln_pos hn; rw [beq_eq_false_iff_ne]; omega
    have p1 : Nat.gcd n d ≠ 0 := Nat.ne_of_gt (Nat.gcd_pos_of_pos_right _ (Nat.pos_of_ne_zero g1))
    obtain ⟨r1, r2, r3⟩ := red_parts m n g1
    have hnz : n / Nat.gcd n d ≠ 0 := by
      intro h
      have := Nat.div_mul_cancel (Nat.gcd_dvd_left n d)
      rw [h, Nat.zero_mul] at this
      exact hn this.symm
    rw [decide_eq_false hnz, Bool.not_false, Bool.and_true] at r3
    have HL := Lib.hid (show ln n ≤ 1000000 ∧ ln d ≤ 1000000 ∧ ln (Nat.gcd n d) ≤ 1000000 ∧ Nat.gcd n d ≠ 0 from ⟨l1, l2, gcd_ln l1 l2, p1⟩)
    have HR := Lib.hid (And.intro r1 (And.intro r2 r3))
    have HX := Lib.hid (hx.below hb0)
    have HY := Lib.hid (hy.below hb0)
    clear hx hy hb0 l1 l2 g1 hn hnz r1 r2 r3 p1
    go_enter Tryz.func100, Tryz.ntmps100
    go_wp2_with fail
    generalize w.alloc (.cells #[.bool false, .slice none 0 0, .slice none 0 0] 78) = w0 at HQ HB HX HY ⊢
    refine (icommon_any HX.out HY.out HL.out.1 HL.out.2.1).mono ?_
    rintro e w1 ⟨vg, rfl, hvg, hb1⟩
    obtain ⟨ag, kg, rfl⟩ := islice_any hvg
    replace HX := Lib.hid (HX.out.below hb1)
    replace HY := Lib.hid (HY.out.below hb1)
    replace HQ := Lib.hid (HQ.out.keep hb1)
    replace HB := Lib.hid (HB.out.trans (hb1.mono HB.out.size))
    have HG := Lib.hid hvg
    clear hvg hb1 hl
    go_wp2_with fail
    refine (idivide_any HX.out HG.out HL.out.1 HL.out.2.2.1 HL.out.2.2.2).mono ?_
    rintro e w2 ⟨vp, vr, rfl, hvp, hvr, hb2⟩
    obtain ⟨ap, kp, rfl⟩ := islice_any hvp
    obtain ⟨ar, kr, rfl⟩ := islice_any hvr
    replace HY := Lib.hid (HY.out.below hb2)
    replace HG := Lib.hid (HG.out.below hb2)
    replace HQ := Lib.hid (HQ.out.keep hb2)
    replace HB := Lib.hid (HB.out.trans (hb2.mono HB.out.size))
    have HVP := Lib.hid hvp
    clear hvp hvr hb2 HX
    go_wp2_with fail
    refine (idivide_any HY.out HG.out HL.out.2.1 HL.out.2.2.1 HL.out.2.2.2).mono ?_
    rintro e w3 ⟨vq, vs, rfl, hvq, hvs, hb3⟩
    obtain ⟨aq, kq, rfl⟩ := islice_any hvq
    obtain ⟨as1, ks1, rfl⟩ := islice_any hvs
    replace HVP := Lib.hid (HVP.out.below hb3)
    replace HQ := Lib.hid (HQ.out.keep hb3)
    replace HB := Lib.hid (HB.out.trans (hb3.mono HB.out.size))
    have i0 := HQ.out.c0
    have i1 := HQ.out.c1
    have i2 := HQ.out.c2
    have j0 := HQ.out.z0
    have j1 := HQ.out.z1
    have j2 := HQ.out.z2
    have hn1 := HVP.out.st3 HQ.out m (.slice ap (ln (n / Nat.gcd n d)) kp) (.slice aq (ln (d / Nat.gcd n d)) kq)
    have hn2 := hvq.st3 HQ.out m (.slice ap (ln (n / Nat.gcd n d)) kp) (.slice aq (ln (d / Nat.gcd n d)) kq)
    have hbf := below_st3 HB.out (Nat.le_refl w.heap.size) m (.slice ap (ln (n / Nat.gcd n d)) kp) (.slice aq (ln (d / Nat.gcd n d)) kq)
    have HF := Lib.hid (And.intro (HQ.out.st m (.slice ap (ln (n / Nat.gcd n d)) kp) (.slice aq (ln (d / Nat.gcd n d)) kq)) (And.intro hn1 (And.intro hn2 hbf)))
    clear hvq hvs hb3 hn1 hn2 hbf HY HG
    go_wp2_with fail
    refine bodyPost_ret (HF.out.1.resD rfl) rfl ⟨_, rfl, ?_, HF.out.2.2.2⟩
    unfold QQ
    rw [HR.out.1, HR.out.2.1, HR.out.2.2]
    exact ⟨_, _, rfl, HF.out.2.1, HF.out.2.2.1⟩

theorem QR.resO {w : World} {b : Nat} {m : Bool} {n d : Value} {tmps : Array Value} (h : QR w b m n d) (ht : tmps.getD 2 undef = .pointer (some ⟨b, 0, none⟩)) : (results Tryz.f97 tmps).run Tryz.prog w = .ok (.agg #[.bool m, n, d]) w := by
  have hl := h.load
  have ht' : tmps[2]?.getD undef = .pointer (some ⟨b, 0, none⟩) := by rw [← ht]; simp
  simp [results, ht', asAddr, hl]

theorem QR.resG {w : World} {b : Nat} {m : Bool} {n d : Value} {tmps : Array Value} (h : QR w b m n d) (ht : tmps.getD 2 undef = .pointer (some ⟨b, 0, none⟩)) : (results Tryz.f95 tmps).run Tryz.prog w = .ok (.agg #[.bool m, n, d]) w := by
  have hl := h.load
  have ht' : tmps[2]?.getD undef = .pointer (some ⟨b, 0, none⟩) := by rw [← ht]; simp
  simp [results, ht', asAddr, hl]

set_option maxHeartbeats 3200000 in
set_option maxRecDepth 100000 in
theorem rover_q {w : World} {v : Value} {p : Rat} (hp : QQ w v p) (h0 : p ≠ 0) :
    Calls Tryz.prog 97 #[v] w fun e w' => ∃ z, e = .returned z ∧ QQ w' z p⁻¹ ∧ Below w.heap.size w w' := by
  obtain ⟨a1, k1, a2, k2, rfl⟩ := hp.form
  obtain ⟨_, hx, hy⟩ := hp.nums
  obtain ⟨h1, h2, h3⟩ := inv_parts h0
  have HI := Lib.hid (And.intro h1 (And.intro h2 h3))
  have hw := (two_newQ w (ng p) (ng p) (.slice a1 (ln (tp p)) k1) (.slice a2 (ln p.den) k2) (.slice a2 (ln p.den) k2) (.slice a1 (ln (tp p)) k1))
  have HW := Lib.hid (And.intro hw.1 (And.intro hw.2.2 (And.intro (hx.below hw.1) (hy.below hw.1))))
  clear hp hx hy h0 h1 h2 h3 hw
  go_enter Tryz.func97, Tryz.ntmps97
  go_wp2_with fail
  refine bodyPost_ret (HW.out.2.1.resO rfl) rfl ⟨_, rfl, ?_, HW.out.1⟩
  unfold QQ
  rw [HI.out.1, HI.out.2.1, HI.out.2.2]
  exact ⟨_, _, rfl, HW.out.2.2.2, HW.out.2.2.1⟩

set_option maxHeartbeats 3200000 in
set_option maxRecDepth 100000 in
theorem rneg_q {w : World} {v : Value} {p : Rat} (hp : QQ w v p) :
    Calls Tryz.prog 95 #[v] w fun e w' => ∃ z, e = .returned z ∧ QQ w' z (-p) ∧ Below w.heap.size w w' := by
  obtain ⟨a1, k1, a2, k2, rfl⟩ := hp.form
  obtain ⟨_, hx, hy⟩ := hp.nums
  obtain ⟨h1, h2, h3⟩ := neg_parts p
  cases hm : ng p with
  | true =>
    rw [hm] at h3
    have HI := Lib.hid (And.intro h1 (And.intro h2 (show ng (-p) = false from h3)))
    have hw := (two_newQ w false false (.slice a1 (ln (tp p)) k1) (.slice a2 (ln p.den) k2) (.slice a1 (ln (tp p)) k1) (.slice a2 (ln p.den) k2))
    have HW := Lib.hid (And.intro hw.1 (And.intro hw.2.2 (And.intro (hx.below hw.1) (hy.below hw.1))))
    clear hp hx hy h1 h2 h3 hw hm
    go_enter Tryz.func95, Tryz.ntmps95
    go_wp2_with fail
    refine bodyPost_ret (HW.out.2.1.resG rfl) rfl ⟨_, rfl, ?_, HW.out.1⟩
    unfold QQ
    rw [HI.out.1, HI.out.2.1, HI.out.2.2]
    exact ⟨_, _, rfl, HW.out.2.2.1, HW.out.2.2.2⟩
  | false =>
    rw [hm] at h3
    by_cases hz : tp p = 0
    · have hl : ln (tp p) = 0 := by rw [hz, ln_zero]
      rw [hl] at hx ⊢
      have HI := Lib.hid (And.intro h1 (And.intro h2 (show ng (-p) = false from h3.trans (by rw [decide_eq_true hz]; rfl))))
      have hw := (two_newQ w false false (.slice a1 0 k1) (.slice a2 (ln p.den) k2) (.slice a1 0 k1) (.slice a2 (ln p.den) k2))
      have HW := Lib.hid (And.intro hw.1 (And.intro hw.2.2 (And.intro (hx.below hw.1) (hy.below hw.1))))
      clear hp hx hy h1 h2 h3 hw hm hz hl
      go_enter Tryz.func95, Tryz.ntmps95
      go_wp2_with fail
      refine bodyPost_ret (HW.out.2.1.resG rfl) rfl ⟨_, rfl, ?_, HW.out.1⟩
      unfold QQ
      rw [HI.out.1, HI.out.2.1, HI.out.2.2]
      exact ⟨_, _, rfl, HW.out.2.2.1, HW.out.2.2.2⟩
    · have hl : 0 < ln (tp p) := ln_pos hz
      have HI := Lib.hid (And.intro h1 (And.intro h2 (show ng (-p) = true from h3.trans (by rw [decide_eq_false hz]; rfl))))
      have hw := (two_newQ w true true (.slice a1 (ln (tp p)) k1) (.slice a2 (ln p.den) k2) (.slice a1 (ln (tp p)) k1) (.slice a2 (ln p.den) k2))
      have HW := Lib.hid (And.intro hw.1 (And.intro hw.2.2 (And.intro (hx.below hw.1) (hy.below hw.1))))
      clear hp hx hy h1 h2 h3 hw hm hz
      go_enter Tryz.func95, Tryz.ntmps95
      go_wp2_with fail
      refine bodyPost_ret (HW.out.2.1.resG rfl) rfl ⟨_, rfl, ?_, HW.out.1⟩
      unfold QQ
      rw [HI.out.1, HI.out.2.1, HI.out.2.2]
      exact ⟨_, _, rfl, HW.out.2.2.1, HW.out.2.2.2⟩

end Go.Proofs.YtadkijaofmcgfaaGreatDoor
