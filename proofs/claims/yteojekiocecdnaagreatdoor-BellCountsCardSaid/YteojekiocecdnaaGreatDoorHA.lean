/-
  exact.Fraction's Times. exact.Fraction's Plus. exact.Fraction's Plus: the signs differ. exact.Fraction's Plus: the signs differ.
-/
import Derived.Test.YteojekiocecdnaaGreatDoorGI
import Derived.Test.YteojekiocecdnaaGreatDoorGD
import Derived.Deep.RegionHeld3
import Derived.Deep.Cut
import Derived.Deep.CutRange
namespace Go.Proofs.YteojekiocecdnaaGreatDoor
open Go.RowKit NV

theorem FR.lt {w : World} {b : Nat} {m : Bool} {n d : Value} (h : FR w b m n d) : b < w.heap.size := (Array.getElem?_eq_some_iff.1 h).1
theorem FR.keep {w w' : World} {b : Nat} {m : Bool} {n d : Value} (h : FR w b m n d) (hb : Below w.heap.size w w') : FR w' b m n d := (hb.block _ h.lt).trans h
theorem FR.c0 {w : World} {b : Nat} {m : Bool} {n d : Value} (h : FR w b m n d) : w.cell? ⟨b, 0, none⟩ = some (.bool m) := by rw [Lib.cell_of_heap h]; rfl
theorem FR.c1 {w : World} {b : Nat} {m : Bool} {n d : Value} (h : FR w b m n d) : w.cell? ⟨b, 1, none⟩ = some n := by rw [Lib.cell_of_heap h]; rfl
theorem FR.c2 {w : World} {b : Nat} {m : Bool} {n d : Value} (h : FR w b m n d) : w.cell? ⟨b, 2, none⟩ = some d := by rw [Lib.cell_of_heap h]; rfl
theorem FR.z0 {w : World} {b : Nat} {m : Bool} {n d : Value} (h : FR w b m n d) : w.frozen? ⟨b, 0, none⟩ = false := Lib.frozen_of_heap h 0
theorem FR.z1 {w : World} {b : Nat} {m : Bool} {n d : Value} (h : FR w b m n d) : w.frozen? ⟨b, 1, none⟩ = false := Lib.frozen_of_heap h 1
theorem FR.z2 {w : World} {b : Nat} {m : Bool} {n d : Value} (h : FR w b m n d) : w.frozen? ⟨b, 2, none⟩ = false := Lib.frozen_of_heap h 2
theorem FR.new (w : World) (m : Bool) (n d : Value) : FR (w.alloc (.cells #[.bool m, n, d] 192)) w.heap.size m n d := heap_alloc_new w _

theorem FR.stOther {w : World} {b g : Nat} {m : Bool} {n d : Value} (h : FR w b m n d) (hg : b ≠ g) (m' : Bool) (n' d' : Value) : FR (st3 w g m' n' d') b m n d :=
  (heap_setCell_other _ ⟨g, 2, none⟩ b _ hg).trans ((heap_setCell_other _ ⟨g, 1, none⟩ b _ hg).trans ((heap_setCell_other w ⟨g, 0, none⟩ b _ hg).trans h))

/-- Three fractions laid. -/
theorem three_new (w : World) (m1 m2 m3 : Bool) (x1 y1 x2 y2 x3 y3 : Value) :
    Below w.heap.size w (((w.alloc (.cells #[.bool m1, x1, y1] 192)).alloc (.cells #[.bool m2, x2, y2] 192)).alloc (.cells #[.bool m3, x3, y3] 192)) ∧
    FR (((w.alloc (.cells #[.bool m1, x1, y1] 192)).alloc (.cells #[.bool m2, x2, y2] 192)).alloc (.cells #[.bool m3, x3, y3] 192)) w.heap.size m1 x1 y1 ∧
    FR (((w.alloc (.cells #[.bool m1, x1, y1] 192)).alloc (.cells #[.bool m2, x2, y2] 192)).alloc (.cells #[.bool m3, x3, y3] 192)) (w.heap.size + 1) m2 x2 y2 ∧
    FR (((w.alloc (.cells #[.bool m1, x1, y1] 192)).alloc (.cells #[.bool m2, x2, y2] 192)).alloc (.cells #[.bool m3, x3, y3] 192)) (w.heap.size + 2) m3 x3 y3 := by
  have h1 := FR.new w m1 x1 y1
  have s1 : (w.alloc (.cells #[.bool m1, x1, y1] 192)).heap.size = w.heap.size + 1 := by simp
  have b1 : Below w.heap.size w (w.alloc (.cells #[.bool m1, x1, y1] 192)) := (Below.refl _ _).alloc (Nat.le_refl _) _
  generalize w.alloc (.cells #[.bool m1, x1, y1] 192) = w1 at *
  have h2 := FR.new w1 m2 x2 y2
  have s2 : (w1.alloc (.cells #[.bool m2, x2, y2] 192)).heap.size = w1.heap.size + 1 := by simp
  have b2 : Below w1.heap.size w1 (w1.alloc (.cells #[.bool m2, x2, y2] 192)) := (Below.refl _ _).alloc (Nat.le_refl _) _
  generalize w1.alloc (.cells #[.bool m2, x2, y2] 192) = w2 at *
  have h3 := FR.new w2 m3 x3 y3
  have b3 : Below w2.heap.size w2 (w2.alloc (.cells #[.bool m3, x3, y3] 192)) := (Below.refl _ _).alloc (Nat.le_refl _) _
  generalize w2.alloc (.cells #[.bool m3, x3, y3] 192) = w3 at *
  refine ⟨(b1.trans (b2.mono (by omega))).trans (b3.mono (by omega)), (h1.keep b2).keep b3, ?_, ?_⟩
  · rw [← s1]; exact h2.keep b3
  · rw [show w.heap.size + 2 = w2.heap.size by omega]; exact h3

theorem ln_div {a b N : Nat} (h : ln a ≤ N) : ln (a / b) ≤ N := Nat.le_trans (ln_le (Nat.lt_of_le_of_lt (Nat.div_le_self a b) (lt_pow_ln a))) h
theorem ln_mul {a b M N : Nat} (ha : ln a ≤ M) (hb : ln b ≤ N) : ln (a * b) ≤ M + N := Nat.le_trans (ln_le (mul_lt_pow (lt_pow_ln a) (lt_pow_ln b))) (by omega)
theorem ln_add {a b N : Nat} (ha : ln a ≤ N) (hb : ln b ≤ N) : ln (a + b) ≤ N + 1 := by
  have h1 : a < B ^ N := Nat.lt_of_lt_of_le (lt_pow_ln a) (Nat.pow_le_pow_right (by rw [B_eq]; omega) ha)
  have h2 : b < B ^ N := Nat.lt_of_lt_of_le (lt_pow_ln b) (Nat.pow_le_pow_right (by rw [B_eq]; omega) hb)
  refine ln_le ?_
  rw [Nat.pow_succ]
  have : 2 ≤ B := by rw [B_eq]; omega
  have h3 := Nat.mul_le_mul_left (B ^ N) this
  omega
theorem ln_sub {a b N : Nat} (ha : ln a ≤ N) : ln (a - b) ≤ N := Nat.le_trans (ln_le (Nat.lt_of_le_of_lt (Nat.sub_le a b) (lt_pow_ln a))) ha

/-- A contract's worlds told from an earlier one. -/
theorem lift_num {f : Nat} {args : Array Value} {w0 W : World} {n : Nat} (h0 : Below w0.heap.size w0 W) (hc : Calls Tryz.prog f args W fun e w' => ∃ v, e = .returned v ∧ Num w' v n ∧ Below W.heap.size W w') :
    Calls Tryz.prog f args W fun e w' => ∃ v, e = .returned v ∧ Num w' v n ∧ Below W.heap.size W w' ∧ Below w0.heap.size w0 w' :=
  hc.mono fun _ _ ⟨v, h1, h2, h3⟩ => ⟨v, h1, h2, h3, h0.trans (h3.mono h0.size)⟩

open Go.RowKit NV

/-- A contract's worlds told from an earlier one. -/
theorem lift_own {f : Nat} {args : Array Value} {w0 W : World} {n : Nat} (h0 : Below w0.heap.size w0 W) (hc : Calls Tryz.prog f args W fun e w' => ∃ v, e = .returned v ∧ Own w' W.heap.size v n ∧ Below W.heap.size W w') :
    Calls Tryz.prog f args W fun e w' => ∃ v, e = .returned v ∧ Num w' v n ∧ Below W.heap.size W w' ∧ Below w0.heap.size w0 w' :=
  hc.mono fun _ _ ⟨v, h1, h2, h3⟩ => ⟨v, h1, h2.num, h3, h0.trans (h3.mono h0.size)⟩

theorem FR.set1 {w : World} {b : Nat} {m : Bool} {n d : Value} (h : FR w b m n d) (x : Value) : FR (w.setCell ⟨b, 1, none⟩ x) b m x d := heap_setCell_same w b 1 _ _ x h
theorem FR.set0 {w : World} {b : Nat} {m : Bool} {n d : Value} (h : FR w b m n d) (m' : Bool) : FR (w.setCell ⟨b, 0, none⟩ (.bool m')) b m' n d := heap_setCell_same w b 0 _ _ (.bool m') h
theorem FR.set2 {w : World} {b : Nat} {m : Bool} {n d : Value} (h : FR w b m n d) (x : Value) : FR (w.setCell ⟨b, 2, none⟩ x) b m n x := heap_setCell_same w b 2 _ _ x h
theorem FR.setOther {w : World} {b : Nat} {m : Bool} {n d : Value} (h : FR w b m n d) {g : Nat} (hg : b ≠ g) (j : Nat) (x : Value) : FR (w.setCell ⟨g, j, none⟩ x) b m n d := (heap_setCell_other w ⟨g, j, none⟩ b _ hg).trans h
/-- A number keeps its value when a part of a fraction is written over. -/
theorem Num.setCell {w : World} {v : Value} {n g : Nat} {m : Bool} (h : Num w v n) (hg : w.cell? ⟨g, 0, none⟩ = some (.bool m)) (j : Nat) (x : Value) : Num (w.setCell ⟨g, j, none⟩ x) v n := by
  obtain ⟨a, c, rfl, h | ⟨b, rfl, h1, h2, h3⟩⟩ := h
  · exact ⟨a, c, rfl, .inl h⟩
  · by_cases h0 : 0 < ln n
    · have hne : b ≠ g := by
        intro e
        have := h3 0 h0
        rw [e, hg] at this
        simp at this
      have hh : (w.setCell ⟨g, j, none⟩ x).heap[b]? = w.heap[b]? := heap_setCell_other w ⟨g, j, none⟩ b _ hne
      refine ⟨_, c, rfl, .inr ⟨b, rfl, by simpa using h1, h2, fun i hi => ?_⟩⟩
      have := h3 i hi
      simp only [World.cell?] at this ⊢
      rw [hh]
      exact this
    · refine ⟨_, c, rfl, .inr ⟨b, rfl, by simpa using h1, h2, fun i hi => by omega⟩⟩

open Go.RowKit NV

open Go.RowKit NV

end Go.Proofs.YteojekiocecdnaaGreatDoor
