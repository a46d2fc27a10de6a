/-
  exact.Fraction's Inverse, Magnitude, Power; Reduced.
-/
import Derived.Test.YtofanopnibbaeaaGreatDoorHA
import Derived.Test.YtofanopnibbaeaaGreatDoorGJ
namespace Go.Proofs.YtofanopnibbaeaaGreatDoor
open Go.RowKit NV
open Go.Lib (decDigits)

/-- Two fractions laid. -/
theorem two_frac (w : World) (m1 m2 : Bool) (x1 y1 x2 y2 : Value) :
    Below w.heap.size w ((w.alloc (.cells #[.bool m1, x1, y1] 156)).alloc (.cells #[.bool m2, x2, y2] 156)) ∧
    FR ((w.alloc (.cells #[.bool m1, x1, y1] 156)).alloc (.cells #[.bool m2, x2, y2] 156)) w.heap.size m1 x1 y1 ∧
    FR ((w.alloc (.cells #[.bool m1, x1, y1] 156)).alloc (.cells #[.bool m2, x2, y2] 156)) (w.heap.size + 1) m2 x2 y2 := by
  have h1 := FR.new w m1 x1 y1
  have s1 : (w.alloc (.cells #[.bool m1, x1, y1] 156)).heap.size = w.heap.size + 1 := by simp
  have b1 : Below w.heap.size w (w.alloc (.cells #[.bool m1, x1, y1] 156)) := (Below.refl _ _).alloc (Nat.le_refl _) _
  generalize w.alloc (.cells #[.bool m1, x1, y1] 156) = w1 at *
  have h2 := FR.new w1 m2 x2 y2
  have b2 : Below w1.heap.size w1 (w1.alloc (.cells #[.bool m2, x2, y2] 156)) := (Below.refl _ _).alloc (Nat.le_refl _) _
  exact ⟨b1.trans (b2.mono (by omega)), h1.keep b2, by rw [← s1]; exact h2⟩

theorem FR.resultI {w : World} {b : Nat} {m : Bool} {n d : Value} {tmps : Array Value} (h : FR w b m n d) (ht : tmps.getD 2 undef = .pointer (some ⟨b, 0, none⟩)) : (results Tryz.f165 tmps).run Tryz.prog w = .ok (.agg #[.bool m, n, d]) w := by
  have hl := h.load
  have ht' : tmps[2]?.getD undef = .pointer (some ⟨b, 0, none⟩) := by rw [← ht]; simp
  simp [results, ht', asAddr, hl]

set_option maxHeartbeats 3200000 in
set_option maxRecDepth 100000 in
/-- Inverse exchanges numerator and denominator. -/
theorem inverse_any {w : World} {m : Bool} {x y : Value} {n d : Nat} (hx : Num w x n) (hy : Num w y d) :
    Calls Tryz.prog 165 #[.agg #[.bool m, x, y]] w fun e w' => e = .returned (.agg #[.bool m, y, x]) ∧ Below w.heap.size w w' := by
  obtain ⟨a1, k1, rfl⟩ := slice_any hx
  obtain ⟨a2, k2, rfl⟩ := slice_any hy
  clear hx hy
  go_enter Tryz.func165, Tryz.ntmps165
  go_wp2_with fail
  exact bodyPost_ret ((two_frac w m m (.slice a2 (ln d) k2) (.slice a1 (ln n) k1) (.slice a2 (ln d) k2) (.slice a1 (ln n) k1)).2.2.resultI rfl) rfl ⟨rfl, (two_frac w m m (.slice a2 (ln d) k2) (.slice a1 (ln n) k1) (.slice a2 (ln d) k2) (.slice a1 (ln n) k1)).1⟩

end Go.Proofs.YtofanopnibbaeaaGreatDoor
