/-
  exact.Fraction's Inverse, Magnitude, Power; Reduced.
-/
import Derived.Test.YtkponlbpgmnpgaaGreatDoorHA
import Derived.Test.YtkponlbpgmnpgaaGreatDoorGJ
namespace Go.Proofs.YtkponlbpgmnpgaaGreatDoor
open Go.RowKit NV
open Go.Lib (decDigits)
theorem two_frac (w : World) (m1 m2 : Bool) (x1 y1 x2 y2 : Value) :
  Below w.heap.size w ((w.alloc (.cells #[.bool m1, x1, y1] 161)).alloc (.cells #[.bool m2, x2, y2] 161)) ∧
  FR ((w.alloc (.cells #[.bool m1, x1, y1] 161)).alloc (.cells #[.bool m2, x2, y2] 161)) w.heap.size m1 x1 y1 ∧
  FR ((w.alloc (.cells #[.bool m1, x1, y1] 161)).alloc (.cells #[.bool m2, x2, y2] 161)) (w.heap.size + 1) m2 x2 y2 := by
 have h1 := FR.new w m1 x1 y1
 have s1 : (w.alloc (.cells #[.bool m1, x1, y1] 161)).heap.size = w.heap.size + 1 := by simp
 have b1 : Below w.heap.size w (w.alloc (.cells #[.bool m1, x1, y1] 161)) := (Below.refl _ _).alloc (Nat.le_refl _) _
 generalize w.alloc (.cells #[.bool m1, x1, y1] 161) = w1 at *
 have h2 := FR.new w1 m2 x2 y2
 have b2 : Below w1.heap.size w1 (w1.alloc (.cells #[.bool m2, x2, y2] 161)) := (Below.refl _ _).alloc (Nat.le_refl _) _
 exact ⟨b1.trans (b2.mono (by omega)), h1.keep b2, by rw [← s1]; exact h2⟩
end Go.Proofs.YtkponlbpgmnpgaaGreatDoor
