/-
  The reference of rat: functions of one text: the errors, and Neg, Inv, Sign of numbers. The reference of rat: Abs, Sign, Parts of numbers; rat's functions of one text: the errors. The reference of rat: Abs of a number; Neg, Abs, Inv, Sign of both for every text.
-/
import Derived.Test.YtofanopnibbaeaaGreatDoorHE
import Derived.Test.YtofanopnibbaeaaGreatDoorHH
namespace Go.Proofs.YtofanopnibbaeaaGreatDoor
open Go.RowKit NV
open Go.Lib (decDigits)

/-- A number of the reference laid. -/
theorem one_newQ (w : World) (m : Bool) (x y : Value) : Below w.heap.size w (w.alloc (.cells #[.bool m, x, y] 121)) ∧ QR (w.alloc (.cells #[.bool m, x, y] 121)) w.heap.size m x y :=
  ⟨(Below.refl _ _).alloc (Nat.le_refl _) _, QR.new w m x y⟩

open Go.RowKit NV
open Go.Lib (decDigits)

open Go.RowKit NV
open Go.Lib (decDigits)

end Go.Proofs.YtofanopnibbaeaaGreatDoor
