/-
  rat's functions of two texts: the errors. The reference of rat: Make. rat's functions of two texts and the reference's return the same. light, same; RatPairs returns true.
-/
import Derived.Test.YtgkojegljeofeaaGreatDoorHD
import Derived.Test.YtgkojegljeofeaaGreatDoorHH
import Derived.Test.YtgkojegljeofeaaGreatDoorHR
import Derived.Test.YtgkojegljeofeaaGreatDoorHL
namespace Go.Proofs.YtgkojegljeofeaaGreatDoor
open Go.RowKit NV
open Go.Lib (decDigits)

open Go.RowKit NV
open Go.Lib (decDigits)

open Go.RowKit NV
open Go.Lib (decDigits)

/-- A text and an error. -/
def PR (T : ByteArray × Nat) (w : World) (e : Ending) (w' : World) : Prop := e = .returned (.tuple #[.string T.1, .int .i64 ((T.2 : Nat) : Int)]) ∧ Below w.heap.size w w'

open Go.RowKit NV
open Go.Lib (decDigits)

end Go.Proofs.YtgkojegljeofeaaGreatDoor
