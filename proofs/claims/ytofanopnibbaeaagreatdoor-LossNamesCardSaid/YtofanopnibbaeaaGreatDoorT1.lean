/-
  The reference of nat: both, Mul and Gcd of texts; light of layer 2 is not here.
-/
import Derived.Test.YtofanopnibbaeaaGreatDoorGF
import Derived.Test.YtofanopnibbaeaaGreatDoorGK
namespace Go.Proofs.YtofanopnibbaeaaGreatDoor
open Go.RowKit NV
open Go.Lib (decDigits)

/-- The first error of two texts. -/
def both (l m : List UInt8) : Nat := if chk l = 0 then chk m else chk l
end Go.Proofs.YtofanopnibbaeaaGreatDoor
