/-
  The reference of nat: both, Mul and Gcd of texts; light of layer 2 is not here.
-/
import Derived.Test.YtjpepjooefkbkaaGreatDoorGF
import Derived.Test.YtjpepjooefkbkaaGreatDoorGK
namespace Go.Proofs.YtjpepjooefkbkaaGreatDoor
open Go.RowKit NV
open Go.Lib (decDigits)
def both (l m : List UInt8) : Nat := if chk l = 0 then chk m else chk l
end Go.Proofs.YtjpepjooefkbkaaGreatDoor
