/-
  Package dist: checkNotNegative, fold, checkSum, Check.
-/
import Derived.Test.YtofanopnibbaeaaGreatDoorZ2
import Derived.Test.YtofanopnibbaeaaGreatDoorHF
import Derived.Test.YtofanopnibbaeaaGreatDoorB1
import Derived.BigQuiet
import Derived.Deep.QuietTactic
namespace Go.Proofs.YtofanopnibbaeaaGreatDoor
open Go.RowKit NV
open Go.Lib (decDigits)

theorem Ch.at {S : Nat → Prop} {w w' : World} (h : Ch S w w') {a : Addr} (hl : a.block < w.heap.size) (hb : ¬ S a.block) : w'.cell? a = w.cell? a := by
  unfold World.cell?
  rw [h.block _ hl hb]
end Go.Proofs.YtofanopnibbaeaaGreatDoor
