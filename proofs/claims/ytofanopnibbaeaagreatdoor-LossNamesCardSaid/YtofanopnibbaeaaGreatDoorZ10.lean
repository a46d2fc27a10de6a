/-
  Package dist: collect, Make; the reference's Make.
-/
import Derived.Test.YtofanopnibbaeaaGreatDoorZ8
namespace Go.Proofs.YtofanopnibbaeaaGreatDoor
open Go.RowKit NV Go.Maps Go.Sort Go.Shelf
open Go.Lib (decDigits)

/-- Keys in ascending order, numbers that are right and greater than 0. -/
structure GoodQ (D : List QI) : Prop where
  srt : SrtQ D
  ok : ∀ x, x ∈ D → QOk x.2
  pos : ∀ x, x ∈ D → 0 < x.2
end Go.Proofs.YtofanopnibbaeaaGreatDoor
