/-
  Package dist: Moment, Factor; Same.
-/
import Derived.Test.YtofanopnibbaeaaGreatDoorZ15
namespace Go.Proofs.YtofanopnibbaeaaGreatDoor
open Go.RowKit NV Go.Maps Go.Sort Go.Shelf
open Go.Lib (decDigits)

theorem part_numZ (cs : Array Value) (off : Nat) (v : Value) (h : cs[off]? = some v) (W : World) : (part 27 cs off).run Tryz.prog W = .ok v W := by
  simp [part, isAgg, run_underlying Tryz.underlying27, h]
theorem list_twoZ {α : Type} {l : List α} (h : l.length = 2) : ∃ a b, l = [a, b] := by
  match l, h with
  | [a, b], _ => exact ⟨a, b, rfl⟩
def eqMZ (x y : MI) : Bool := (x.1.toList == y.1.toList) && (x.2.toList == y.2.toList)
theorem eqMZ_iff {x y : MI} : eqMZ x y = true ↔ x = y := by
  unfold eqMZ
  rw [Bool.and_eq_true, eq_b, eq_b, decide_eq_true_iff, decide_eq_true_iff]
  constructor
  · rintro ⟨h1, h2⟩
    exact Prod.ext (ba_extZ h1) (ba_extZ h2)
  · rintro rfl
    exact ⟨rfl, rfl⟩

end Go.Proofs.YtofanopnibbaeaaGreatDoor
