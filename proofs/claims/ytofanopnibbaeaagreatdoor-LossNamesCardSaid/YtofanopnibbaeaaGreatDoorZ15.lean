/-
  Package dist: Moment, Factor, Same.
-/
import Derived.Test.YtofanopnibbaeaaGreatDoorZ12
namespace Go.Proofs.YtofanopnibbaeaaGreatDoor
open Go.RowKit NV Go.Maps Go.Sort Go.Shelf
open Go.Lib (decDigits)

theorem Div_oQ (p q : Rat) (hp : QOk p) (hq : QOk q) (h0 : q ≠ 0) (w : World) (htab : Tab w) (hm : ML w) :
    Calls Tryz.prog 89 #[.string (qstr p), .string (qstr q)] w (PR (oQ (okQ (p * q⁻¹))) w) := by
  have h := Div_q p q hp hq w htab hm h0 q⁻¹ rfl
  unfold RQ at h
  rw [wQ_oQ] at h
  exact h
end Go.Proofs.YtofanopnibbaeaaGreatDoor
