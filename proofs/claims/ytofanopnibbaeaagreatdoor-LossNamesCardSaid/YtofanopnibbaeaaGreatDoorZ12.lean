/-
  Package dist: byKey, excess, Delta, Distance.
-/
import Derived.Test.YtofanopnibbaeaaGreatDoorZ10
namespace Go.Proofs.YtofanopnibbaeaaGreatDoor
open Go.RowKit NV Go.Maps Go.Sort Go.Shelf
open Go.Lib (decDigits)

theorem Mul_oQ (p q : Rat) (hp : QOk p) (hq : QOk q) (w : World) (htab : Tab w) (hm : ML w) :
    Calls Tryz.prog 92 #[.string (qstr p), .string (qstr q)] w (PR (oQ (okQ (p * q))) w) := by
  have h := Mul_q p q hp hq w htab hm
  unfold RQ at h
  rw [wQ_oQ] at h
  exact h
theorem Sub_oQ (p q : Rat) (hp : QOk p) (hq : QOk q) (w : World) (htab : Tab w) (hm : ML w) :
    Calls Tryz.prog 93 #[.string (qstr p), .string (qstr q)] w (PR (oQ (okQ (p + -q))) w) := by
  have h := Sub_q p q hp hq w htab hm
  unfold RQ at h
  rw [wQ_oQ] at h
  exact h
end Go.Proofs.YtofanopnibbaeaaGreatDoor
