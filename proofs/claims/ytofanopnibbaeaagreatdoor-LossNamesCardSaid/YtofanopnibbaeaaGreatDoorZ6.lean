/-
  Package dist: checkSum, Check, collect, Make.
-/
import Derived.Test.YtofanopnibbaeaaGreatDoorZ5
import Derived.Test.YtofanopnibbaeaaGreatDoorHI
namespace Go.Proofs.YtofanopnibbaeaaGreatDoor
open Go.RowKit NV Go.Maps Go.Sort Go.Shelf
open Go.Lib (decDigits)

/-- Numbers that are right. -/
def OKM (L : List MI) : Prop := ∀ x, x ∈ L → rchk x.2 = 0
theorem OKM.at {L : List MI} (h : OKM L) {k : Nat} {x : MI} (hx : L[k]? = some x) : x.2 = qstr (qZ L k) ∧ QOk (qZ L k) := by
  have h1 := ratS_ok (h x (List.mem_of_getElem? hx))
  unfold qZ
  rw [getZ_of hx]; exact h1

theorem eq_b (x y : ByteArray) : (x.toList == y.toList) = decide (x.data.toList = y.data.toList) := by
  rw [Lib.toList_data, Lib.toList_data]
  by_cases h : x.data.toList = y.data.toList
  · rw [h, decide_eq_true rfl, beq_self_eq_true]
  · rw [decide_eq_false h]; exact beq_false_of_ne h
end Go.Proofs.YtofanopnibbaeaaGreatDoor
