/-
  The contracts of Power's closure, and of Power.
-/
import Derived.Test.YtkponlbpgmnpgaaGreatDoorGC
import Derived.Test.YtkponlbpgmnpgaaGreatDoorGD
import Derived.Deep.RegionWith
namespace Go.Proofs.YtkponlbpgmnpgaaGreatDoor
open Go.RowKit NV
open Go.Lib (decDigits)
def Sq (w : World) (b s : Nat) : Prop := ∃ v, w.heap[b]? = some (.cells #[v] 159 (0, 0)) ∧ Num w v s
def Dm (w : World) (b : Nat) : Prop := w.heap[b]? = some (.cells #[.int .i64 4000] 3 (0, 0))
theorem Sq.below {w w' : World} {b s : Nat} (h : Sq w b s) (hb : Below w.heap.size w w') : Sq w' b s := by
 obtain ⟨v, h1, h2⟩ := h
 exact ⟨v, (hb.block b (Array.getElem?_eq_some_iff.1 h1).1).trans h1, h2.below hb⟩
theorem Dm.below {w w' : World} {b : Nat} (h : Dm w b) (hb : Below w.heap.size w w') : Dm w' b := (hb.block b (Array.getElem?_eq_some_iff.1 h).1).trans h
structure Pw (w wr : World) (a n k r s bs bd : Nat) (v : Value) : Prop where
 num : Num wr v r
 sq : Sq wr bs s
 dm : Dm wr bd
 okr : Ok r
 oks : Ok s
 zero : r = 0 → s = 0
 eq : r * s ^ k = a ^ n
 below : Below w.heap.size w wr
end Go.Proofs.YtkponlbpgmnpgaaGreatDoor
