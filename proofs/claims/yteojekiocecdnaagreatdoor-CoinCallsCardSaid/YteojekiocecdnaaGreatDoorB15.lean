/-
  Cut: a list of pieces.
-/
import Derived.Test.YteojekiocecdnaaGreatDoorBB
namespace Go.Proofs.YteojekiocecdnaaGreatDoor
open Go.RowKit NV
open Go.Lib (decDigits)

theorem row_ch {S : Nat → Prop} {w w' : World} {base size n : Nat} {e : TypeId} {v : Value} {xs : List Value} (h : w.ownsRow base e size v n xs) (hc : Ch S w w') (hS : ∀ j, base ≤ j → ¬ S j) : w'.ownsRow base e size v n xs := by
  refine ⟨h.1, ?_⟩
  rcases h.2 with hn | ⟨g, cap, cur, rfl, hb, hgg, rest⟩
  · exact .inl hn
  · exact .inr ⟨g, cap, cur, rfl, hb, (hc.block g (Array.getElem?_eq_some_iff.1 hgg).1 (hS g hb)).trans hgg, rest⟩
theorem slice_of_row {w : World} {base size n : Nat} {e : TypeId} {v : Value} {xs : List Value} (h : w.ownsRow base e size v n xs) : ∃ ao m c, v = .slice ao m c := by
  rcases h.2 with ⟨hv, _⟩ | ⟨g, cap, cur, hv, _⟩
  · exact ⟨_, _, _, hv⟩
  · exact ⟨_, _, _, hv⟩

/-- The first k pieces of a text. -/
def pcs (s : ByteArray) (c k : Nat) : List Value := (List.range k).map (fun j => Value.string (piece s c j))
theorem pcs_len (s : ByteArray) (c k : Nat) : (pcs s c k).length = k := by unfold pcs; simp
theorem pcs_succ (s : ByteArray) (c k : Nat) : pcs s c (k + 1) = pcs s c k ++ [.string (piece s c k)] := by unfold pcs; rw [List.range_succ, List.map_append]; rfl

end Go.Proofs.YteojekiocecdnaaGreatDoor
