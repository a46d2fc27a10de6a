/-
  Masses in a map, told as a list sorted by keys.
-/
import Derived.Test.YtofanopnibbaeaaGreatDoorZ3
import Derived.Maps.Views
import Derived.Maps.OwnSet
import Derived.Maps.StringElems
import Derived.Sort.KeysCollected
import Derived.Sort.OwnSorted
namespace Go.Proofs.YtofanopnibbaeaaGreatDoor
open Go.RowKit NV Go.Maps Go.Sort
open Go.Lib (decDigits)

/-- A list with a mass in its place. -/
def setZ (k t : ByteArray) : List MI → List MI
  | [] => [(k, t)]
  | y :: r => if k.data.toList < kZ y then (k, t) :: y :: r else if k.data.toList = kZ y then (k, t) :: r else y :: setZ k t r
abbrev SrtZ (S : List MI) : Prop := S.Pairwise (fun a b => kZ a < kZ b)
def encZ (S : List MI) : List (Lit × DataW Unit) := S.map fun x => (.string (kZ x), .lit (.string x.2.data.toList))
def mapZ (S : List MI) : DataW Unit := .map (encZ S)
theorem set_mem {k t : ByteArray} : ∀ {S : List MI} {x : MI}, x ∈ setZ k t S → x = (k, t) ∨ x ∈ S
  | [], x, h => .inl (by simpa [setZ] using h)
  | y :: r, x, h => by
    unfold setZ at h
    split at h
    · rcases List.mem_cons.1 h with h | h
      · exact .inl h
      · exact .inr h
    · split at h
      · rcases List.mem_cons.1 h with h | h
        · exact .inl h
        · exact .inr (List.mem_cons_of_mem _ h)
      · rcases List.mem_cons.1 h with rfl | h
        · exact .inr (List.mem_cons_self ..)
        · rcases set_mem h with h | h
          · exact .inl h
          · exact .inr (List.mem_cons_of_mem _ h)
theorem set_srt {k t : ByteArray} : ∀ {S : List MI}, SrtZ S → SrtZ (setZ k t S)
  | [], _ => List.pairwise_singleton _ _
  | y :: r, h => by
    have h1 := List.pairwise_cons.1 h
    unfold setZ
    by_cases hk : k.data.toList < kZ y
    · rw [if_pos hk]
      refine List.pairwise_cons.2 ⟨fun x hx => ?_, h⟩
      rcases List.mem_cons.1 hx with rfl | hx
      · exact hk
      · exact List.lt_trans hk (h1.1 x hx)
    · rw [if_neg hk]
      by_cases he : k.data.toList = kZ y
      · rw [if_pos he]
        exact List.pairwise_cons.2 ⟨fun x hx => by show k.data.toList < kZ x; rw [he]; exact h1.1 x hx, h1.2⟩
      · rw [if_neg he]
        refine List.pairwise_cons.2 ⟨fun x hx => ?_, set_srt h1.2⟩
        rcases set_mem hx with rfl | hx
        · exact (List.le_iff_lt_or_eq.1 (List.not_lt.1 hk)).resolve_right (fun e => he e.symm)
        · exact h1.1 x hx
theorem set_len (k t : ByteArray) : ∀ S : List MI, (setZ k t S).length ≤ S.length + 1
  | [] => Nat.le_refl _
  | y :: r => by
    unfold setZ
    have := set_len k t r
    split
    · simp
    · split
      · simp
      · simp; exact this

/-- Block b is a map that holds the masses S. -/
def MapZ (w : World) (b n : Nat) (S : List MI) : Prop := w.ownsMap Tryz.prog 9 (plainElem (H := Unit) Tryz.prog 27) b n (mapZ S)
theorem MapZ.lt {w : World} {b n : Nat} {S : List MI} (h : MapZ w b n S) : b < w.heap.size := World.ownsMap.lt h
theorem MapZ.keep {w w' : World} {b n : Nat} {S : List MI} (h : MapZ w b n S) (hb : w'.heap[b]? = w.heap[b]?) : MapZ w' b n S := by
  obtain ⟨es, clock, h1, h2, h3, h4⟩ := h
  exact ⟨es, clock, hb.trans h1, h2, h3, h4⟩
theorem MapZ.below {w w' : World} {b n : Nat} {S : List MI} (h : MapZ w b n S) (hb : Below w.heap.size w w') : MapZ w' b n S := h.keep (hb.block b h.lt)
theorem MapZ.mono {w : World} {b n n' : Nat} {S : List MI} (h : MapZ w b n S) (hn : n ≤ n') : MapZ w b n' S := World.ownsMap.mono h hn
theorem MapZ.made (w : World) : MapZ (w.alloc (.map #[] 0)) w.heap.size 0 [] := World.ownsMap_made _ _ _ _
end Go.Proofs.YtofanopnibbaeaaGreatDoor
