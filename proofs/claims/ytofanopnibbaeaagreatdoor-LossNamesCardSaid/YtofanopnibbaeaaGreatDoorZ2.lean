/-
  Lists of masses in memory, and what Check says of them.
-/
import Derived.Test.YtofanopnibbaeaaGreatDoorZ1
import Derived.Sort.Walk0
import Derived.Deep.AppendLies
namespace Go.Proofs.YtofanopnibbaeaaGreatDoor
open Go.RowKit NV
open Go.Lib (decDigits)

abbrev MI := ByteArray × ByteArray
abbrev kZ (x : MI) : List UInt8 := x.1.data.toList
theorem ba_extZ {a b : ByteArray} (h : a.data.toList = b.data.toList) : a = b := ByteArray.ext (Array.toList_inj.1 h)
theorem addZ_block (a : Addr) (j : Nat) : (a.add j).block = a.block := by unfold Addr.add; split <;> rfl

/-- Masses as cells. -/
def cellsZ (l : List MI) : List Value := l.flatMap (fun m => [.string m.1, .string m.2])
theorem cellsZ_get : ∀ (l : List MI) (k : Nat) (m : MI), l[k]? = some m → (cellsZ l)[k * 2]? = some (.string m.1) ∧ (cellsZ l)[k * 2 + 1]? = some (.string m.2)
  | [], k, m, h => by simp at h
  | a :: l, 0, m, h => by
    have e : cellsZ (a :: l) = [.string a.1, .string a.2] ++ cellsZ l := by unfold cellsZ; rw [List.flatMap_cons]
    obtain rfl : a = m := by simpa using h
    rw [e]; exact ⟨rfl, rfl⟩
  | a :: l, k + 1, m, h => by
    have e : cellsZ (a :: l) = [.string a.1, .string a.2] ++ cellsZ l := by unfold cellsZ; rw [List.flatMap_cons]
    have h2 := cellsZ_get l k m (by simpa using h)
    rw [e, Nat.succ_mul]
    exact h2
/-- A list of masses that lies behind an address. -/
def MR (w : World) (ao : Option Addr) (N : Nat) (L : List MI) : Prop :=
  L.length = N ∧ (N = 0 ∨ ∃ a, ao = some a ∧ a.block < w.heap.size ∧ ∀ j x, L[j]? = some x → w.cell? (a.add (j * 2)) = some (.string x.1) ∧ w.cell? ⟨(a.add (j * 2)).block, (a.add (j * 2)).off + 1, none⟩ = some (.string x.2))
theorem MR.len {w : World} {ao : Option Addr} {N : Nat} {L : List MI} (h : MR w ao N L) : L.length = N := h.1
theorem MR.below {w w' : World} {ao : Option Addr} {N : Nat} {L : List MI} (h : MR w ao N L) (hb : Below w.heap.size w w') : MR w' ao N L := by
  refine ⟨h.1, ?_⟩
  rcases h.2 with h2 | ⟨a, h1, h2, h3⟩
  · exact .inl h2
  · exact .inr ⟨a, h1, Nat.lt_of_lt_of_le h2 hb.size, fun j x hx => ⟨(hb.cell (p := a.add (j * 2)) (by rw [addZ_block]; exact h2)).trans (h3 j x hx).1, (hb.cell (p := ⟨(a.add (j * 2)).block, (a.add (j * 2)).off + 1, none⟩) (by show (a.add (j * 2)).block < _; rw [addZ_block]; exact h2)).trans (h3 j x hx).2⟩⟩
theorem MR.form {w : World} {ao : Option Addr} {N : Nat} {L : List MI} (h : MR w ao N L) (h0 : N ≠ 0) : ∃ a, ao = some a ∧ a.block < w.heap.size ∧ ∀ j x, L[j]? = some x → w.cell? (a.add (j * 2)) = some (.string x.1) ∧ w.cell? ⟨(a.add (j * 2)).block, (a.add (j * 2)).off + 1, none⟩ = some (.string x.2) := by
  rcases h.2 with h2 | h2
  · exact absurd h2 h0
  · exact h2
theorem MR.at {w : World} {ao : Option Addr} {N k : Nat} {L : List MI} (h : MR w ao N L) (hk : k < N) : ∃ a x, ao = some a ∧ L[k]? = some x ∧ a.block < w.heap.size ∧ w.cell? (a.add (k * 2)) = some (.string x.1) ∧ w.cell? ⟨(a.add (k * 2)).block, (a.add (k * 2)).off + 1, none⟩ = some (.string x.2) := by
  obtain ⟨a, h1, h2, h3⟩ := h.form (by omega)
  have hx : L[k]? = some (L[k]'(by rw [h.1]; exact hk)) := List.getElem?_eq_getElem _
  exact ⟨a, _, h1, hx, h2, (h3 k _ hx).1, (h3 k _ hx).2⟩
theorem MR.nil {w : World} {ao : Option Addr} : MR w ao 0 [] := ⟨rfl, .inl rfl⟩
theorem MR.own {w : World} {base N : Nat} {v : Value} {L : List MI} (h : w.ownsRow base 29 2 v N (cellsZ L)) (hl : L.length = N) : ∃ ao cap, v = .slice ao N cap ∧ MR w ao N L := by
  rcases h.2 with ⟨hv, h0⟩ | ⟨g, cap, cur, hv, hg, hh, _⟩
  · exact ⟨_, _, by rw [h0]; exact hv, hl, .inl h0⟩
  · refine ⟨_, _, hv, hl, .inr ⟨_, rfl, (Array.getElem?_eq_some_iff.1 hh).1, fun j x hx => ?_⟩⟩
    obtain ⟨h1, h2⟩ := cellsZ_get L j x hx
    subst hv
    have a := h.cells (g := g) rfl (j * 2) _ h1
    have b := h.cells (g := g) rfl (j * 2 + 1) _ h2
    rw [Addr.add_lit, Nat.zero_add] at a b
    refine ⟨by rw [Addr.add_lit, Nat.zero_add]; exact a, ?_⟩
    rw [Addr.add_lit, Nat.zero_add]; exact b
theorem rowM_below {w w' : World} {base n sz : Nat} {v : Value} {xs : List Value} {e : TypeId} (h : w.ownsRow base e sz v n xs) (hb : Below w.heap.size w w') : w'.ownsRow base e sz v n xs :=
  h.kept (row := none) ⟨hb.os, hb.tape, hb.output, hb.size, fun k hk _ => hb.block k hk⟩ (Classical.em _)
theorem rowM_shape {w : World} {base n sz : Nat} {v : Value} {xs : List Value} {e : TypeId} (h : w.ownsRow base e sz v n xs) : ∃ ao c, v = .slice ao n c ∧ (n ≠ 0 → ∃ g, ao = some ⟨g, 0, none⟩ ∧ base ≤ g ∧ g < w.heap.size) := by
  rcases h.2 with ⟨hv, h0⟩ | ⟨g, cap, cur, hv, hg, hh, _⟩
  · exact ⟨_, _, by rw [h0]; exact hv, fun h => absurd h0 h⟩
  · exact ⟨_, _, hv, fun _ => ⟨g, rfl, hg, (Array.getElem?_eq_some_iff.1 hh).1⟩⟩
/-- The number that a text says. -/
def ratS (s : ByteArray) : Rat := mkQ (minusB (numS s)) (dv (restS (numS s)).data.toList) (dv (denS s).data.toList)
theorem ratS_q (q : Rat) : ratS (qstr q) = q := by
  obtain ⟨_, _, h3, _, h5, h6⟩ := qstr_parts q
  unfold ratS
  rw [h3, h5, h6, mkQ_self]
theorem ratS_ok {s : ByteArray} (h : rchk s = 0) : s = qstr (ratS s) ∧ QOk (ratS s) := by
  obtain ⟨q, rfl, ho⟩ := rchk_rat h
  rw [ratS_q]; exact ⟨rfl, ho⟩
def getZ (L : List MI) (k : Nat) : MI := L.getD k (⟨#[]⟩, ⟨#[]⟩)
theorem getZ_of {L : List MI} {k : Nat} {x : MI} (h : L[k]? = some x) : getZ L k = x := by unfold getZ; rw [List.getD_eq_getElem?_getD, h]; rfl
/-- The number of an element. -/
def qZ (L : List MI) (k : Nat) : Rat := ratS (getZ L k).2
end Go.Proofs.YtofanopnibbaeaaGreatDoor
