/-
  Lists of masses that come in.
-/
import Derived.Test.YtjpepjooefkbkaaGreatDoorZC
import Derived.ChangeSlices
import Derived.SliceStrings
import Derived.Carry
import Derived.Deep.SlicePairs
namespace Go.Proofs.YtjpepjooefkbkaaGreatDoor
open Go.ChangeShapes Go.RowKit NV Go.Deep
section
variable {H : Type} {enc : TypeId × Value → H} {P : Program} {w : World} {base : Nat} {spare : Nat → Bool} {held : Bool}
end
theorem cellsMZ : Tryz.prog.cellsOf 41 = 2 := by kernel_rfl
theorem cellsSZ : Tryz.prog.cellsOf 9 = 1 := by kernel_rfl
theorem cellsNZ : Tryz.prog.cellsOf 23 = 1 := by kernel_rfl
theorem cell_ltZ {w : World} {a : Addr} {v : Value} (h : w.cell? a = some v) : a.block < w.heap.size := by
 rcases Nat.lt_or_ge a.block w.heap.size with h' | h'
 ·exact h'
 ·simp [World.cell?, Array.getElem?_eq_none h'] at h
theorem open_masses {H : Type} {enc : TypeId × Value → H} {W : World} {a0 : Option Addr} {len cap : Nat} {d : DataW H} {p : List MemPlace} (h : DataW.Trod enc Tryz.prog W 0 (fun _ => true) true 22 (.slice a0 len cap) d p) :
  ∃ L : List MI, MR W a0 len L ∧ len ≤ 9223372036854775807 ∧ (∀ x, x ∈ L → x.1.size ≤ 9223372036854775807 ∧ x.2.size ≤ 9223372036854775807) := by
 obtain ⟨fuel, hf⟩ := h
 have hfd := fields_massZ
 have hst := struct_massZ
 obtain ⟨F, hF⟩ : ∃ F, F = Tryz.prog.fieldsOf 41 := ⟨_, rfl⟩
 rw [← hF] at hfd hst
 unfold fieldsMZ at hfd
 obtain ⟨f0, f1, hl⟩ := list_twoZ (show F.toList.length = 2 by have := congrArg List.length hfd; simpa using this)
 have hF2 : F = #[f0, f1] := Array.toList_inj.1 hl
 rw [hl] at hfd
 simp only [List.map_cons, List.map_nil, List.cons.injEq, Prod.mk.injEq, and_true] at hfd
 obtain ⟨⟨_, t0, o0⟩, ⟨_, t1, o1⟩⟩ := hfd
 rw [hF2] at hst
 rcases open_slice_pairs Tryz.underlying22 hst cellsMZ o0 o1 (by rw [t0]; exact cellsSZ) (by rw [t1]; exact cellsNZ) hf with ⟨hcs, _⟩ | ⟨a, len', cap', m, n, V0, V1, E0, E1, P0, P1, hcs, _, hl', hm, hmm, _, hi⟩
 ·simp [Value.cells] at hcs
  obtain ⟨rfl, rfl, rfl⟩ := hcs
  exact ⟨[], ⟨rfl, .inl rfl⟩, by omega, fun x hx => by simp at hx⟩
 ·simp [Value.cells] at hcs
  obtain ⟨rfl, rfl, rfl⟩ := hcs
  simp only [if_true] at hmm
  have each : ∀ i, i < len → ∃ q : MI, W.cell? (a.add (i * 2)) = some (.string q.1) ∧ W.cell? ⟨(a.add (i * 2)).block, (a.add (i * 2)).off + 1, none⟩ = some (.string q.2) ∧ q.1.size ≤ maxLen ∧ q.2.size ≤ maxLen := by
   intro i hil
   obtain ⟨h1, h2, h3, h4⟩ := hi i (by omega)
   rw [t0] at h3
   rw [t1] at h4
   obtain ⟨s, e1, _, w1⟩ := DataW.trod_string Tryz.underlying9 h3
   obtain ⟨u, e2, _, w2⟩ := DataW.trod_string Tryz.underlying23 h4
   rw [show V0 i = .string s by simpa using e1] at h1
   rw [show V1 i = .string u by simpa using e2, ← add_add] at h2
   exact ⟨(s, u), h1, h2, w1, w2⟩
  obtain ⟨q, hq⟩ := choose_lt each
  have hget : ∀ (j : Nat) (x : MI), ((List.range len).map q)[j]? = some x → j < len ∧ x = q j := fun j x hx => by
   rw [List.getElem?_map] at hx
   have hj : j < len := by
    rcases Nat.lt_or_ge j len with h | h
    ·exact h
    ·rw [List.getElem?_eq_none (by rw [List.length_range]; exact h)] at hx; cases hx
   rw [List.getElem?_range hj] at hx
   exact ⟨hj, (Option.some.inj hx).symm⟩
  refine ⟨(List.range len).map q, ⟨by rw [List.length_map, List.length_range], ?_⟩, Nat.le_trans hl' (by unfold maxLen at hm; omega), fun x hx => ?_⟩
  ·by_cases h0 : len = 0
   ·exact .inl h0
   ·have hc0 := cell_ltZ (hq 0 (by omega)).1
    rw [addZ_block] at hc0
    refine .inr ⟨a, rfl, hc0, fun j x hx => ?_⟩
    obtain ⟨hj, rfl⟩ := hget j x hx
    exact ⟨(hq j hj).1, (hq j hj).2.1⟩
  ·obtain ⟨j, hj, rfl⟩ := List.mem_iff_getElem.1 hx
   obtain ⟨h1, h2⟩ := hget j _ (List.getElem?_eq_getElem hj)
   rw [h2]
   have := (hq j h1).2.2
   unfold maxLen at this
   exact this
end Go.Proofs.YtjpepjooefkbkaaGreatDoor
