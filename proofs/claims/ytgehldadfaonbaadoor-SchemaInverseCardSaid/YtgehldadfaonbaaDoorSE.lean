/-
  Texts in memory; the reference's Reserved and Name; the program's Reserved.
-/
import Derived.Test.YtgehldadfaonbaaDoorSD
import Derived.Deep.WholeRow
namespace Go.Proofs.YtgehldadfaonbaaDoor
open Go.RowKit Go.Shelf

theorem addS_block (a : Addr) (j : Nat) : (a.add j).block = a.block := by unfold Addr.add; split <;> rfl
/-- The texts l lie behind an address. -/
def TL (w : World) (ao : Option Addr) (l : List ByteArray) : Prop :=
  l = [] ∨ ∃ a, ao = some a ∧ a.block < w.heap.size ∧ ∀ j, j < l.length → w.cell? (a.add j) = some (.string (l.getD j ByteArray.empty))
theorem TL.nil {w : World} {ao : Option Addr} : TL w ao [] := .inl rfl
theorem TL.below {w w' : World} {ao : Option Addr} {l : List ByteArray} (h : TL w ao l) (hb : Below w.heap.size w w') : TL w' ao l := by
  rcases h with h | ⟨a, h1, h2, h3⟩
  · exact .inl h
  · exact .inr ⟨a, h1, Nat.lt_of_lt_of_le h2 hb.size, fun j hj => (hb.cell (p := a.add j) (by rw [addS_block]; exact h2)).trans (h3 j hj)⟩
theorem TL.at {w : World} {ao : Option Addr} {l : List ByteArray} (h : TL w ao l) {j : Nat} (hj : j < l.length) : ∃ a, ao = some a ∧ a.block < w.heap.size ∧ w.cell? (a.add j) = some (.string (l.getD j ByteArray.empty)) := by
  rcases h with rfl | ⟨a, h1, h2, h3⟩
  · simp at hj
  · exact ⟨a, h1, h2, h3 j hj⟩
/-- .. behind the head of a block. -/
theorem TL.row {w : World} {b : Nat} {t : TypeId} {fr : Nat × Nat} {l : List ByteArray} (h : w.heap[b]? = some (.cells (l.map Value.string).toArray t fr)) : TL w (some ⟨b, 0, none⟩) l := by
  refine .inr ⟨_, rfl, (Array.getElem?_eq_some_iff.1 h).1, fun j hj => ?_⟩
  have e : (⟨b, 0, none⟩ : Addr).add j = ⟨b, j, none⟩ := by unfold Addr.add; split <;> simp_all
  rw [e, cell_of_row w b j _ t fr h]
  simp [hj]

/-- The reserved words as texts. -/
def resT : List ByteArray := resL.map fun l => ⟨l.toArray⟩
theorem resT_len : resT.length = 35 := rfl
theorem resT_val : (resT.map Value.string).toArray = resV := by unfold resT resV; rw [List.map_map]; rfl
theorem resT_get (j : Nat) : resT.getD j ByteArray.empty = resA j := by
  unfold resT resA
  rw [List.getD_eq_getElem?_getD, List.getElem?_map, List.getD_eq_getElem?_getD]
  cases resL[j]? <;> rfl

set_option maxRecDepth 100000 in
theorem refReserved_any (w : World) : Calls Tryd.prog 27 #[] w fun e w' => e = .returned (.slice (some ⟨w.heap.size, 0, none⟩) 35 35) ∧ w.alloc (.cells resV 9) = w' := by
  go_enter Tryd.func27, Tryd.ntmps27
  go_wp2
  go_ret
  exact ⟨rfl, rfl⟩

theorem info_res : (Tryd.prog.info? 72).map (·.size) = some 35 := by kernel_rfl
theorem resV_size : resV.size = 35 := rfl
set_option maxRecDepth 100000 in
set_option maxHeartbeats 1600000 in
theorem reserved_any (w : World) (hR : Res w) : Calls Tryd.prog 26 #[] w fun e w' => e = .returned (.slice (some ⟨w.heap.size, 0, none⟩) 35 35) ∧ w.alloc (.cells resV 72) = w' := by
  obtain ⟨t, fr, hg⟩ := hR
  obtain ⟨cs, hcs⟩ : ∃ cs, cs = resV := ⟨_, rfl⟩
  have hsz : (Tryd.prog.info? 72).map (·.size) = some cs.size := by rw [hcs, resV_size]; exact info_res
  rw [← hcs] at hg
  have hst := run_storeCells_new (P := Tryd.prog) w 72 #[.string ⟨#[]⟩, .string ⟨#[]⟩, .string ⟨#[]⟩, .string ⟨#[]⟩, .string ⟨#[]⟩, .string ⟨#[]⟩, .string ⟨#[]⟩, .string ⟨#[]⟩, .string ⟨#[]⟩, .string ⟨#[]⟩, .string ⟨#[]⟩, .string ⟨#[]⟩, .string ⟨#[]⟩, .string ⟨#[]⟩, .string ⟨#[]⟩, .string ⟨#[]⟩, .string ⟨#[]⟩, .string ⟨#[]⟩, .string ⟨#[]⟩, .string ⟨#[]⟩, .string ⟨#[]⟩, .string ⟨#[]⟩, .string ⟨#[]⟩, .string ⟨#[]⟩, .string ⟨#[]⟩, .string ⟨#[]⟩, .string ⟨#[]⟩, .string ⟨#[]⟩, .string ⟨#[]⟩, .string ⟨#[]⟩, .string ⟨#[]⟩, .string ⟨#[]⟩, .string ⟨#[]⟩, .string ⟨#[]⟩, .string ⟨#[]⟩] cs hsz (by rw [hcs]; rfl) (by rw [hcs]; decide +kernel)
  have HC := Lib.hid hcs
  have HS := Lib.hid hsz
  have HG := Lib.hid hg
  have hz : cs.size = 35 := by rw [hcs]; exact resV_size
  clear hcs hsz hg
  go_enter Tryd.func26, Tryd.ntmps26
  go_wp2_with (refine wpList_load_row rfl 72 _ rfl 0 rfl t _ fr _ HG.out Tryd.underlying72 rfl HS.out ?_)
  go_ret
  exact ⟨rfl, by rw [HC.out]⟩

end Go.Proofs.YtgehldadfaonbaaDoor
