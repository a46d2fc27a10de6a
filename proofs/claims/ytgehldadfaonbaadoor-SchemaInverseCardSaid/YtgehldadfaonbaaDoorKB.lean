/-
  Atoi and Itoa; Width, Text and Value of the program, for any column.
-/
import Derived.Test.YtgehldadfaonbaaDoorKA
import Derived.Test.YtgehldadfaonbaaDoorSW
import Derived.Test.YtgehldadfaonbaaDoorAC
import Derived.Test.YtgehldadfaonbaaDoorShelf
import Derived.Lib.AppendIntMem
namespace Go.Proofs.YtgehldadfaonbaaDoor
open Go.RowKit Go.Shelf Go.ChangeMaps Go.Maps

/-- The variables of the library, and the reserved words. -/
structure WL (w : World) : Prop where
  res : Res w
  tab : Lib.TabIs Tryd.prog w "internal/strconv.uint64pow10" .u64 Lib.pow10Tab
  sv : ∃ ev, w.cell? ⟨2, 0, none⟩ = some ev ∧ (ev = .nilIface ∨ ∃ te pe, ev = .iface te pe)
  rv : ∃ ev, w.cell? ⟨3, 0, none⟩ = some ev ∧ (ev = .nilIface ∨ ∃ te pe, ev = .iface te pe)
theorem WL.of {w w' : World} (h : WL w) (hb : Below w.heap.size w w') : WL w' := by
  obtain ⟨e1, h1, h2⟩ := h.sv
  obtain ⟨e2, h3, h4⟩ := h.rv
  exact ⟨h.res.of hb, Lib.tabBelow_of_tabIs h.tab w' hb, ⟨e1, (hb.cell (World.block_lt_of_cell? w _ h1)).trans h1, h2⟩, ⟨e2, (hb.cell (World.block_lt_of_cell? w _ h3)).trans h3, h4⟩⟩

theorem itoa_any (k : Int) (h0 : -9223372036854775808 ≤ k) (h1 : k ≤ 9223372036854775807) {w : World} (h : WL w) : Calls Tryd.prog 59 #[.int .i64 k] w fun e w' => e = .returned (.string (kT k)) ∧ Below w.heap.size w w' :=
  (Tryd.strconv_Itoa k h0 h1 w h.tab).mono fun _ _ ⟨h, k, os, hw⟩ => ⟨h, hw ▸ Lib.below_grow w.heap.size w (Nat.le_refl _) k os⟩
/-- What Atoi returns: a number, or an error. -/
def AtoiP (s : ByteArray) (w : World) (e : Ending) (w' : World) : Prop :=
  (((∃ v : Int, e = .returned (.tuple #[.int .i64 v, .nilIface]) ∧ Lib.atoiAll s.data.toList = .ok v ∧ -9223372036854775808 ≤ v ∧ v ≤ 9223372036854775807) ∨ (∃ (v : Int) (te : TypeId) (N : Nat), e = .returned (.tuple #[.int .i64 v, .iface te (.pointer (some ⟨N, 0, none⟩))]) ∧ ∀ x, Lib.atoiAll s.data.toList ≠ .ok x)) ∧ Below w.heap.size w w')
theorem atoi_any (s : ByteArray) (hs : s.size ≤ 140737488351232) {w : World} (h : WL w) : Calls Tryd.prog 58 #[.string s] w (AtoiP s w) := by
  obtain ⟨e1, h1, h2⟩ := h.sv
  obtain ⟨e2, h3, h4⟩ := h.rv
  have k1 := fun hh => Any.strconv_Atoi_syntax Tryd.laysC172 s (by omega) hh e1 w h1 h2
  have k2 := fun hh => Any.strconv_Atoi_range Tryd.laysC172 s (by omega) hh e2 w h3 h4
  have k3 := fun v hh => Any.strconv_Atoi_ok Tryd.laysC172 s (by omega) v hh w
  cases hh : Lib.atoiAll s.data.toList
  · rename_i v
    refine (k3 v hh).mono ?_
    rintro e w' ⟨h5, h6⟩
    refine ⟨.inl ⟨v, h5, hh, Lib.atoiAll_bounds hh⟩, ?_⟩
    rcases h6 with rfl | ⟨t, rfl⟩
    · exact Below.refl _ _
    · exact Lib.bytesWorld_below _ _ _
  · refine (k1 hh).mono ?_
    rintro e w' ⟨N, h5, _, _, h6⟩
    exact ⟨.inr ⟨_, _, N, h5, fun x hx => by rw [hh] at hx; cases hx⟩, h6⟩
  · refine (k2 hh).mono ?_
    rintro e w' ⟨N, h5, _, _, h6⟩
    exact ⟨.inr ⟨_, _, N, h5, fun x hx => by rw [hh] at hx; cases hx⟩, h6⟩

end Go.Proofs.YtgehldadfaonbaaDoor
