/-
  Marks: a map whose keys are two texts; marks.in and its closure.
-/
import Derived.Test.YtgehldadfaonbaaDoorSG
import Derived.DeepKeys4
import Derived.Maps.OwnSet
import Derived.Laws.EntriesVeiled
import Derived.Carry
namespace Go.Proofs.YtgehldadfaonbaaDoor
open Go.RowKit Go.Shelf Go.ChangeMaps Go.Maps

theorem laidOut : laidOutB Tryd.prog = true := by kernel_rfl
theorem rowMk : (91 : TypeId) < Tryd.prog.types.size := of_decide_eq_true (by kernel_rfl)
theorem wideMk : (match Tryd.prog.underlying 91 with | some (.array _ _) | some (.struct _) => true | _ => false) = true := by kernel_rfl
theorem keyMk3 : Tryd.prog.keyTypeAt 3 91 = true := by kernel_rfl
set_option maxRecDepth 100000 in
theorem lawMk : WideMaps.KeyLaw Tryd.prog 91 := deep_law_laid laidOut (m := 3) (by omega) rowMk keyMk3 wideMk
theorem keyedMk : Keyed Tryd.prog 91 := Keyed.of_law lawMk
theorem keyTMk : Tryd.prog.keyType 91 = true := by kernel_rfl
theorem cellsMk : Tryd.prog.cellsOf 91 = 2 := by kernel_rfl
theorem cellsStr : Tryd.prog.cellsOf 9 = 1 := by kernel_rfl
/-- What a mark reads as. -/
def kx (c x : ByteArray) : Lit := .string (keyBytes [.string c.data.toList, .string x.data.toList])
set_option maxRecDepth 100000 in
theorem key_mk {c x : ByteArray} (hc : c.size ≤ maxLen) (hx : x.size ≤ maxLen) : keyOf Tryd.prog 91 (.agg #[.string c, .string x]) = some (kx c x) := by
  have hu := Tryd.underlying91
  have hf : (Value.agg #[.string c, .string x]).formed Tryd.prog 91 = true := by simp [Value.formed, hu, cellsMk]
  obtain ⟨m, hm⟩ : ∃ m, Tryd.prog.types.size = m + 1 := ⟨_, (Nat.succ_pred_eq_of_pos (Nat.lt_of_le_of_lt (Nat.zero_le _) (show 91 < Tryd.prog.types.size from rowMk))).symm⟩
  unfold keyOf
  rw [hm]
  simp [hu, keyTMk, hf, Program.keyLits, Value.cells, cellsMk, cellsStr, Tryd.underlying9, hc, hx, kx]
theorem kx_ne {c x c' x' : ByteArray} (hc : c.size ≤ maxLen) (hx : x.size ≤ maxLen) (hc' : c'.size ≤ maxLen) (hx' : x'.size ≤ maxLen) (h : ¬ (c = c' ∧ x = x')) : kx c x ≠ kx c' x' := by
  intro e
  have h1 := key_mk hc hx
  have h2 := key_mk hc' hx'
  rw [e] at h1
  have := lawMk.inj h1 h2
  simp at this
  exact h this

/-- Block mb is a map of at most n marks, those of S. -/
def Marks (w : World) (mb n : Nat) (S : ByteArray → ByteArray → Bool) : Prop :=
  ∃ D : DataW Unit, w.ownsMap Tryd.prog 91 (plainElem Tryd.prog 4) mb n D ∧ ∀ c x : ByteArray, c.size ≤ maxLen → x.size ≤ maxLen → D.atKey (kx c x) (.lit (.bool false)) = .lit (.bool (S c x))
theorem Marks.lt {w : World} {mb n : Nat} {S : ByteArray → ByteArray → Bool} (h : Marks w mb n S) : mb < w.heap.size := by obtain ⟨D, h, _⟩ := h; exact h.lt
theorem Marks.ch {T : Nat → Prop} {w w' : World} {mb n : Nat} {S : ByteArray → ByteArray → Bool} (h : Marks w mb n S) (hc : Ch T w w') (ht : ¬ T mb) : Marks w' mb n S := by
  have hl := h.lt
  obtain ⟨D, ⟨es, clock, hb, r⟩, h2⟩ := h
  exact ⟨D, ⟨es, clock, (hc.block mb hl ht).trans hb, r⟩, h2⟩
theorem Marks.mono {w : World} {mb n n' : Nat} {S : ByteArray → ByteArray → Bool} (h : Marks w mb n S) (hn : n ≤ n') : Marks w mb n' S := by
  obtain ⟨D, h, h2⟩ := h
  exact ⟨D, h.mono hn, h2⟩
theorem Marks.congr {w : World} {mb n : Nat} {S T : ByteArray → ByteArray → Bool} (h : Marks w mb n S) (he : ∀ c x, S c x = T c x) : Marks w mb n T := by
  obtain ⟨D, h, h2⟩ := h
  exact ⟨D, h, fun c x hc hx => by rw [← he]; exact h2 c x hc hx⟩
theorem Marks.made (w : World) : Marks (w.alloc (.map #[] 0)) w.heap.size 0 (fun _ _ => false) := ⟨_, World.ownsMap_made _ _ _ _, fun _ _ _ _ => rfl⟩
/-- One mark more. -/
def putS (S : ByteArray → ByteArray → Bool) (c x : ByteArray) : ByteArray → ByteArray → Bool := fun c' x' => S c' x' || (decide (c' = c) && decide (x' = x))
theorem Ch.grownBy {S : Nat → Prop} {w w' : World} {row : Option Nat} (hg : w.grownBy w' row) (hr : ∀ r, row = some r → S r) : Ch S w w' :=
  ⟨hg.os, hg.tape, hg.output, hg.size, fun j hj hs => hg.block j hj (fun e => hs (hr j e.symm))⟩
set_option maxRecDepth 100000 in
theorem plain_boolB {v : Value} {d : DataW Unit} {ps : List MemPlace} {b : Bool} (h : plainElem (H := Unit) Tryd.prog 4 v = some (d, ps)) (hd : d = .lit (.bool b)) : v = .bool b := by
  unfold plainElem at h
  rw [Tryd.underlying4] at h
  cases v <;> simp at h
  obtain ⟨h1, h2⟩ := h
  rw [hd] at h1
  injection h1 with h1
  injection h1 with h1
  rw [h1]
theorem zeroB (w : World) : (zeroValue 4).run Tryd.prog w = .ok (.bool false) w := by kernel_rfl
set_option maxRecDepth 100000 in
theorem Marks.look {w : World} {mb n : Nat} {S : ByteArray → ByteArray → Bool} (h : Marks w mb n S) {c x : ByteArray} (hc : c.size ≤ maxLen) (hx : x.size ≤ maxLen) :
    (Instr.lookup 61 (.map (some mb)) (.agg #[.string c, .string x]) false).run Tryd.prog w = .ok (.bool (S c x)) w := by
  obtain ⟨D, h, h2⟩ := h
  obtain ⟨v, ps, hrun, hv⟩ := h.lookup keyedMk Tryd.underlying61 (zeroB w) (plainElem_bool Tryd.underlying4 false) (key_mk hc hx)
  rw [hrun, plain_boolB hv (h2 c x hc hx)]
set_option maxRecDepth 100000 in
theorem Marks.put {w : World} {mb n : Nat} {S : ByteArray → ByteArray → Bool} (h : Marks w mb n S) {c x : ByteArray} (hc : c.size ≤ maxLen) (hx : x.size ≤ maxLen) (hn : n < maxLen) :
    ∃ w', (Instr.mapUpdate 61 (.map (some mb)) (.agg #[.string c, .string x]) (.bool true)).run Tryd.prog w = .ok () w' ∧ Marks w' mb (n + 1) (putS S c x) ∧ Ch (fun j => j = mb) w w' := by
  obtain ⟨D, h, h2⟩ := h
  obtain ⟨w', hrun, h3, hg⟩ := h.update keyedMk Tryd.underlying61 hn (key_mk hc hx) (plainElem_bool Tryd.underlying4 true)
  refine ⟨w', hrun, ⟨_, h3, fun c' x' hc' hx' => ?_⟩, Ch.grownBy hg (fun r e => by injection e with e; exact e.symm)⟩
  unfold putS
  by_cases e : c' = c ∧ x' = x
  · obtain ⟨rfl, rfl⟩ := e
    rw [atKey_put_same h.isMap (keyedMk.key (key_mk hc hx))]
    simp
  · rw [atKey_put_other (kx_ne hc' hx' hc hx e), h2 c' x' hc' hx']
    have : (decide (c' = c) && decide (x' = x)) = false := by
      rw [Bool.and_eq_false_iff, decide_eq_false_iff_not, decide_eq_false_iff_not]
      by_cases h1 : c' = c
      · exact .inr (fun h2 => e ⟨h1, h2⟩)
      · exact .inl h1
    rw [this, Bool.or_false]

end Go.Proofs.YtgehldadfaonbaaDoor
