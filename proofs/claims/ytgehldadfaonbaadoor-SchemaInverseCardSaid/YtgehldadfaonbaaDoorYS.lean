/-
  Schemas that come in.
-/
import Derived.Test.YtgehldadfaonbaaDoorAA
import Derived.ChangeSlices
import Derived.SliceStrings
import Derived.Carry
import Derived.Deep.Slices
import Derived.Lib.SmallJoins
namespace Go.Proofs.YtgehldadfaonbaaDoor
open Go.ChangeShapes Go.WideShapes Go.RowKit Go.Deep

variable {H : Type} {enc : TypeId × Value → H} {W : World} {base : Nat} {held : Bool}
theorem cellsYC : Tryd.prog.cellsOf 44 = 4 := by kernel_rfl
theorem cellsYS : Tryd.prog.cellsOf 24 = 4 := by kernel_rfl
theorem cellsYk : Tryd.prog.cellsOf 9 = 1 := by kernel_rfl
theorem cellsYi : Tryd.prog.cellsOf 3 = 1 := by kernel_rfl
theorem cellsYb : Tryd.prog.cellsOf 4 = 1 := by kernel_rfl
theorem cellsYw : Tryd.prog.cellsOf 41 = 1 := by kernel_rfl
theorem cellsYl : Tryd.prog.cellsOf 22 = 1 := by kernel_rfl
theorem cell_ltY {w : World} {a : Addr} {v : Value} (h : w.cell? a = some v) : a.block < w.heap.size := by
  rcases Nat.lt_or_ge a.block w.heap.size with h' | h'
  · exact h'
  · simp [World.cell?, Array.getElem?_eq_none h'] at h

/-- What is known of the capacity of a column's words. -/
structure ColCap (c : Col) : Prop where
  le : c.ws.length ≤ c.wc
  most : c.wc ≤ maxLen
  none : c.wa = none → c.wc = 0
structure SchCap (s : Sch) : Prop where
  le : s.cols.length ≤ s.cc
  most : s.cc ≤ maxLen
  none : s.ca = none → s.cc = 0
  cols : ∀ j, j < s.cols.length → ColCap (s.cols.getD j default)

theorem open_words {fuel : Nat} {v : Value} {x : DataW H × List MemPlace} (h : DataW.trod enc Tryd.prog W base (fun _ => true) held fuel 41 [v] = some x) :
    ∃ (wa : Option Addr) (wc : Nat) (ws : List ByteArray), v = .slice wa ws.length wc ∧ TL W wa ws ∧ ws.length ≤ wc ∧ wc ≤ maxLen ∧ (wa = none → wc = 0) ∧ ∀ j, (ws.getD j ByteArray.empty).size ≤ maxLen := by
  rcases open_strings Tryd.underlying41 Tryd.underlying9 cellsYk h with ⟨hcs, hx⟩ | ⟨a, len, cap, ss, hcs, _, hl, hm, hz, hx, hcell, hws⟩
  · simp at hcs
    subst hcs
    exact ⟨none, 0, [], rfl, .inl rfl, Nat.le_refl _, Nat.zero_le _, fun _ => rfl, fun j => Nat.zero_le _⟩
  · simp at hcs
    subst hcs
    simp only [if_true] at hz
    have hlen : (ss.take len).length = len := by rw [List.length_take]; omega
    have hget : ∀ j, j < len → (ss.take len).getD j ByteArray.empty = ss.getD j ByteArray.empty := fun j hj => by
      rw [List.getD_eq_getElem?_getD, List.getD_eq_getElem?_getD, List.getElem?_take_of_lt hj]
    refine ⟨some a, cap, ss.take len, by rw [hlen], ?_, by rw [hlen]; exact hl, hm, (fun h => by cases h), fun j => ?_⟩
    · by_cases h0 : len = 0
      · exact .inl (List.eq_nil_of_length_eq_zero (by rw [hlen]; exact h0))
      · have hb := cell_ltY (hcell 0 (by omega))
        rw [addS_block] at hb
        refine .inr ⟨a, rfl, hb, fun j hj => ?_⟩
        rw [hlen] at hj
        rw [hget j hj]
        exact hcell j (by omega)
    · rw [List.getD_eq_getElem?_getD]
      cases he : (ss.take len)[j]? with
      | none => exact Nat.zero_le _
      | some s => exact hws s (List.mem_of_mem_take (List.mem_of_getElem? he))

set_option maxRecDepth 100000 in
theorem open_colT {fuel : Nat} {cs : List Value} {x : DataW H × List MemPlace} (h : DataW.trod enc Tryd.prog W base (fun _ => true) held fuel 44 cs = some x) :
    ∃ c : Col, cs = c.cells.toList ∧ ColOk W c ∧ ColCap c := by
  obtain ⟨y0, y1, y2, y3, n, _, hl, h0, h1, h2, h3⟩ := Go.Joins.trod_struct4 Tryd.underlying44 h
  rw [cellsYC] at hl
  match cs, hl with
  | [v0, v1, v2, v3], _ =>
  simp only [cellsYk, cellsYi, cellsYw] at h0 h1 h2 h3
  obtain ⟨a, e0, _, w0⟩ := DataW.trod_string Tryd.underlying9 h0
  obtain ⟨i, e1, _, w1⟩ := DataW.trod_int Tryd.underlying3 h1
  obtain ⟨j, e2, _, w2⟩ := DataW.trod_int Tryd.underlying3 h2
  obtain ⟨wa, wc, ws, e3, t1, t2, t3, t4, t5⟩ := open_words (v := v3) h3
  simp at e0 e1 e2
  subst e0 e1 e2 e3
  have r1 : -9223372036854775808 ≤ i ∧ i ≤ 9223372036854775807 := by simpa [Lit.wf, IntKind.min, IntKind.max, IntKind.signed, IntKind.bits] using w1
  have r2 : -9223372036854775808 ≤ j ∧ j ≤ 9223372036854775807 := by simpa [Lit.wf, IntKind.min, IntKind.max, IntKind.signed, IntKind.bits] using w2
  exact ⟨⟨a, i, j, wa, wc, ws⟩, rfl, ⟨t1, by unfold maxLen at t3; show ws.length ≤ _; omega, w0, t5, r1.1, r1.2, r2.1, r2.2⟩, ⟨t2, t3, t4⟩⟩

theorem cells4 {w : World} {b : Nat} {a : Addr} {v0 v1 v2 v3 : Value} (h : w.cells? b a 4 = some [v0, v1, v2, v3]) : w.cell? a = some v0 ∧ w.cell? ⟨a.block, a.off + 1, none⟩ = some v1 ∧ w.cell? ⟨a.block, a.off + 2, none⟩ = some v2 ∧ w.cell? ⟨a.block, a.off + 3, none⟩ = some v3 := by
  obtain ⟨_, _, hc⟩ := World.cells?_some h
  have e0 := hc 0 (by omega)
  have e1 := hc 1 (by omega)
  have e2 := hc 2 (by omega)
  have e3 := hc 3 (by omega)
  refine ⟨?_, show w.cell? (a.add 1) = some v1 by simpa using e1, show w.cell? (a.add 2) = some v2 by simpa using e2, show w.cell? (a.add 3) = some v3 by simpa using e3⟩
  have : a.add 0 = a := rfl
  rw [this] at e0
  simpa using e0

set_option maxRecDepth 100000 in
theorem open_cols {fuel : Nat} {v : Value} {x : DataW H × List MemPlace} (h : DataW.trod enc Tryd.prog W base (fun _ => true) held fuel 22 [v] = some x) :
    ∃ (ca : Option Addr) (cc : Nat) (cols : List Col), v = .slice ca cols.length cc ∧ CL W ca cols ∧ ColsOk W cols ∧ cols.length ≤ cc ∧ cc ≤ maxLen ∧ (ca = none → cc = 0) ∧ ∀ j, j < cols.length → ColCap (cols.getD j default) := by
  rcases open_slice Tryd.underlying22 h with ⟨hcs, hx⟩ | ⟨a, len, cap, m, n, D, Pl, hcs, _, hl, hm, hmm, _, hi⟩
  · simp at hcs
    subst hcs
    exact ⟨none, 0, [], rfl, .inl rfl, fun j hj => absurd hj (Nat.not_lt_zero _), Nat.le_refl _, Nat.zero_le _, fun _ => rfl, fun j hj => absurd hj (Nat.not_lt_zero _)⟩
  · simp at hcs
    subst hcs
    simp only [if_true] at hmm
    have each : ∀ i, i < len → ∃ c : Col, W.cells? base (a.add (i * 4)) 4 = some c.cells.toList ∧ ColOk W c ∧ ColCap c := by
      intro i hil
      obtain ⟨cs', h1, h2⟩ := hi i (by omega)
      rw [cellsYC] at h1
      obtain ⟨c, rfl, h3⟩ := open_colT h2
      exact ⟨c, h1, h3⟩
    obtain ⟨q, hq⟩ := choose_lt each
    have hlen : ((List.range len).map q).length = len := by simp
    have hget : ∀ j, j < len → ((List.range len).map q).getD j default = q j := fun j hj => by
      rw [List.getD_eq_getElem?_getD, List.getElem?_map, List.getElem?_range hj]; rfl
    refine ⟨some a, cap, (List.range len).map q, by rw [hlen], ?_, fun j hj => ?_, by rw [hlen]; exact hl, hm, (fun h => by cases h), fun j hj => ?_⟩
    · by_cases h0 : len = 0
      · exact .inl (List.eq_nil_of_length_eq_zero (by rw [hlen]; exact h0))
      · have hb := cell_ltY (cells4 (hq 0 (by omega)).1).1
        rw [addS_block] at hb
        refine .inr ⟨a, rfl, hb, fun j hj => ?_⟩
        rw [hlen] at hj
        rw [hget j hj]
        exact cells4 (hq j hj).1
    · rw [hlen] at hj
      rw [hget j hj]
      exact (hq j hj).2.1
    · rw [hlen] at hj
      rw [hget j hj]
      exact (hq j hj).2.2

set_option maxRecDepth 100000 in
theorem open_schT {fuel : Nat} {cs : List Value} {x : DataW H × List MemPlace} (h : DataW.trod enc Tryd.prog W base (fun _ => true) held fuel 24 cs = some x) :
    ∃ s : Sch, cs = s.cells.toList ∧ SchOk W s ∧ SchCap s := by
  obtain ⟨y0, y1, y2, y3, n, _, hl, h0, h1, h2, h3⟩ := Go.Joins.trod_struct4 Tryd.underlying24 h
  rw [cellsYS] at hl
  match cs, hl with
  | [v0, v1, v2, v3], _ =>
  simp only [cellsYk, cellsYi, cellsYb, cellsYl] at h0 h1 h2 h3
  obtain ⟨a, e0, _, w0⟩ := DataW.trod_string Tryd.underlying9 h0
  obtain ⟨p, e1, _⟩ := DataW.trod_bool Tryd.underlying4 h1
  obtain ⟨j, e2, _, w2⟩ := DataW.trod_int Tryd.underlying3 h2
  obtain ⟨ca, cc, cols, e3, t1, t2, t3, t4, t5, t6⟩ := open_cols (v := v3) h3
  simp at e0 e1 e2
  subst e0 e1 e2 e3
  exact ⟨⟨a, p, j, ca, cc, cols⟩, rfl, ⟨t1, t2, by unfold maxLen at t4; show cols.length ≤ _; omega, w0⟩, ⟨t3, t4, t5, t6⟩⟩
set_option maxRecDepth 100000 in
/-- A schema that came in. -/
theorem open_sch {r : Reach} {b0 : Nat} {v : Value} {d : DataW H} {ps : List MemPlace} (hval : Value.okWide Tryd.prog W r b0 24 v) (hd : DataW.Trod enc Tryd.prog W base (fun _ => true) held 24 v d ps) :
    ∃ s : Sch, v = .agg s.cells ∧ SchOk W s ∧ SchCap s := by
  obtain ⟨cs, rfl, hsz⟩ := okWide_struct Tryd.underlying24 hval
  obtain ⟨fuel, hf⟩ := hd
  obtain ⟨l⟩ := cs
  obtain ⟨s, e, h1, h2⟩ := open_schT hf
  have e' : l = s.cells.toList := e
  subst e'
  exact ⟨s, rfl, h1, h2⟩
set_option maxRecDepth 100000 in
/-- A column that came in. -/
theorem open_col {r : Reach} {b0 : Nat} {v : Value} {d : DataW H} {ps : List MemPlace} (hval : Value.okWide Tryd.prog W r b0 44 v) (hd : DataW.Trod enc Tryd.prog W base (fun _ => true) held 44 v d ps) :
    ∃ c : Col, v = .agg c.cells ∧ ColOk W c ∧ ColCap c := by
  obtain ⟨cs, rfl, hsz⟩ := okWide_struct Tryd.underlying44 hval
  obtain ⟨fuel, hf⟩ := hd
  obtain ⟨l⟩ := cs
  obtain ⟨s, e, h1, h2⟩ := open_colT hf
  have e' : l = s.cells.toList := e
  subst e'
  exact ⟨s, rfl, h1, h2⟩
set_option maxRecDepth 100000 in
/-- Schemas that came in. -/
theorem open_schs {r : Reach} {b0 : Nat} {v : Value} {d : DataW H} {ps : List MemPlace} (hval : Value.okWide Tryd.prog W r b0 32 v) (hd : DataW.Trod enc Tryd.prog W base (fun _ => true) held 32 v d ps) :
    ∃ (sa : Option Addr) (sc : Nat) (L : List Sch), v = .slice sa L.length sc ∧ SL W sa L ∧ SchsOk W L ∧ L.length ≤ 9223372036854775807 ∧ ∀ j, j < L.length → SchCap (L.getD j default) := by
  obtain ⟨a0, l0, c0, rfl⟩ := okWide_slice Tryd.underlying32 hval
  obtain ⟨fuel, h⟩ := hd
  rcases open_slice Tryd.underlying32 h with ⟨hcs, hx⟩ | ⟨a, len, cap, m, n, D, Pl, hcs, _, hl, hm, hmm, _, hi⟩
  · simp [Value.cells] at hcs
    obtain ⟨rfl, rfl, rfl⟩ := hcs
    exact ⟨none, 0, [], rfl, .inl rfl, fun j hj => absurd hj (Nat.not_lt_zero _), Nat.zero_le _, fun j hj => absurd hj (Nat.not_lt_zero _)⟩
  · simp [Value.cells] at hcs
    obtain ⟨rfl, rfl, rfl⟩ := hcs
    simp only [if_true] at hmm
    have each : ∀ i, i < l0 → ∃ s : Sch, W.cells? base (a.add (i * 4)) 4 = some s.cells.toList ∧ SchOk W s ∧ SchCap s := by
      intro i hil
      obtain ⟨cs', h1, h2⟩ := hi i (by omega)
      rw [cellsYS] at h1
      obtain ⟨c, rfl, h3⟩ := open_schT h2
      exact ⟨c, h1, h3⟩
    obtain ⟨q, hq⟩ := choose_lt each
    have hlen : ((List.range l0).map q).length = l0 := by simp
    have hget : ∀ j, j < l0 → ((List.range l0).map q).getD j default = q j := fun j hj => by
      rw [List.getD_eq_getElem?_getD, List.getElem?_map, List.getElem?_range hj]; rfl
    refine ⟨some a, c0, (List.range l0).map q, by rw [hlen], ?_, fun j hj => ?_, by rw [hlen]; unfold maxLen at hm; omega, fun j hj => ?_⟩
    · by_cases h0 : l0 = 0
      · exact .inl (List.eq_nil_of_length_eq_zero (by rw [hlen]; exact h0))
      · have hb := cell_ltY (cells4 (hq 0 (by omega)).1).1
        rw [addS_block] at hb
        refine .inr ⟨a, rfl, hb, fun j hj => ?_⟩
        rw [hlen] at hj
        rw [hget j hj]
        exact cells4 (hq j hj).1
    · rw [hlen] at hj
      rw [hget j hj]
      exact (hq j hj).2.1
    · rw [hlen] at hj
      rw [hget j hj]
      exact (hq j hj).2.2

end Go.Proofs.YtgehldadfaonbaaDoor
