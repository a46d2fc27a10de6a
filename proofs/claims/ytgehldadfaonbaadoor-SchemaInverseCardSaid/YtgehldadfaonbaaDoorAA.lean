/-
  Schemas behind an address; what CheckAll returns.
-/
import Derived.Test.YtgehldadfaonbaaDoorRA
namespace Go.Proofs.YtgehldadfaonbaaDoor
open Go.RowKit Go.Shelf Go.ChangeMaps Go.Maps

instance : Inhabited Sch := ⟨⟨⟨#[]⟩, false, 0, none, 0, []⟩⟩
/-- What is known of a schema that came in. -/
structure SchOk (w : World) (s : Sch) : Prop where
  cl : CL w s.ca s.cols
  ok : ColsOk w s.cols
  few : s.cols.length ≤ 9223372036854775807
  short : s.name.size ≤ maxLen
theorem SchOk.below {w w' : World} {s : Sch} (h : SchOk w s) (hb : Below w.heap.size w w') : SchOk w' s := ⟨h.cl.below hb, h.ok.below hb, h.few, h.short⟩
theorem SchOk.map {w w' : World} {mb n : Nat} {S : ByteArray → ByteArray → Bool} {s : Sch} (h : SchOk w s) (hm : Marks w mb n S) (hc : Ch (fun j => j = mb) w w') : SchOk w' s := ⟨h.cl.map hm hc, h.ok.map hm hc, h.few, h.short⟩
/-- Schemas that lie behind an address. -/
def SL (w : World) (ao : Option Addr) (L : List Sch) : Prop :=
  L = [] ∨ ∃ a, ao = some a ∧ a.block < w.heap.size ∧ ∀ j, j < L.length → w.cell? (a.add (j * 4)) = some (.string (L.getD j default).name) ∧ w.cell? ⟨(a.add (j * 4)).block, (a.add (j * 4)).off + 1, none⟩ = some (.bool (L.getD j default).pub) ∧
    w.cell? ⟨(a.add (j * 4)).block, (a.add (j * 4)).off + 2, none⟩ = some (.int .i64 (L.getD j default).many) ∧ w.cell? ⟨(a.add (j * 4)).block, (a.add (j * 4)).off + 3, none⟩ = some (.slice (L.getD j default).ca (L.getD j default).cols.length (L.getD j default).cc)
theorem SL.at {w : World} {ao : Option Addr} {L : List Sch} (h : SL w ao L) {j : Nat} (hj : j < L.length) : ∃ a, ao = some a ∧ w.cell? (a.add (j * 4)) = some (.string (L.getD j default).name) ∧ w.cell? ⟨(a.add (j * 4)).block, (a.add (j * 4)).off + 1, none⟩ = some (.bool (L.getD j default).pub) ∧
    w.cell? ⟨(a.add (j * 4)).block, (a.add (j * 4)).off + 2, none⟩ = some (.int .i64 (L.getD j default).many) ∧ w.cell? ⟨(a.add (j * 4)).block, (a.add (j * 4)).off + 3, none⟩ = some (.slice (L.getD j default).ca (L.getD j default).cols.length (L.getD j default).cc) := by
  rcases h with rfl | ⟨a, h1, _, h3⟩
  · simp at hj
  · exact ⟨a, h1, h3 j hj⟩
theorem SL.ch {S : Nat → Prop} {w w' : World} {ao : Option Addr} {L : List Sch} (h : SL w ao L) (hc : Ch S w w') (hs : ∀ a, ao = some a → 0 < L.length → a.block < w.heap.size → ¬ S a.block) : SL w' ao L := by
  rcases h with h | ⟨a, h1, h2, h3⟩
  · exact .inl h
  · by_cases hl : L.length = 0
    · exact .inl (List.eq_nil_of_length_eq_zero hl)
    · have hb := hc.block a.block h2 (hs a h1 (by omega) h2)
      refine .inr ⟨a, h1, Nat.lt_of_lt_of_le h2 hc.size, fun j hj => ?_⟩
      obtain ⟨e0, e1, e2, e3⟩ := h3 j hj
      exact ⟨(World.cell?_of_block (w := w) (a := a.add (j * 4)) (by rw [addS_block]; exact hb)).trans e0, (World.cell?_of_block (w := w) (a := ⟨(a.add (j * 4)).block, (a.add (j * 4)).off + 1, none⟩) (by rw [addS_block]; exact hb)).trans e1,
        (World.cell?_of_block (w := w) (a := ⟨(a.add (j * 4)).block, (a.add (j * 4)).off + 2, none⟩) (by rw [addS_block]; exact hb)).trans e2, (World.cell?_of_block (w := w) (a := ⟨(a.add (j * 4)).block, (a.add (j * 4)).off + 3, none⟩) (by rw [addS_block]; exact hb)).trans e3⟩
theorem SL.below {w w' : World} {ao : Option Addr} {L : List Sch} (h : SL w ao L) (hb : Below w.heap.size w w') : SL w' ao L := h.ch (S := fun _ => False) (Ch.below hb) (fun _ _ _ _ h => h)
theorem SL.map {w w' : World} {mb n : Nat} {S : ByteArray → ByteArray → Bool} {ao : Option Addr} {L : List Sch} (h : SL w ao L) (hm : Marks w mb n S) (hc : Ch (fun j => j = mb) w w') : SL w' ao L := by
  have h' := h
  refine h.ch hc (fun a ha hl _ e => ?_)
  obtain ⟨b, hb, e0, _⟩ := h'.at hl
  obtain rfl := Option.some.inj (ha.symm.trans hb)
  obtain ⟨D, ⟨es, clock, hb2, _⟩, _⟩ := hm
  have hbk : (a.add (0 * 4)).block = mb := by rw [addS_block]; exact e
  unfold World.cell? at e0
  rw [hbk, hb2] at e0
  cases e0
def SchsOk (w : World) (L : List Sch) : Prop := ∀ j, j < L.length → SchOk w (L.getD j default)
theorem SchsOk.below {w w' : World} {L : List Sch} (h : SchsOk w L) (hb : Below w.heap.size w w') : SchsOk w' L := fun j hj => (h j hj).below hb
theorem SchsOk.map {w w' : World} {mb n : Nat} {S : ByteArray → ByteArray → Bool} {L : List Sch} (h : SchsOk w L) (hm : Marks w mb n S) (hc : Ch (fun j => j = mb) w w') : SchsOk w' L := fun j hj => (h j hj).map hm hc

abbrev snames (L : List Sch) (k : Nat) : List ByteArray := (L.take k).map Sch.name
theorem snames_succ {L : List Sch} {k : Nat} (h : k < L.length) : snames L (k + 1) = snames L k ++ [(L.getD k default).name] := by
  unfold snames
  rw [List.take_succ_eq_append_getElem h, List.map_append, List.getD_eq_getElem?_getD, List.getElem?_eq_getElem h]; rfl
theorem memB_snames {L : List Sch} {k : Nat} {x : ByteArray} (hk : k ≤ L.length) : memB x (snames L k) = true ↔ ∃ j, j < k ∧ (L.getD j default).name = x := by
  rw [memB_iff]
  unfold snames
  rw [List.mem_map]
  constructor
  · rintro ⟨c, hc, rfl⟩
    obtain ⟨j, hj, rfl⟩ := List.mem_iff_getElem.1 hc
    rw [List.length_take] at hj
    refine ⟨j, by omega, ?_⟩
    rw [List.getElem_take, List.getD_eq_getElem?_getD, List.getElem?_eq_getElem (by omega)]; rfl
  · rintro ⟨j, hj, rfl⟩
    rw [List.getD_eq_getElem?_getD, List.getElem?_eq_getElem (by omega)]
    exact ⟨L[j], List.mem_take_iff_getElem.2 ⟨j, by omega, rfl⟩, rfl⟩
/-- The first error of schemas behind others. -/
def allFrom (P : List ByteArray) : List Sch → Int × Int × Int
  | [] => (0, -1, -1)
  | s :: r => if (chkS s).1 = 0 then (if memB s.name P = true then (8, (P.length : Int), -1) else allFrom (P ++ [s.name]) r) else ((chkS s).1, (P.length : Int), (chkS s).2)
/-- What CheckAll returns. -/
def chkA (L : List Sch) : Int × Int × Int := if 16 < L.length then (4, 16, -1) else allFrom [] L
/-- A schema that passes, behind names. -/
def good (P : List ByteArray) (s : Sch) : Prop := (chkS s).1 = 0 ∧ memB s.name P = false
theorem all_at : ∀ (L : List Sch) (P : List ByteArray) (k : Nat), k < L.length → (∀ j, j < k → good (P ++ snames L j) (L.getD j default)) →
    ((chkS (L.getD k default)).1 ≠ 0 → allFrom P L = ((chkS (L.getD k default)).1, ((P.length + k : Nat) : Int), (chkS (L.getD k default)).2)) ∧
    ((chkS (L.getD k default)).1 = 0 → memB (L.getD k default).name (P ++ snames L k) = true → allFrom P L = (8, ((P.length + k : Nat) : Int), -1))
  | [], P, k, hk, _ => by simp at hk
  | c :: r, P, 0, _, _ => by
    constructor
    · intro h
      simp only [List.getD_cons_zero, Nat.add_zero] at h ⊢
      unfold allFrom
      rw [if_neg h]
    · intro h h2
      simp only [snames, List.take_zero, List.map_nil, List.append_nil, List.getD_cons_zero, Nat.add_zero] at h h2 ⊢
      unfold allFrom
      rw [if_pos h, if_pos h2]
  | c :: r, P, k + 1, hk, h0 => by
    have h1 := h0 0 (by omega)
    simp only [snames, List.take_zero, List.map_nil, List.append_nil, List.getD_cons_zero] at h1
    have e : ∀ j, P ++ snames (c :: r) (j + 1) = (P ++ [c.name]) ++ snames r j := fun j => by simp [snames]
    obtain ⟨i1, i2⟩ := all_at r (P ++ [c.name]) k (by simpa using hk) (fun j hj => by have := h0 (j + 1) (by omega); rw [e, List.getD_cons_succ] at this; exact this)
    have hu : allFrom P (c :: r) = allFrom (P ++ [c.name]) r := by
      conv => lhs; unfold allFrom
      rw [if_pos h1.1, if_neg (by rw [h1.2]; decide)]
    rw [hu, e, List.getD_cons_succ]
    constructor
    · intro h; rw [i1 h]; simp; omega
    · intro h h2; rw [i2 h h2]; simp; omega
theorem all_all : ∀ (L : List Sch) (P : List ByteArray), (∀ j, j < L.length → good (P ++ snames L j) (L.getD j default)) → allFrom P L = (0, -1, -1)
  | [], P, _ => rfl
  | c :: r, P, h => by
    have h1 := h 0 (by simp)
    simp only [snames, List.take_zero, List.map_nil, List.append_nil, List.getD_cons_zero] at h1
    have e : ∀ j, P ++ snames (c :: r) (j + 1) = (P ++ [c.name]) ++ snames r j := fun j => by simp [snames]
    unfold allFrom
    rw [if_pos h1.1, if_neg (by rw [h1.2]; decide)]
    exact all_all r (P ++ [c.name]) (fun j hj => by have := h (j + 1) (by simpa using hj); rw [e, List.getD_cons_succ] at this; exact this)

/-- An index, and whether there is one. -/
def mx0 (i : Int) : Int := if i < 0 then 0 else i
def ge0 (i : Int) : Bool := decide (0 ≤ i)
abbrev fnd (i : Int) : Value := .tuple #[.int .i64 (mx0 i), .bool (ge0 i)]
theorem mx0_nat (k : Nat) : mx0 (k : Int) = (k : Int) := if_neg (by omega)
theorem ge0_nat (k : Nat) : ge0 (k : Int) = true := decide_eq_true (by omega)
theorem idxT_range (x : ByteArray) (l : List ByteArray) : idxT x l = -1 ∨ ∃ k : Nat, idxT x l = (k : Int) ∧ k < l.length := by
  induction l with
  | nil => exact .inl rfl
  | cons y r ih =>
    unfold idxT
    by_cases h : y = x
    · rw [if_pos h]; exact .inr ⟨0, rfl, by simp⟩
    · rw [if_neg h]
      rcases ih with h | ⟨k, h, hk⟩
      · rw [h]; exact .inl rfl
      · rw [h, if_neg (by omega)]; exact .inr ⟨k + 1, by omega, by simpa using hk⟩

end Go.Proofs.YtgehldadfaonbaaDoor
