/-
  Check of the program, for every schema.
-/
import Derived.Test.YtgehldadfaonbaaDoorSP
namespace Go.Proofs.YtgehldadfaonbaaDoor
open Go.RowKit Go.Shelf Go.ChangeMaps Go.Maps

structure TabJ (w : World) (s : Sch) (k : Nat) (W : World) : Prop where
  bl : Below w.heap.size w W
  p1 : 1 ≤ k → nmB s.name = true
  p2 : 2 ≤ k → manyB s = true
  p3 : 3 ≤ k → 0 < s.cols.length
  p4 : 4 ≤ k → s.cols.length ≤ 16
theorem tabFirst_any {w : World} {bl b l m cap : Nat} {s : Sch} {v0 v1 v2 v3 : Value} (h : TabAt w bl b l m s v0 v1 v2 v3) (hR : Res w) :
    Calls Tryd.prog 39 #[.slice (some ⟨bl, 0, none⟩) 4 cap] w fun e w' => e = .returned (.int .i64 (tabE s)) ∧ Below w.heap.size w w' := by
  have hcell : ∀ W, Below w.heap.size w W → ∀ j v, [v0, v1, v2, v3][j]? = some v → W.cell? ⟨bl, j, none⟩ = some v := fun W hb j v hv => by
    have := (h.below hb).row
    rw [cell_of_row W bl j _ _ _ this]
    simpa using hv
  refine (first_any (c := cap) (TabJ w s) (fun r W => Below w.heap.size w W ∧ r = tabE s) (by omega) ?_ ⟨Below.refl _ _, fun h => by omega, fun h => by omega, fun h => by omega, fun h => by omega⟩).mono ?_
  · intro k W hk J
    have hb := J.bl
    have hW := h.below hb
    rcases (show k = 0 ∨ k = 1 ∨ k = 2 ∨ k = 3 by omega) with rfl | rfl | rfl | rfl
    · refine step_of (hcell W hb 0 v0 rfl) hW.k0 (by omega) (enters_of Tryd.func62 (by kernel_rfl) rfl) ((tc1_any hW.sch (hR.of hb)).mono ?_)
      rintro e W' ⟨rfl, hb'⟩
      have hb2 := hb.trans (hb'.mono hb.size)
      exact ⟨_, rfl, fun i t u h => keepB hb' h, fun h => ⟨hb2, fun _ => h, fun h => by omega, fun h => by omega, fun h => by omega⟩, fun h => ⟨hb2, by unfold tabE; rw [if_pos h]⟩⟩
    · refine step_of (hcell W hb 1 v1 rfl) hW.k1 (by omega) (enters_of Tryd.func63 (by kernel_rfl) rfl) ((tc2_any hW.sch hW.least hW.most).mono ?_)
      rintro e W' ⟨rfl, rfl⟩
      exact ⟨_, rfl, fun i t u h => h, fun h => ⟨hb, fun _ => J.p1 (by omega), fun _ => h, fun h => by omega, fun h => by omega⟩, fun h => ⟨hb, by unfold tabE; rw [if_neg (by rw [J.p1 (by omega)]; decide), if_pos h]⟩⟩
    · refine step_of (hcell W hb 2 v2 rfl) hW.k2 (by omega) (enters_of Tryd.func64 (by kernel_rfl) rfl) ((tc3_any hW.sch).mono ?_)
      rintro e W' ⟨rfl, rfl⟩
      exact ⟨_, rfl, fun i t u h => h, fun h => ⟨hb, fun _ => J.p1 (by omega), fun _ => J.p2 (by omega), fun _ => of_decide_eq_true h, fun h => by omega⟩, fun h => ⟨hb, by have := of_decide_eq_false h; unfold tabE; rw [if_neg (by rw [J.p1 (by omega)]; decide), if_neg (by rw [J.p2 (by omega)]; decide), if_pos (by omega)]⟩⟩
    · have h0 := J.p3 (by omega)
      refine step_of (hcell W hb 3 v3 rfl) hW.k3 (by omega) (enters_of Tryd.func65 (by kernel_rfl) rfl) ((tc4_any hW.sch).mono ?_)
      rintro e W' ⟨rfl, rfl⟩
      exact ⟨_, rfl, fun i t u h => h, fun h => ⟨hb, fun _ => J.p1 (by omega), fun _ => J.p2 (by omega), fun _ => h0, fun _ => of_decide_eq_true h⟩, fun h => ⟨hb, by have := of_decide_eq_false h; unfold tabE; rw [if_neg (by rw [J.p1 (by omega)]; decide), if_neg (by rw [J.p2 (by omega)]; decide), if_neg (by omega), if_pos (by omega)]⟩⟩
  · rintro e W ⟨r, rfl, hy, hn'⟩
    by_cases hr : r = 0
    · subst hr
      have J := hy rfl
      have h0 := J.p3 (by omega)
      have h16 := J.p4 (by omega)
      exact ⟨by unfold tabE; rw [if_neg (by rw [J.p1 (by omega)]; decide), if_neg (by rw [J.p2 (by omega)]; decide), if_neg (by omega), if_neg (by omega)], J.bl⟩
    · obtain ⟨hb, e0⟩ := hn' hr
      exact ⟨by rw [e0], hb⟩

instance : Inhabited Col := ⟨⟨⟨#[]⟩, 0, 0, none, 0, []⟩⟩
/-- Columns that lie behind an address. -/
def CL (w : World) (ao : Option Addr) (L : List Col) : Prop :=
  L = [] ∨ ∃ a, ao = some a ∧ a.block < w.heap.size ∧ ∀ j, j < L.length → w.cell? (a.add (j * 4)) = some (.string (L.getD j default).name) ∧ w.cell? ⟨(a.add (j * 4)).block, (a.add (j * 4)).off + 1, none⟩ = some (.int .i64 (L.getD j default).lo) ∧
    w.cell? ⟨(a.add (j * 4)).block, (a.add (j * 4)).off + 2, none⟩ = some (.int .i64 (L.getD j default).hi) ∧ w.cell? ⟨(a.add (j * 4)).block, (a.add (j * 4)).off + 3, none⟩ = some (.slice (L.getD j default).wa (L.getD j default).ws.length (L.getD j default).wc)
theorem CL.at {w : World} {ao : Option Addr} {L : List Col} (h : CL w ao L) {j : Nat} (hj : j < L.length) : ∃ a, ao = some a ∧ w.cell? (a.add (j * 4)) = some (.string (L.getD j default).name) ∧ w.cell? ⟨(a.add (j * 4)).block, (a.add (j * 4)).off + 1, none⟩ = some (.int .i64 (L.getD j default).lo) ∧
    w.cell? ⟨(a.add (j * 4)).block, (a.add (j * 4)).off + 2, none⟩ = some (.int .i64 (L.getD j default).hi) ∧ w.cell? ⟨(a.add (j * 4)).block, (a.add (j * 4)).off + 3, none⟩ = some (.slice (L.getD j default).wa (L.getD j default).ws.length (L.getD j default).wc) := by
  rcases h with rfl | ⟨a, h1, _, h3⟩
  · simp at hj
  · exact ⟨a, h1, h3 j hj⟩
theorem CL.ch {S : Nat → Prop} {w w' : World} {ao : Option Addr} {L : List Col} (h : CL w ao L) (hc : Ch S w w') (hs : ∀ a, ao = some a → 0 < L.length → a.block < w.heap.size → ¬ S a.block) : CL w' ao L := by
  rcases h with h | ⟨a, h1, h2, h3⟩
  · exact .inl h
  · by_cases hl : L.length = 0
    · exact .inl (List.eq_nil_of_length_eq_zero hl)
    · have hb := hc.block a.block h2 (hs a h1 (by omega) h2)
      refine .inr ⟨a, h1, Nat.lt_of_lt_of_le h2 hc.size, fun j hj => ?_⟩
      obtain ⟨e0, e1, e2, e3⟩ := h3 j hj
      exact ⟨(World.cell?_of_block (w := w) (a := a.add (j * 4)) (by rw [addS_block]; exact hb)).trans e0, (World.cell?_of_block (w := w) (a := ⟨(a.add (j * 4)).block, (a.add (j * 4)).off + 1, none⟩) (by rw [addS_block]; exact hb)).trans e1,
        (World.cell?_of_block (w := w) (a := ⟨(a.add (j * 4)).block, (a.add (j * 4)).off + 2, none⟩) (by rw [addS_block]; exact hb)).trans e2, (World.cell?_of_block (w := w) (a := ⟨(a.add (j * 4)).block, (a.add (j * 4)).off + 3, none⟩) (by rw [addS_block]; exact hb)).trans e3⟩
theorem CL.below {w w' : World} {ao : Option Addr} {L : List Col} (h : CL w ao L) (hb : Below w.heap.size w w') : CL w' ao L := h.ch (S := fun _ => False) (Ch.below hb) (fun _ _ _ _ h => h)
theorem CL.map {w w' : World} {mb n : Nat} {S : ByteArray → ByteArray → Bool} {ao : Option Addr} {L : List Col} (h : CL w ao L) (hm : Marks w mb n S) (hc : Ch (fun j => j = mb) w w') : CL w' ao L := by
  have h' := h
  refine h.ch hc (fun a ha hl _ e => ?_)
  obtain ⟨b, hb, e0, _⟩ := h'.at hl
  obtain rfl := Option.some.inj (ha.symm.trans hb)
  obtain ⟨D, ⟨es, clock, hb2, _⟩, _⟩ := hm
  have hbk : (a.add (0 * 4)).block = mb := by rw [addS_block]; exact e
  unfold World.cell? at e0
  rw [hbk, hb2] at e0
  cases e0
def ColsOk (w : World) (L : List Col) : Prop := ∀ j, j < L.length → ColOk w (L.getD j default)
theorem ColsOk.below {w w' : World} {L : List Col} (h : ColsOk w L) (hb : Below w.heap.size w w') : ColsOk w' L := fun j hj => (h j hj).below hb
theorem ColsOk.map {w w' : World} {mb n : Nat} {S : ByteArray → ByteArray → Bool} {L : List Col} (h : ColsOk w L) (hm : Marks w mb n S) (hc : Ch (fun j => j = mb) w w') : ColsOk w' L := fun j hj => (h j hj).map hm hc

/-- The first error of columns behind others. -/
def chkFrom (P : List ByteArray) : List Col → Int × Int
  | [] => (0, -1)
  | c :: r => if chkC P c = 0 then chkFrom (P ++ [c.name]) r else (chkC P c, (P.length : Int))
/-- What Check returns. -/
def chkS (s : Sch) : Int × Int := if tabE s = 0 then chkFrom [] s.cols else (tabE s, -1)
abbrev namesOf (L : List Col) (k : Nat) : List ByteArray := (L.take k).map Col.name
theorem chk_at : ∀ (L : List Col) (P : List ByteArray) (k : Nat), k < L.length → (∀ j, j < k → chkC (P ++ namesOf L j) (L.getD j default) = 0) → chkC (P ++ namesOf L k) (L.getD k default) ≠ 0 → chkFrom P L = (chkC (P ++ namesOf L k) (L.getD k default), ((P.length + k : Nat) : Int))
  | [], P, k, hk, _, _ => by simp at hk
  | c :: r, P, 0, _, _, h => by
    simp only [namesOf, List.take_zero, List.map_nil, List.append_nil, List.getD_cons_zero, Nat.add_zero] at h ⊢
    unfold chkFrom
    rw [if_neg h]
  | c :: r, P, k + 1, hk, h0, h => by
    have h1 := h0 0 (by omega)
    simp only [namesOf, List.take_zero, List.map_nil, List.append_nil, List.getD_cons_zero] at h1
    have e : ∀ j, P ++ namesOf (c :: r) (j + 1) = (P ++ [c.name]) ++ namesOf r j := fun j => by simp [namesOf]
    have ih := chk_at r (P ++ [c.name]) k (by simpa using hk) (fun j hj => by have := h0 (j + 1) (by omega); rw [e, List.getD_cons_succ] at this; exact this) (by rw [e, List.getD_cons_succ] at h; exact h)
    unfold chkFrom
    rw [if_pos h1, ih, e, List.getD_cons_succ]
    simp; omega
theorem chk_all : ∀ (L : List Col) (P : List ByteArray), (∀ j, j < L.length → chkC (P ++ namesOf L j) (L.getD j default) = 0) → chkFrom P L = (0, -1)
  | [], P, _ => rfl
  | c :: r, P, h => by
    have h1 := h 0 (by simp)
    simp only [namesOf, List.take_zero, List.map_nil, List.append_nil, List.getD_cons_zero] at h1
    have e : ∀ j, P ++ namesOf (c :: r) (j + 1) = (P ++ [c.name]) ++ namesOf r j := fun j => by simp [namesOf]
    unfold chkFrom
    rw [if_pos h1]
    exact chk_all r (P ++ [c.name]) (fun j hj => by have := h (j + 1) (by simpa using hj); rw [e, List.getD_cons_succ] at this; exact this)
theorem chkC_few {names : List ByteArray} {c : Col} (h : chkC names c = 0) : c.ws.length ≤ 64 ∧ nmB c.name = true := by
  unfold chkC at h
  by_cases h1 : nmB c.name = false
  · rw [if_pos h1] at h; cases h
  rw [if_neg h1] at h
  have h1' : nmB c.name = true := by simpa using h1
  by_cases h2 : memB c.name names = true
  · rw [if_pos h2] at h; cases h
  rw [if_neg h2] at h
  by_cases h3 : c.ws.length = 0
  · exact ⟨by omega, h1'⟩
  rw [if_neg h3] at h
  by_cases h4 : 64 < c.ws.length
  · rw [if_pos h4] at h; cases h
  exact ⟨by omega, h1'⟩

end Go.Proofs.YtgehldadfaonbaaDoor
