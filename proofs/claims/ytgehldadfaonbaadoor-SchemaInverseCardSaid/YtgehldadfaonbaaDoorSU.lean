/-
  Columns in a block of their own; valid; the chapter's columns and schema; checks.
-/
import Derived.Test.YtgehldadfaonbaaDoorST
namespace Go.Proofs.YtgehldadfaonbaaDoor
open Go.RowKit Go.Shelf Go.ChangeMaps Go.Maps

def colsV (L : List Col) : List Value := L.flatMap fun c => [.string c.name, .int .i64 c.lo, .int .i64 c.hi, .slice c.wa c.ws.length c.wc]
theorem colsV_get : ∀ (L : List Col) (k : Nat), k < L.length → (colsV L)[k * 4]? = some (.string (L.getD k default).name) ∧ (colsV L)[k * 4 + 1]? = some (.int .i64 (L.getD k default).lo) ∧ (colsV L)[k * 4 + 2]? = some (.int .i64 (L.getD k default).hi) ∧ (colsV L)[k * 4 + 3]? = some (.slice (L.getD k default).wa (L.getD k default).ws.length (L.getD k default).wc)
  | [], k, h => by simp at h
  | a :: l, 0, h => ⟨rfl, rfl, rfl, rfl⟩
  | a :: l, k + 1, h => by
    have h2 := colsV_get l k (by simpa using h)
    have e : colsV (a :: l) = [.string a.name, .int .i64 a.lo, .int .i64 a.hi, .slice a.wa a.ws.length a.wc] ++ colsV l := by unfold colsV; rw [List.flatMap_cons]
    rw [e, Nat.succ_mul]
    exact h2
theorem CL.row {w : World} {b : Nat} {t : TypeId} {fr : Nat × Nat} {L : List Col} (h : w.heap[b]? = some (.cells (colsV L).toArray t fr)) : CL w (some ⟨b, 0, none⟩) L := by
  refine .inr ⟨_, rfl, (Array.getElem?_eq_some_iff.1 h).1, fun j hj => ?_⟩
  obtain ⟨h0, h1, h2, h3⟩ := colsV_get L j hj
  have e : (⟨b, 0, none⟩ : Addr).add (j * 4) = ⟨b, j * 4, none⟩ := by unfold Addr.add; split <;> simp_all
  rw [e]
  refine ⟨?_, ?_, ?_, ?_⟩
  · rw [cell_of_row w b _ _ t fr h]; simpa using h0
  · rw [cell_of_row w b _ _ t fr h]; simpa using h1
  · rw [cell_of_row w b _ _ t fr h]; simpa using h2
  · rw [cell_of_row w b _ _ t fr h]; simpa using h3

/-- Whether a column is valid. -/
def vldB (c : Col) : Bool := decide (chkC [] c = 0)
theorem valid_any {w : World} {c : Col} (hR : Res w) (ho : ColOk w c) : Calls Tryd.prog 56 #[.agg c.cells] w fun e w' => e = .returned (.bool (vldB c)) ∧ Below w.heap.size w w' := by
  obtain ⟨V, hV⟩ : ∃ V, V = (w.alloc (.cells c.cells 44)).alloc (.cells #[.string c.name, .int .i64 c.lo, .int .i64 c.hi, .slice c.wa c.ws.length c.wc] 44) := ⟨_, rfl⟩
  have hb : Below w.heap.size w V := by rw [hV]; exact ((Below.refl _ _).alloc (Nat.le_refl _) _).alloc (by simp) _
  have hrow : V.heap[w.heap.size + 1]? = some (.cells (colsV [c]).toArray 44 (0, 0)) := by
    rw [hV]
    have := heap_alloc_new (w.alloc (.cells c.cells 44)) (.cells #[.string c.name, .int .i64 c.lo, .int .i64 c.hi, .slice c.wa c.ws.length c.wc] 44)
    rwa [World.size_alloc] at this
  have hs : chkS ⟨⟨#[116]⟩, false, 1, some ⟨w.heap.size + 1, 0, none⟩, 1, [c]⟩ = if chkC [] c = 0 then (0, -1) else (chkC [] c, 0) := by
    have e : tabE ⟨⟨#[116]⟩, false, 1, some ⟨w.heap.size + 1, 0, none⟩, 1, [c]⟩ = 0 := by
      unfold tabE
      rw [if_neg (by show ¬ nmB ⟨#[116]⟩ = false; decide +kernel), if_neg (by unfold manyB lst mst; simp), if_neg (by simp), if_neg (by simp)]
    unfold chkS
    rw [if_pos e]
    unfold chkFrom
    rfl
  have HC := Lib.hid (check_any2 (w := V) (s := ⟨⟨#[116]⟩, false, 1, some ⟨w.heap.size + 1, 0, none⟩, 1, [c]⟩) (hR.of hb) (CL.row hrow) (fun j hj => by
    have : j = 0 := by simpa using hj
    subst this
    exact ho.below hb))
  rw [hs] at HC
  have HB := Lib.hid hb
  clear hb hrow hs hR ho
  subst hV
  unfold vldB
  obtain ⟨v, hv⟩ : ∃ v, v = chkC [] c := ⟨_, rfl⟩
  rw [← hv] at HC
  rw [← hv]
  clear hv
  by_cases hz : v = 0
  · rw [if_pos hz] at HC
    rw [decide_eq_true hz]
    clear hz
    go_enter Tryd.func56, Tryd.ntmps56
    go_wp2_with fail
    refine HC.out.mono ?_
    rintro e w1 ⟨rfl, hb1⟩
    have HF := Lib.hid (HB.out.trans (hb1.mono HB.out.size))
    clear hb1 HC HB
    go_wp2
    go_ret
    exact ⟨rfl, HF.out⟩
  · rw [if_neg hz] at HC
    have hq : (v == 0) = false := by rw [beq_eq_false_iff_ne]; exact hz
    rw [decide_eq_false hz]
    clear hz
    go_enter Tryd.func56, Tryd.ntmps56
    go_wp2_with fail
    refine HC.out.mono ?_
    rintro e w1 ⟨rfl, hb1⟩
    have HF := Lib.hid (HB.out.trans (hb1.mono HB.out.size))
    clear hb1 HC HB
    go_wp2
    go_ret
    exact ⟨rfl, HF.out⟩

/-- The text of a value. -/
theorem text_words {w : World} {c : Col} {v : Int} (hR : Res w) (ho : ColOk w c) (hv : vldB c = true) (hw : 0 < c.ws.length) (h1 : c.lo ≤ v) (h2 : v ≤ c.hi) (h0 : 0 ≤ v) (hl : v.toNat < c.ws.length) :
    Calls Tryd.prog 36 #[.agg c.cells, .int .i64 v] w fun e w' => e = .returned (.string (c.ws.getD v.toNat ByteArray.empty)) ∧ Below w.heap.size w w' := by
  have hb : Below w.heap.size w (w.alloc (.cells c.cells 44)) := (Below.refl _ _).alloc (Nat.le_refl _) _
  have hat : ColAt (w.alloc (.cells c.cells 44)) w.heap.size c := heap_alloc_new w _
  have HV := Lib.hid (valid_any (hR.of hb) (ho.below hb))
  rw [hv] at HV
  have HB := Lib.hid (And.intro hb (And.intro hat (ho.below hb)))
  obtain ⟨n, rfl⟩ := Int.eq_ofNat_of_zero_le h0
  rw [Int.toNat_natCast] at hl ⊢
  have hn63 := ho.few
  clear hb hat ho hR hv h0
  go_enter Tryd.func36, Tryd.ntmps36
  go_wp2_with fail
  refine HV.out.mono ?_
  rintro e w1 ⟨rfl, hb1⟩
  have hat := HB.out.2.1.below hb1
  have c1 := hat.c1
  have c2 := hat.c2
  have c3 := hat.c3
  obtain ⟨ad, ea, _, d1⟩ := (HB.out.2.2.words.below hb1).at hl
  rw [ea] at c3
  obtain ⟨s, hs⟩ : ∃ s, s = c.ws.getD n ByteArray.empty := ⟨_, rfl⟩
  rw [← hs] at d1
  have HS := Lib.hid hs
  have HF := Lib.hid (HB.out.1.trans (hb1.mono HB.out.1.size))
  clear hat hb1 HV HB hs ea
  go_wp2
  go_ret
  exact ⟨by rw [← HS.out]; rfl, HF.out⟩

end Go.Proofs.YtgehldadfaonbaaDoor
