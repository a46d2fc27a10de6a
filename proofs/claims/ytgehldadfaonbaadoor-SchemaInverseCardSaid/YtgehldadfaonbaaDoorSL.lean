/-
  The lists of checks: of the words, of a column.
-/
import Derived.Test.YtgehldadfaonbaaDoorSK
namespace Go.Proofs.YtgehldadfaonbaaDoor
open Go.RowKit Go.Shelf Go.ChangeMaps Go.Maps

theorem keepB {w w' : World} (h : Below w.heap.size w w') {b : Nat} {t : TypeId} {v : Value} (hb : Boxed w b t v) : Boxed w' b t v := (Ch.below (S := fun _ => False) h).boxed (fun h => h) hb

/-- The checks of the words of the column in block b; the marks in the box q. -/
structure WordsAt (W : World) (bl b q mb : Nat) (c : Col) (v0 v1 v2 v3 : Value) : Prop where
  row : W.heap[bl]? = some (.cells #[v0, v1, v2, v3] 87 (0, 0))
  col : ColAt W b c
  box : Boxed W q 61 (.map (some mb))
  k0 : ChkAt W v0 4 84 #[.pointer (some ⟨b, 0, none⟩)]
  k1 : ChkAt W v1 19 85 #[.pointer (some ⟨b, 0, none⟩)]
  k2 : ChkAt W v2 8 87 #[.pointer (some ⟨b, 0, none⟩), .pointer (some ⟨q, 0, none⟩)]
  k3 : ChkAt W v3 2 88 #[.pointer (some ⟨b, 0, none⟩)]

set_option maxHeartbeats 1600000 in
theorem wordChecks_any (w : World) (c : Col) (mb : Nat) :
    Calls Tryd.prog 68 #[.agg c.cells, .map (some mb)] w fun e w' => ∃ bl b q v0 v1 v2 v3, e = .returned (.slice (some ⟨bl, 0, none⟩) 4 4) ∧ w.heap.size ≤ bl ∧ WordsAt w' bl b q mb c v0 v1 v2 v3 ∧ Below w.heap.size w w' := by
  obtain ⟨A, hA⟩ : ∃ A, A = w.alloc (.cells #[.string c.name, .int .i64 c.lo, .int .i64 c.hi, .slice c.wa c.ws.length c.wc] 44) := ⟨_, rfl⟩
  obtain ⟨B, hB⟩ : ∃ B, B = A.alloc (.cells #[.map (some mb)] 61) := ⟨_, rfl⟩
  have sA : A.heap.size = w.heap.size + 1 := by rw [hA]; simp
  have a1 : ColAt A w.heap.size c := by rw [hA]; exact heap_alloc_new w _
  have b1 : Boxed B (w.heap.size + 1) 61 (.map (some mb)) := by rw [hB, ← sA]; exact Boxed.new A _ _
  have i1 : Below A.heap.size A B := by rw [hB]; exact (Below.refl _ _).alloc (Nat.le_refl _) _
  have i0 : Below w.heap.size w B := by rw [hB, hA]; exact ((Below.refl _ _).alloc (Nat.le_refl _) _).alloc (by simp) _
  have H := Lib.hid (And.intro (a1.below i1) (And.intro b1 i0))
  clear a1 b1 i1 i0 sA
  subst hA
  go_enter Tryd.func68, Tryd.ntmps68
  go_wp2_with fail
  rw [← hB]
  clear hB
  refine (demand_any 4 _ _ B).mono ?_
  rintro e w1 ⟨v0, rfl, k0, h1⟩
  have H1 := Lib.hid (And.intro k0 h1)
  have hv0 : ∃ cap, v0 = .func (.func 83) #[] cap := by obtain ⟨b, rfl, _⟩ := k0; exact ⟨_, rfl⟩
  clear k0 h1
  obtain ⟨p0, rfl⟩ := hv0
  go_wp2_with fail
  refine (demand_any 19 _ _ w1).mono ?_
  rintro e w2 ⟨v1, rfl, k1, h2⟩
  have H2 := Lib.hid (And.intro k1 h2)
  have hv1 : ∃ cap, v1 = .func (.func 83) #[] cap := by obtain ⟨b, rfl, _⟩ := k1; exact ⟨_, rfl⟩
  clear k1 h2
  obtain ⟨p1, rfl⟩ := hv1
  go_wp2_with fail
  refine (demand_any 8 _ _ w2).mono ?_
  rintro e w3 ⟨v2, rfl, k2, h3⟩
  have H3 := Lib.hid (And.intro k2 h3)
  have hv2 : ∃ cap, v2 = .func (.func 83) #[] cap := by obtain ⟨b, rfl, _⟩ := k2; exact ⟨_, rfl⟩
  clear k2 h3
  obtain ⟨p2, rfl⟩ := hv2
  go_wp2_with fail
  refine (demand_any 2 _ _ w3).mono ?_
  rintro e w4 ⟨v3, rfl, k3, h4⟩
  have H4 := Lib.hid (And.intro k3 h4)
  have hv3 : ∃ cap, v3 = .func (.func 83) #[] cap := by obtain ⟨b, rfl, _⟩ := k3; exact ⟨_, rfl⟩
  clear k3 h4
  obtain ⟨p3, rfl⟩ := hv3
  go_wp2_with fail
  go_ret
  have ha : Below w4.heap.size w4 (w4.alloc (.cells #[.func (.func 83) #[] p0, .func (.func 83) #[] p1, .func (.func 83) #[] p2, .func (.func 83) #[] p3] 87)) := (Below.refl _ _).alloc (Nat.le_refl _) _
  have s1 := H1.out.2.size
  have s2 := H2.out.2.size
  have s3 := H3.out.2.size
  have s4 := H4.out.2.size
  have hb4 := H4.out.2.trans (ha.mono s4)
  have hb3 := H3.out.2.trans (hb4.mono s3)
  have hb2 := H2.out.2.trans (hb3.mono s2)
  have hb1 := H1.out.2.trans (hb2.mono s1)
  exact ⟨w4.heap.size, w.heap.size, w.heap.size + 1, _, _, _, _, rfl, by have := H.out.2.2.size; omega, ⟨heap_alloc_new w4 _, H.out.1.below hb1, keepB hb1 H.out.2.1, H1.out.1.below hb2, H2.out.1.below hb3, H3.out.1.below hb4, H4.out.1.below ha⟩, H.out.2.2.trans (hb1.mono H.out.2.2.size)⟩

end Go.Proofs.YtgehldadfaonbaaDoor
