/-
  The laws of layer 8: made of given lists; what Delta returns.
-/
import Derived.Test.YtofanopnibbaeaaGreatDoorZ20
namespace Go.Proofs.YtofanopnibbaeaaGreatDoor
open Go.RowKit NV Go.Maps Go.Sort Go.Shelf
open Go.Lib (decDigits)

theorem chk_dv {W : World} {v : Value} {D : List QI} (h : DV W v D) : chkZ (tZ D) = 0 ∧ litB (tZ D) = true := by
  obtain ⟨_, _, _, _, h3, h4, h5⟩ := h
  exact ⟨(chk_good h3).trans h4, h5⟩
theorem eS_q {f : Rat} (ho : QOk f) (h0 : 0 ≤ f) : eS (qstr f) = 0 := by
  unfold eS
  rw [if_neg (by rw [qstr_chk ho]; omega), ratS_q, if_neg]
  have : cmpQ 0 f ≤ 0 := cmpQ_le.2 h0
  rw [cmpQ_neg] at this
  unfold sgnQ; omega
theorem dlt_is {P Q : List MI} {f : Rat} (hp : litB P = true) (hq : litB Q = true) (hcp : chkZ P = 0) (hcq : chkZ Q = 0) (hf : Sz 24 f) (hf0 : 0 ≤ f) : dltE P Q (qstr f) = (qstr (sm (dD P Q f) P.length), 0) := by
  have ho := hf.qok (by omega) (by omega)
  unfold dltE
  rw [if_neg (by unfold bE; rw [hcp, hcq]; simp), if_neg (by rw [eS_q ho hf0]; simp), ratS_q, (dlt_run hp hq (chk_ok hcp).1 (chk_ok hcq).1 hf).1]
  rfl
/-- The lists that made returns, in cells. -/
theorem ds_cells {W : World} {base n : Nat} {v : Value} {ds : List Value} (h : W.ownsRow base 24 1 v n ds) (hn : n ≠ 0) : ∃ g cl, v = .slice (some ⟨g, 0, none⟩) n cl ∧ g < W.heap.size ∧ ∀ (j : Nat) (u : Value), ds[j]? = some u → W.cell? ⟨g, j, none⟩ = some u := by
  rcases h.2 with ⟨_, h0⟩ | ⟨g, cl, cur, hv, _, hh, _⟩
  · exact absurd h0 hn
  · subst hv
    refine ⟨g, cl, rfl, (Array.getElem?_eq_some_iff.1 hh).1, fun j u hu => ?_⟩
    have := h.cells (g := g) rfl j u hu
    rwa [Addr.add_lit, Nat.zero_add] at this
theorem made2_any {A0 : Option Addr} {n0 c0 : Nat} {L0 : List MI} {A1 : Option Addr} {n1 c1 : Nat} {L1 : List MI} {w : World} (h0 : MR w A0 n0 L0 ∧ n0 ≤ 9223372036854775807 ∧ MX L0) (h1 : MR w A1 n1 L1 ∧ n1 ≤ 9223372036854775807 ∧ MX L1) : Calls Tryz.prog 30 #[.slice (some ⟨w.heap.size, 0, none⟩) 2 2] (w.alloc (.cells #[.slice A0 n0 c0, .slice A1 n1 c1] 23)) fun e w' => ∃ v r, e = .returned (.tuple #[v, .bool r]) ∧ (r = true → ∃ (g cl : Nat) (u0 u1 : Value) (D0 D1 : List QI), v = .slice (some ⟨g, 0, none⟩) 2 cl ∧ g < w'.heap.size ∧ w'.cell? ⟨g, 0, none⟩ = some u0 ∧ w'.cell? ⟨g, 1, none⟩ = some u1 ∧ DV w' u0 D0 ∧ DV w' u1 D1) ∧ Below w.heap.size w w' := by
  have hb := (Below.refl w.heap.size w).alloc (Nat.le_refl _) (.cells #[.slice A0 n0 c0, .slice A1 n1 c1] 23)
  have hc : ∀ (j : Nat) (v : Value), (#[.slice A0 n0 c0, .slice A1 n1 c1] : Array Value)[j]? = some v → (w.alloc (.cells #[.slice A0 n0 c0, .slice A1 n1 c1] 23)).cell? ⟨w.heap.size, j, none⟩ = some v := fun j v hv => by
    rw [Lib.cell_of_heap (heap_alloc_new w _)]; exact hv
  refine (made_any (n := 2) (g := w.heap.size) (A := (fun j : Nat => if j = 0 then A0 else (A1))) (N := (fun j : Nat => if j = 0 then n0 else (n1))) (C := (fun j : Nat => if j = 0 then c0 else (c1))) (L := (fun j : Nat => if j = 0 then L0 else (L1))) (by omega) (fun j hj => ?_) (by simp) (fun j hj => ?_)).mono ?_
  · rcases (show j = 0 ∨ j = 1 by omega) with rfl | rfl
    · exact ⟨h0.1.below hb, h0.2⟩
    · exact ⟨h1.1.below hb, h1.2⟩
  · rcases (show j = 0 ∨ j = 1 by omega) with rfl | rfl
    · exact hc 0 _ rfl
    · exact hc 1 _ rfl
  · rintro e w' ⟨v, r, rfl, hr, hbb⟩
    refine ⟨v, r, rfl, fun h => ?_, hb.trans (hbb.mono hb.size)⟩
    obtain ⟨ds, hl, hrow, hds⟩ := hr h
    obtain ⟨g, cl, hv, hg, hcell⟩ := ds_cells hrow (by omega)
    have hx : ∀ j, j < 2 → ∃ u D, ds[j]? = some u ∧ DV w' u D := fun j hj => by
      have h1 : ds[j]? = some (ds[j]'(by omega)) := List.getElem?_eq_getElem _
      obtain ⟨D, hD⟩ := hds j _ h1
      exact ⟨_, D, h1, hD⟩
    obtain ⟨u0, D0, e0, d0⟩ := hx 0 (by omega)
    obtain ⟨u1, D1, e1, d1⟩ := hx 1 (by omega)
    exact ⟨g, cl, u0, u1, D0, D1, hv, hg, hcell 0 _ e0, hcell 1 _ e1, d0, d1⟩

theorem made3_any {A0 : Option Addr} {n0 c0 : Nat} {L0 : List MI} {A1 : Option Addr} {n1 c1 : Nat} {L1 : List MI} {A2 : Option Addr} {n2 c2 : Nat} {L2 : List MI} {w : World} (h0 : MR w A0 n0 L0 ∧ n0 ≤ 9223372036854775807 ∧ MX L0) (h1 : MR w A1 n1 L1 ∧ n1 ≤ 9223372036854775807 ∧ MX L1) (h2 : MR w A2 n2 L2 ∧ n2 ≤ 9223372036854775807 ∧ MX L2) : Calls Tryz.prog 30 #[.slice (some ⟨w.heap.size, 0, none⟩) 3 3] (w.alloc (.cells #[.slice A0 n0 c0, .slice A1 n1 c1, .slice A2 n2 c2] 23)) fun e w' => ∃ v r, e = .returned (.tuple #[v, .bool r]) ∧ (r = true → ∃ (g cl : Nat) (u0 u1 u2 : Value) (D0 D1 D2 : List QI), v = .slice (some ⟨g, 0, none⟩) 3 cl ∧ g < w'.heap.size ∧ w'.cell? ⟨g, 0, none⟩ = some u0 ∧ w'.cell? ⟨g, 1, none⟩ = some u1 ∧ w'.cell? ⟨g, 2, none⟩ = some u2 ∧ DV w' u0 D0 ∧ DV w' u1 D1 ∧ DV w' u2 D2) ∧ Below w.heap.size w w' := by
  have hb := (Below.refl w.heap.size w).alloc (Nat.le_refl _) (.cells #[.slice A0 n0 c0, .slice A1 n1 c1, .slice A2 n2 c2] 23)
  have hc : ∀ (j : Nat) (v : Value), (#[.slice A0 n0 c0, .slice A1 n1 c1, .slice A2 n2 c2] : Array Value)[j]? = some v → (w.alloc (.cells #[.slice A0 n0 c0, .slice A1 n1 c1, .slice A2 n2 c2] 23)).cell? ⟨w.heap.size, j, none⟩ = some v := fun j v hv => by
    rw [Lib.cell_of_heap (heap_alloc_new w _)]; exact hv
  refine (made_any (n := 3) (g := w.heap.size) (A := (fun j : Nat => if j = 0 then A0 else (if j = 1 then A1 else (A2)))) (N := (fun j : Nat => if j = 0 then n0 else (if j = 1 then n1 else (n2)))) (C := (fun j : Nat => if j = 0 then c0 else (if j = 1 then c1 else (c2)))) (L := (fun j : Nat => if j = 0 then L0 else (if j = 1 then L1 else (L2)))) (by omega) (fun j hj => ?_) (by simp) (fun j hj => ?_)).mono ?_
  · rcases (show j = 0 ∨ j = 1 ∨ j = 2 by omega) with rfl | rfl | rfl
    · exact ⟨h0.1.below hb, h0.2⟩
    · exact ⟨h1.1.below hb, h1.2⟩
    · exact ⟨h2.1.below hb, h2.2⟩
  · rcases (show j = 0 ∨ j = 1 ∨ j = 2 by omega) with rfl | rfl | rfl
    · exact hc 0 _ rfl
    · exact hc 1 _ rfl
    · exact hc 2 _ rfl
  · rintro e w' ⟨v, r, rfl, hr, hbb⟩
    refine ⟨v, r, rfl, fun h => ?_, hb.trans (hbb.mono hb.size)⟩
    obtain ⟨ds, hl, hrow, hds⟩ := hr h
    obtain ⟨g, cl, hv, hg, hcell⟩ := ds_cells hrow (by omega)
    have hx : ∀ j, j < 3 → ∃ u D, ds[j]? = some u ∧ DV w' u D := fun j hj => by
      have h1 : ds[j]? = some (ds[j]'(by omega)) := List.getElem?_eq_getElem _
      obtain ⟨D, hD⟩ := hds j _ h1
      exact ⟨_, D, h1, hD⟩
    obtain ⟨u0, D0, e0, d0⟩ := hx 0 (by omega)
    obtain ⟨u1, D1, e1, d1⟩ := hx 1 (by omega)
    obtain ⟨u2, D2, e2, d2⟩ := hx 2 (by omega)
    exact ⟨g, cl, u0, u1, u2, D0, D1, D2, hv, hg, hcell 0 _ e0, hcell 1 _ e1, hcell 2 _ e2, d0, d1, d2⟩

theorem made4_any {A0 : Option Addr} {n0 c0 : Nat} {L0 : List MI} {A1 : Option Addr} {n1 c1 : Nat} {L1 : List MI} {A2 : Option Addr} {n2 c2 : Nat} {L2 : List MI} {A3 : Option Addr} {n3 c3 : Nat} {L3 : List MI} {w : World} (h0 : MR w A0 n0 L0 ∧ n0 ≤ 9223372036854775807 ∧ MX L0) (h1 : MR w A1 n1 L1 ∧ n1 ≤ 9223372036854775807 ∧ MX L1) (h2 : MR w A2 n2 L2 ∧ n2 ≤ 9223372036854775807 ∧ MX L2) (h3 : MR w A3 n3 L3 ∧ n3 ≤ 9223372036854775807 ∧ MX L3) : Calls Tryz.prog 30 #[.slice (some ⟨w.heap.size, 0, none⟩) 4 4] (w.alloc (.cells #[.slice A0 n0 c0, .slice A1 n1 c1, .slice A2 n2 c2, .slice A3 n3 c3] 23)) fun e w' => ∃ v r, e = .returned (.tuple #[v, .bool r]) ∧ (r = true → ∃ (g cl : Nat) (u0 u1 u2 u3 : Value) (D0 D1 D2 D3 : List QI), v = .slice (some ⟨g, 0, none⟩) 4 cl ∧ g < w'.heap.size ∧ w'.cell? ⟨g, 0, none⟩ = some u0 ∧ w'.cell? ⟨g, 1, none⟩ = some u1 ∧ w'.cell? ⟨g, 2, none⟩ = some u2 ∧ w'.cell? ⟨g, 3, none⟩ = some u3 ∧ DV w' u0 D0 ∧ DV w' u1 D1 ∧ DV w' u2 D2 ∧ DV w' u3 D3) ∧ Below w.heap.size w w' := by
  have hb := (Below.refl w.heap.size w).alloc (Nat.le_refl _) (.cells #[.slice A0 n0 c0, .slice A1 n1 c1, .slice A2 n2 c2, .slice A3 n3 c3] 23)
  have hc : ∀ (j : Nat) (v : Value), (#[.slice A0 n0 c0, .slice A1 n1 c1, .slice A2 n2 c2, .slice A3 n3 c3] : Array Value)[j]? = some v → (w.alloc (.cells #[.slice A0 n0 c0, .slice A1 n1 c1, .slice A2 n2 c2, .slice A3 n3 c3] 23)).cell? ⟨w.heap.size, j, none⟩ = some v := fun j v hv => by
    rw [Lib.cell_of_heap (heap_alloc_new w _)]; exact hv
  refine (made_any (n := 4) (g := w.heap.size) (A := (fun j : Nat => if j = 0 then A0 else (if j = 1 then A1 else (if j = 2 then A2 else (A3))))) (N := (fun j : Nat => if j = 0 then n0 else (if j = 1 then n1 else (if j = 2 then n2 else (n3))))) (C := (fun j : Nat => if j = 0 then c0 else (if j = 1 then c1 else (if j = 2 then c2 else (c3))))) (L := (fun j : Nat => if j = 0 then L0 else (if j = 1 then L1 else (if j = 2 then L2 else (L3))))) (by omega) (fun j hj => ?_) (by simp) (fun j hj => ?_)).mono ?_
  · rcases (show j = 0 ∨ j = 1 ∨ j = 2 ∨ j = 3 by omega) with rfl | rfl | rfl | rfl
    · exact ⟨h0.1.below hb, h0.2⟩
    · exact ⟨h1.1.below hb, h1.2⟩
    · exact ⟨h2.1.below hb, h2.2⟩
    · exact ⟨h3.1.below hb, h3.2⟩
  · rcases (show j = 0 ∨ j = 1 ∨ j = 2 ∨ j = 3 by omega) with rfl | rfl | rfl | rfl
    · exact hc 0 _ rfl
    · exact hc 1 _ rfl
    · exact hc 2 _ rfl
    · exact hc 3 _ rfl
  · rintro e w' ⟨v, r, rfl, hr, hbb⟩
    refine ⟨v, r, rfl, fun h => ?_, hb.trans (hbb.mono hb.size)⟩
    obtain ⟨ds, hl, hrow, hds⟩ := hr h
    obtain ⟨g, cl, hv, hg, hcell⟩ := ds_cells hrow (by omega)
    have hx : ∀ j, j < 4 → ∃ u D, ds[j]? = some u ∧ DV w' u D := fun j hj => by
      have h1 : ds[j]? = some (ds[j]'(by omega)) := List.getElem?_eq_getElem _
      obtain ⟨D, hD⟩ := hds j _ h1
      exact ⟨_, D, h1, hD⟩
    obtain ⟨u0, D0, e0, d0⟩ := hx 0 (by omega)
    obtain ⟨u1, D1, e1, d1⟩ := hx 1 (by omega)
    obtain ⟨u2, D2, e2, d2⟩ := hx 2 (by omega)
    obtain ⟨u3, D3, e3, d3⟩ := hx 3 (by omega)
    exact ⟨g, cl, u0, u1, u2, u3, D0, D1, D2, D3, hv, hg, hcell 0 _ e0, hcell 1 _ e1, hcell 2 _ e2, hcell 3 _ e3, d0, d1, d2, d3⟩

end Go.Proofs.YtofanopnibbaeaaGreatDoor
