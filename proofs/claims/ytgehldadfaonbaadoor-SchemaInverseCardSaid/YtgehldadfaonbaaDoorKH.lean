/-
  SchemaInverse.
-/
import Derived.Test.YtgehldadfaonbaaDoorKG
import Derived.Lib.ItoaLen
namespace Go.Proofs.YtgehldadfaonbaaDoor
open Go.RowKit Go.Shelf Go.ChangeMaps Go.Maps

theorem idxT_get {x : ByteArray} : ∀ {l : List ByteArray} {k : Nat}, idxT x l = (k : Int) → k < l.length ∧ l.getD k ByteArray.empty = x
  | [], k, h => by have : (-1 : Int) = (k : Int) := h; omega
  | y :: r, k, h => by
    unfold idxT at h
    by_cases e : y = x
    · rw [if_pos e] at h
      obtain rfl : k = 0 := by omega
      exact ⟨by simp, by simpa using e⟩
    · rw [if_neg e] at h
      by_cases h2 : idxT x r < 0
      · rw [if_pos h2] at h; omega
      · rw [if_neg h2] at h
        obtain ⟨k', rfl⟩ : ∃ k', k = k' + 1 := ⟨k - 1, by omega⟩
        obtain ⟨h3, h4⟩ := idxT_get (x := x) (l := r) (k := k') (by omega)
        exact ⟨by simpa using h3, by rw [List.getD_cons_succ]; exact h4⟩
/-- A text that has a value is the text of this value. -/
theorem inv_yes {c : Col} {s : ByteArray} (h : (valE c s).2 = true) : txtE c (valE c s).1 = s ∧ -9223372036854775808 ≤ (valE c s).1 ∧ (valE c s).1 ≤ 9223372036854775807 := by
  unfold valE at h ⊢
  by_cases hv : vldB c = true
  · rw [if_pos hv] at h ⊢
    have hc := vld_cases hv
    by_cases h3 : 0 < c.ws.length
    · rw [if_pos h3] at h ⊢
      have h' : ge0 (idxT s c.ws) = true := h
      have h0 := of_decide_eq_true h'
      obtain ⟨k, hk⟩ := Int.eq_ofNat_of_zero_le h0
      obtain ⟨g1, g2⟩ := idxT_get hk
      obtain ⟨k1, k2, k3, _⟩ := hc.2.2.2 h3
      show txtE c (mx0 (idxT s c.ws)) = s ∧ _ ≤ mx0 (idxT s c.ws) ∧ mx0 (idxT s c.ws) ≤ _
      rw [hk, mx0_nat]
      refine ⟨?_, by omega, by omega⟩
      unfold txtE
      rw [if_pos ⟨hv, by omega, by omega⟩, if_pos h3, Int.toNat_natCast]
      exact g2
    · rw [if_neg h3] at h ⊢
      unfold numE at h ⊢
      cases hh : Lib.atoiAll s.data.toList with
      | ok v =>
        rw [hh] at h
        simp only at h ⊢
        by_cases hk : kT v = s ∧ c.lo ≤ v ∧ v ≤ c.hi
        · rw [if_pos hk]
          refine ⟨?_, by show _ ≤ v; omega, by show v ≤ _; omega⟩
          unfold txtE
          rw [if_pos ⟨hv, hk.2.1, hk.2.2⟩, if_neg h3]
          exact hk.1
        · rw [if_neg hk] at h; cases h
      | _ => rw [hh] at h; cases h
  · rw [if_neg hv] at h; cases h
theorem inv_no {c : Col} {s : ByteArray} (h : (valE c s).2 = false) : (valE c s).1 = 0 := by
  unfold valE at h ⊢
  by_cases hv : vldB c = true
  · rw [if_pos hv] at h ⊢
    by_cases h3 : 0 < c.ws.length
    · rw [if_pos h3] at h ⊢
      have h' : ge0 (idxT s c.ws) = false := h
      have h0 := of_decide_eq_false h'
      show mx0 (idxT s c.ws) = 0
      unfold mx0
      rw [if_pos (by omega)]
    · rw [if_neg h3] at h ⊢
      unfold numE at h ⊢
      cases hh : Lib.atoiAll s.data.toList with
      | ok v =>
        rw [hh] at h
        simp only at h ⊢
        by_cases hk : kT v = s ∧ c.lo ≤ v ∧ v ≤ c.hi
        · rw [if_pos hk] at h; cases h
        · rw [if_neg hk]
      | _ => rfl
  · rw [if_neg hv]
/-- A value's text has this value. -/
theorem inv_back {c : Col} {v : Int} (hv : vldB c = true) (h1 : c.lo ≤ v) (h2 : v ≤ c.hi) : txtE c v ≠ ⟨#[]⟩ ∧ valE c (txtE c v) = (v, true) := by
  have hc := vld_cases hv
  by_cases h3 : 0 < c.ws.length
  · obtain ⟨k1, k2, k3, k4, k5⟩ := hc.2.2.2 h3
    obtain ⟨n, rfl⟩ := Int.eq_ofNat_of_zero_le (show 0 ≤ v by omega)
    have hn : n < c.ws.length := by omega
    have ht : txtE c (n : Int) = c.ws.getD n ByteArray.empty := by unfold txtE; rw [if_pos ⟨hv, h1, h2⟩, if_pos h3, Int.toNat_natCast]
    have hi : idxT (c.ws.getD n ByteArray.empty) c.ws = (n : Int) := idxT_at _ _ _ hn rfl (fun j hj e => by
      have : twiceB c.ws = true := (twice_iff c.ws).2 ⟨n, j, hj, hn, e⟩
      rw [k5] at this; cases this)
    rw [ht]
    refine ⟨nmB_empty (k4 n hn), ?_⟩
    unfold valE
    rw [if_pos hv, if_pos h3, hi, mx0_nat, ge0_nat]
  · have ht : txtE c v = kT v := by unfold txtE; rw [if_pos ⟨hv, h1, h2⟩, if_neg h3]
    rw [ht]
    refine ⟨kT_ne v, ?_⟩
    unfold valE
    rw [if_pos hv, if_neg h3, numE_ok (by rw [kT_list]; exact atoi_itoa v (by omega) (by omega)), if_pos ⟨rfl, h1, h2⟩]
theorem txt_size {c : Col} {v : Int} (hv : vldB c = true) (h1 : c.lo ≤ v) (h2 : v ≤ c.hi) (h3 : ¬ 0 < c.ws.length) : (txtE c v).size ≤ 140737488351232 := by
  have hc := vld_cases hv
  have ht : txtE c v = kT v := by unfold txtE; rw [if_pos ⟨hv, h1, h2⟩, if_neg h3]
  have := Lib.itoa_length_le v (by omega) (by omega)
  rw [ht, Go.Lib.size_eq, kT_list]
  omega
theorem txt_out {c : Col} {v : Int} (h : ¬ (vldB c = true ∧ c.lo ≤ v ∧ v ≤ c.hi)) : txtE c v = ⟨#[]⟩ := if_neg h

theorem text_lift {V W : World} {c : Col} (v : Int) (hR : WL V) (ho : ColOk V c) (h : Below V.heap.size V W) (v0 : -9223372036854775808 ≤ v) (v1 : v ≤ 9223372036854775807) : Calls Tryd.prog 36 #[.agg c.cells, .int .i64 v] W fun e w' => e = .returned (.string (txtE c v)) ∧ Below V.heap.size V w' :=
  (text_any v (hR.of h) (ho.below h) v0 v1).mono fun _ _ ⟨h1, h2⟩ => ⟨h1, h.trans (h2.mono h.size)⟩
theorem value_lift {V W : World} {c : Col} (s : ByteArray) (hs : ¬ 0 < c.ws.length → s.size ≤ 140737488351232) (hR : WL V) (ho : ColOk V c) (h : Below V.heap.size V W) : Calls Tryd.prog 34 #[.agg c.cells, .string s] W fun e w' => e = .returned (.tuple #[.int .i64 (valE c s).1, .bool (valE c s).2]) ∧ Below V.heap.size V w' :=
  (value_any s hs (hR.of h) (ho.below h)).mono fun _ _ ⟨h1, h2⟩ => ⟨h1, h.trans (h2.mono h.size)⟩
theorem width_lift {V W : World} {c : Col} (hR : WL V) (ho : ColOk V c) (h : Below V.heap.size V W) : Calls Tryd.prog 35 #[.agg c.cells] W fun e w' => e = .returned (.int .i64 (widE c)) ∧ Below V.heap.size V w' :=
  (width_any (hR.of h).res (ho.below h)).mono fun _ _ ⟨h1, h2⟩ => ⟨h1, h.trans (h2.mono h.size)⟩

end Go.Proofs.YtgehldadfaonbaaDoor
