/-
  The laws of layer 8: their examples, numbers. The laws of layer 8: light, made. DistSets: what it asks of two distributions and a factor. The laws of layer 8: made of given lists; what Delta returns. The laws of layer 9: few, made.
-/
import Derived.Test.YtjpepjooefkbkaaGreatDoorZC
namespace Go.Proofs.YtjpepjooefkbkaaGreatDoor
section
open Go.RowKit NV Go.Maps Go.Sort Go.Shelf
open Go.Lib (decDigits)
theorem MR.lit {w : World} {g : Nat} {L : List MI} (h : w.heap[g]? = some (.cells (cellsZ L).toArray 41 (0, 0))) : MR w (some ⟨g, 0, none⟩) L.length L := by
 refine ⟨rfl, ?_⟩
 by_cases h0 : L.length = 0
 ·exact .inl h0
 refine .inr ⟨_, rfl, (Array.getElem?_eq_some_iff.1 h).1, fun j x hx => ?_⟩
 obtain ⟨h1, h2⟩ := cellsZ_get L j x hx
 have hc : ∀ i v, (cellsZ L)[i]? = some v → w.cell? ⟨g, i, none⟩ = some v := fun i v hi => by
  rw [Lib.cell_of_heap h]
  simpa using hi
 have e : (⟨g, 0, none⟩ : Addr).add (j * 2) = ⟨g, j * 2, none⟩ := by rw [Addr.add_lit, Nat.zero_add]
 rw [e]
 exact ⟨hc _ _ h1, hc _ _ h2⟩
theorem Sz.of {q : Rat} {d : Nat} (hd0 : 0 < d) (h : (qstr q).size ≤ d) : Sz d q := by
 obtain ⟨s1, s2⟩ := qstr_sizes q
 exact ⟨(dec_len_le hd0).1 (by omega), (dec_len_le hd0).1 (by omega)⟩
end

section
open Go.RowKit NV Go.Maps Go.Sort Go.Shelf
open Go.Lib (decDigits)
def litX (x : MI) : Bool := decide (x.1.size ≤ 12) && decide (x.2.size ≤ 24)
def litB (L : List MI) : Bool := decide (L.length ≤ 16) && L.all litX
theorem litB_yes {L : List MI} (h : litB L = true) : L.length ≤ 16 ∧ ∀ x, x ∈ L → x.1.size ≤ 12 ∧ x.2.size ≤ 24 := by
 unfold litB at h
 rw [Bool.and_eq_true, decide_eq_true_iff, List.all_eq_true] at h
 refine ⟨h.1, fun x hx => ?_⟩
 have h2 := h.2 x hx
 unfold litX at h2
 rw [Bool.and_eq_true, decide_eq_true_iff, decide_eq_true_iff] at h2
 exact h2
theorem litB_ml {L : List MI} (h : litB L = true) : ML2 L := fun x hx => by
 have := (litB_yes h).2 x hx
 omega
def MX (L : List MI) : Prop := ∀ x, x ∈ L → x.1.size ≤ 9223372036854775807 ∧ x.2.size ≤ 9223372036854775807
theorem MX.of {L : List MI} (h : ML2 L) : MX L := fun x hx => by have := h x hx; omega
def DV (W : World) (v : Value) (D : List QI) : Prop := ∃ ao cap, v = .slice ao D.length cap ∧ MR W ao D.length (tZ D) ∧ GoodQ D ∧ sumD D = 0 ∧ litB (tZ D) = true
theorem DV.below {W W' : World} {v : Value} {D : List QI} (h : DV W v D) (hb : Below W.heap.size W W') : DV W' v D := by
 obtain ⟨ao, cap, h1, h2, h3⟩ := h
 exact ⟨ao, cap, h1, h2.below hb, h3⟩
theorem DV.lt {W : World} {v : Value} {D : List QI} (h : DV W v D) : ∀ b, v.ownBlock = some b → b < W.heap.size := by
 obtain ⟨ao, cap, rfl, h2, _, h4, _⟩ := h
 intro b hb
 have h0 : D.length ≠ 0 := fun e => by
  have e2 : D = [] := List.length_eq_zero_iff.1 e
  subst e2
  revert h4
  decide +kernel
 obtain ⟨a, rfl, h5, _⟩ := h2.form h0
 obtain rfl : a.block = b := by simpa [Value.ownBlock] using hb
 exact h5
theorem DV.ch {S : Nat → Prop} {W W' : World} {v : Value} {D : List QI} (h : DV W v D) (hc : Ch S W W') (hS : ∀ b, v.ownBlock = some b → ¬ S b) : DV W' v D := by
 obtain ⟨ao, cap, rfl, h2, h3⟩ := h
 exact ⟨ao, cap, rfl, h2.ch hc (fun a ha _ => hS _ (by rw [ha]; rfl)), h3⟩
theorem infoD : (Tryz.prog.info? 42).map (fun i => (i.zero, i.size, i.bytes)) = some (some (.slice none 0 0), 1, 24) := by kernel_rfl
end

section
open Go.RowKit NV Go.Maps Go.Sort Go.Shelf
open Go.Lib (decDigits)
theorem Sz.zero : Sz 1 0 := ⟨by decide, by decide⟩
theorem sm_sz {g : Nat → Rat} {c : Nat} : ∀ {n : Nat}, (∀ i, i < n → Sz c (g i)) → Sz (n * (c + 1) + 1) (sm g n)
 | 0, _ => Sz.zero.mono (by omega)
 | n + 1, h => by
  have h1 := sm_sz (n := n) (fun i hi => h i (by omega))
  have h2 := Sz.add h1 (h n (by omega))
  exact h2.mono (by rw [Nat.succ_mul]; omega)
theorem lit_sz {L : List MI} (h : litB L = true) (hok : OKM L) : ∀ k, k < L.length → Sz 24 (qZ L k) := fun k hk => by
 have hx : L[k]? = some L[k] := List.getElem?_eq_getElem hk
 obtain ⟨h1, _⟩ := hok.at hx
 have h2 := ((litB_yes h).2 L[k] (List.getElem_mem hk)).2
 rw [h1] at h2
 exact Sz.of (by omega) h2
theorem vQ_sz {L : List MI} (h : litB L = true) (hok : OKM L) (key : List UInt8) : Sz 24 (vQ L key) := by
 unfold vQ
 cases hh : hasZ key L with
 | true =>
  obtain ⟨x, hx, _, e⟩ := val_mem hh
  rw [e]
  have h2 := ((litB_yes h).2 x hx).2
  have h3 := (ratS_ok (hok x hx)).1
  rw [h3] at h2
  exact Sz.of (by omega) h2
 | false => rw [val_no hh, rat0Z]; exact Sz.zero.mono (by omega)
theorem vQ_nonneg {L : List MI} (hpos : ∀ k, k < L.length → 0 < qZ L k) (key : List UInt8) : 0 ≤ vQ L key := by
 unfold vQ
 cases hh : hasZ key L with
 | true =>
  obtain ⟨x, hx, _, e⟩ := val_mem hh
  rw [e]
  obtain ⟨j, hj, rfl⟩ := List.mem_iff_getElem.1 hx
  have := hpos j hj
  unfold qZ at this
  rw [getZ_of (List.getElem?_eq_getElem hj)] at this
  exact Rat.le_of_lt this
 | false => rw [val_no hh, rat0Z]; exact Rat.le_refl
theorem sumE_run {g : Nat → Rat} {n : Nat} (h : sumE g n = 0) : runO (addS g) 0 n = some 1 := by
 unfold sumE at h
 cases hr : runO (addS g) 0 n with
 | none => rw [hr] at h; cases h
 | some s =>
  rw [hr] at h
  have h2 : (if s = 1 then 0 else 15) = 0 := h
  by_cases h3 : s = 1
  ·rw [h3]
  ·rw [if_neg h3] at h2; cases h2
theorem addS_sm {g : Nat → Rat} : ∀ {n : Nat} {s : Rat}, runO (addS g) 0 n = some s → s = sm g n
 | 0, s, h => (Option.some.inj h).symm
 | n + 1, s, h => by
  obtain ⟨t, ht⟩ := runO_some h n (by omega)
  rw [runO_step ht] at h
  obtain ⟨e, _⟩ := okQ_some h
  rw [← e, addS_sm ht]; rfl
theorem sum_one {L : List MI} (h : chkZ L = 0) : sm (qZ L) L.length = 1 := (addS_sm (sumE_run (chk_ok h).2.2.1)).symm
def dD (P Q : List MI) (f : Rat) (i : Nat) : Rat := mx0 (qZ P i - f * vQ Q (kZ (getZ P i)))
end

section
open Go.RowKit NV Go.Maps Go.Sort Go.Shelf
open Go.Lib (decDigits)
theorem ds_cells {W : World} {base n : Nat} {v : Value} {ds : List Value} (h : W.ownsRow base 42 1 v n ds) (hn : n ≠ 0) : ∃ g cl, v = .slice (some ⟨g, 0, none⟩) n cl ∧ g < W.heap.size ∧ ∀ (j : Nat) (u : Value), ds[j]? = some u → W.cell? ⟨g, j, none⟩ = some u := by
 rcases h.2 with ⟨_, h0⟩ | ⟨g, cl, cur, hv, _, hh, _⟩
 ·exact absurd h0 hn
 ·subst hv
  refine ⟨g, cl, rfl, (Array.getElem?_eq_some_iff.1 hh).1, fun j u hu => ?_⟩
  have := h.cells (g := g) rfl j u hu
  rwa [Addr.add_lit, Nat.zero_add] at this
end

section
open Go.RowKit NV Go.Maps Go.Sort Go.Shelf
open Go.Lib (decDigits)
def fewB (L : List MI) : Bool := decide (L.length ≤ 12) && L.all litX
theorem fewB_yes {L : List MI} (h : fewB L = true) : L.length ≤ 12 ∧ ∀ x, x ∈ L → x.1.size ≤ 12 ∧ x.2.size ≤ 24 := by
 unfold fewB at h
 rw [Bool.and_eq_true, decide_eq_true_iff, List.all_eq_true] at h
 refine ⟨h.1, fun x hx => ?_⟩
 have h2 := h.2 x hx
 unfold litX at h2
 rw [Bool.and_eq_true, decide_eq_true_iff, decide_eq_true_iff] at h2
 exact h2
theorem fewB_ml {L : List MI} (h : fewB L = true) : ML2 L := fun x hx => by
 have := (fewB_yes h).2 x hx
 omega
def DF (W : World) (v : Value) (D : List QI) : Prop := ∃ ao cap, v = .slice ao D.length cap ∧ MR W ao D.length (tZ D) ∧ GoodQ D ∧ sumD D = 0 ∧ fewB (tZ D) = true
theorem DF.below {W W' : World} {v : Value} {D : List QI} (h : DF W v D) (hb : Below W.heap.size W W') : DF W' v D := by
 obtain ⟨ao, cap, h1, h2, h3⟩ := h
 exact ⟨ao, cap, h1, h2.below hb, h3⟩
theorem DF.lt {W : World} {v : Value} {D : List QI} (h : DF W v D) : ∀ b, v.ownBlock = some b → b < W.heap.size := by
 obtain ⟨ao, cap, rfl, h2, _, h4, _⟩ := h
 intro b hb
 have h0 : D.length ≠ 0 := fun e => by
  have e2 : D = [] := List.length_eq_zero_iff.1 e
  subst e2
  revert h4
  decide +kernel
 obtain ⟨a, rfl, h5, _⟩ := h2.form h0
 obtain rfl : a.block = b := by simpa [Value.ownBlock] using hb
 exact h5
theorem DF.ch {S : Nat → Prop} {W W' : World} {v : Value} {D : List QI} (h : DF W v D) (hc : Ch S W W') (hS : ∀ b, v.ownBlock = some b → ¬ S b) : DF W' v D := by
 obtain ⟨ao, cap, rfl, h2, h3⟩ := h
 exact ⟨ao, cap, rfl, h2.ch hc (fun a ha _ => hS _ (by rw [ha]; rfl)), h3⟩
theorem chk_df {W : World} {v : Value} {D : List QI} (h : DF W v D) : chkZ (tZ D) = 0 ∧ fewB (tZ D) = true := by
 obtain ⟨_, _, _, _, h3, h4, h5⟩ := h
 exact ⟨(chk_good h3).trans h4, h5⟩
theorem few_lit {L : List MI} (h : fewB L = true) : litB L = true := by
 obtain ⟨h1, h2⟩ := fewB_yes h
 unfold litB
 rw [Bool.and_eq_true, decide_eq_true_iff, List.all_eq_true]
 refine ⟨by omega, fun x hx => ?_⟩
 have := h2 x hx
 unfold litX
 rw [Bool.and_eq_true, decide_eq_true_iff, decide_eq_true_iff]
 exact this
end

end Go.Proofs.YtjpepjooefkbkaaGreatDoor
