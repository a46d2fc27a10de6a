/-
  What two and three distributions have in common: the distance is symmetric, a metric; the factor is the least one. Common denominators: numbers that a natural number makes whole. What collect's list says of a key: the sum of its numbers.
-/
import Derived.Test.YtkponlbpgmnpgaaGreatDoorZE
import Derived.WalkSmall
namespace Go.Proofs.YtkponlbpgmnpgaaGreatDoor
section
open Go.RowKit NV Go.Maps Go.Sort Go.Shelf
open Go.Lib (decDigits)
def ks (L : List MI) (φ : List UInt8 → Rat) (n : Nat) : Rat := sm (fun i => φ (kZ (getZ L i))) n
theorem sm_lift {g h : Nat → Rat} {c : Rat} {j : Nat} : ∀ {n : Nat}, (∀ i, i < n → g i ≤ h i) → j < n → g j + c ≤ h j → sm g n + c ≤ sm h n
 | 0, _, hj, _ => absurd hj (Nat.not_lt_zero _)
 | n + 1, H, hj, hc => by
  show sm g n + g n + c ≤ sm h n + h n
  rcases Nat.lt_or_ge j n with h1 | h1
  ·have h2 := sm_lift (n := n) (fun i hi => H i (by omega)) h1 hc
   have h3 := H n (by omega)
   grind
  ·obtain rfl : j = n := by omega
   have h2 := sm_le (n := j) (fun i hi => H i (by omega))
   grind
theorem get_has {L : List MI} {j : Nat} (hj : j < L.length) : hasZ (kZ (getZ L j)) L = true := by
 rw [getZ_of (List.getElem?_eq_getElem hj)]
 exact hasZ_mem (List.getElem_mem hj) rfl
theorem has_get {k : List UInt8} {L : List MI} (h : hasZ k L = true) : ∃ j, j < L.length ∧ kZ (getZ L j) = k := by
 obtain ⟨x, hx, e, _⟩ := val_mem h
 obtain ⟨j, hj, rfl⟩ := List.mem_iff_getElem.1 hx
 exact ⟨j, hj, by rw [getZ_of (List.getElem?_eq_getElem hj)]; exact e⟩
theorem srt_get {L : List MI} (h : SrtZ L) {i j : Nat} (hij : i < j) (hj : j < L.length) : kZ (getZ L i) ≠ kZ (getZ L j) := by
 rw [getZ_of (List.getElem?_eq_getElem hj), getZ_of (List.getElem?_eq_getElem (show i < L.length by omega))]
 have h1 := List.pairwise_iff_getElem.1 h i j (by omega) hj hij
 exact fun e => by
  rw [e] at h1
  exact List.lt_irrefl _ h1
theorem vQ_get {L : List MI} (h : SrtZ L) {i : Nat} (hi : i < L.length) : vQ L (kZ (getZ L i)) = qZ L i := by
 obtain ⟨x, hx, e, hv⟩ := val_mem (get_has hi)
 obtain ⟨j, hj, rfl⟩ := List.mem_iff_getElem.1 hx
 rw [← getZ_of (List.getElem?_eq_getElem hj)] at e hv
 unfold vQ qZ
 rw [hv]
 rcases Nat.lt_or_ge i j with h1 | h1
 ·exact absurd e.symm (srt_get h h1 hj)
 ·rcases Nat.lt_or_ge j i with h2 | h2
  ·exact absurd e (srt_get h h2 hi)
  ·obtain rfl : i = j := by omega
   rfl
theorem vQ_out {Q : List MI} {k : List UInt8} (h : hasZ k Q = false) : vQ Q k = 0 := by unfold vQ; rw [val_no h, rat0Z]
theorem inject {P Q : List MI} (hs : SrtZ P) : ∀ {n : Nat} {φ : List UInt8 → Rat}, n ≤ P.length → (∀ k, 0 ≤ φ k) → (∀ k, hasZ k Q = false → φ k = 0) → ks P φ n ≤ ks Q φ Q.length
 | 0, φ, _, h0, _ => sm_nonneg fun i _ => h0 _
 | n + 1, φ, hn, h0, hz => by
  have hne : ∀ i, i < n → kZ (getZ P i) ≠ kZ (getZ P n) := fun i hi => srt_get hs hi (by omega)
  obtain ⟨k, hk⟩ : ∃ k, kZ (getZ P n) = k := ⟨_, rfl⟩
  rw [hk] at hne
  have ih := inject hs (n := n) (φ := fun x => if x = k then 0 else φ x) (by omega)
   (fun x => by
    by_cases h : x = k
    ·show 0 ≤ (if x = k then 0 else φ x)
     rw [if_pos h]; exact Rat.le_refl
    ·show 0 ≤ (if x = k then 0 else φ x)
     rw [if_neg h]; exact h0 x)
   (fun x hx => by
    by_cases h : x = k
    ·exact if_pos h
    ·exact (if_neg h).trans (hz x hx))
  have e1 : ks P (fun x => if x = k then 0 else φ x) n = ks P φ n := sm_eq fun i hi => if_neg (hne i hi)
  rw [e1] at ih
  have hle : ∀ x, (if x = k then 0 else φ x) ≤ φ x := fun x => by
   by_cases h : x = k
   ·rw [if_pos h]; exact h0 x
   ·rw [if_neg h]; exact Rat.le_refl
  show ks P φ n + φ (kZ (getZ P n)) ≤ _
  rw [hk]
  cases hh : hasZ k Q with
  | false =>
   rw [hz k hh]
   have h1 : ks Q (fun x => if x = k then 0 else φ x) Q.length ≤ ks Q φ Q.length := sm_le fun i _ => hle _
   grind
  | true =>
   obtain ⟨j, hj, e⟩ := has_get hh
   have h1 : ks Q (fun x => if x = k then 0 else φ x) Q.length + φ k ≤ ks Q φ Q.length := sm_lift (j := j) (fun i _ => hle _) hj (by
    show (if kZ (getZ Q j) = k then 0 else φ (kZ (getZ Q j))) + φ k ≤ φ (kZ (getZ Q j))
    rw [if_pos e, e, Rat.zero_add]
    exact Rat.le_refl)
   grind
structure DiL (P : List MI) : Prop where
 ok : OKM P
 srt : SrtZ P
 one : sm (qZ P) P.length = 1
 pos : ∀ k, k < P.length → 0 < qZ P k
theorem DiL.of {P : List MI} (h : chkZ P = 0) : DiL P := ⟨(chk_ok h).1, (chk_ok h).2.1, sum_one h, (chk_ok h).2.2.2⟩
theorem DiL.nn {P : List MI} (h : DiL P) (k : List UInt8) : 0 ≤ vQ P k := vQ_nonneg h.pos k
theorem DiL.kone {P : List MI} (h : DiL P) : ks P (vQ P) P.length = 1 := (sm_eq fun _ hi => vQ_get h.srt hi).trans h.one
def dl (P Q : List MI) (f : Rat) : Rat := sm (dD P Q f) P.length
theorem dl_le1 {P Q : List MI} {f : Rat} (hp : DiL P) (hq : DiL Q) (hf : 0 ≤ f) : dl P Q f ≤ 1 :=
 sets_one hf (fun i hi => Rat.le_of_lt (hp.pos i hi)) (fun _ _ => hq.nn _) hp.one
def fr (P Q : List MI) : Nat → Rat
 | 0 => 0
 | k + 1 => mxQ (fr P Q k) (qZ P k * (vQ Q (kZ (getZ P k)))⁻¹)
theorem dlt_run2 {P Q : List MI} {f : Rat} (hp : litB P = true) (hq : litB Q = true) (hop : OKM P) (hoq : OKM Q) (hf : Sz 60 f) :
  dltO P Q f = some (dl P Q f) ∧ Sz 1800 (dl P Q f) := by
 have h16 := (litB_yes hp).1
 have hd : ∀ i, i < P.length → Sz 109 (dD P Q f i) := fun i hi => by
  have h1 := lit_sz hp hop i hi
  have h2 := Sz.mul hf (vQ_sz hq hoq (kZ (getZ P i)))
  exact mx0_sz (by omega) (Sz.sub h1 h2)
 have hs : ∀ n, n ≤ P.length → Sz (n * 110 + 1) (sm (dD P Q f) n) := fun n hn => sm_sz (c := 109) (fun i hi => hd i (by omega))
 refine ⟨?_, (hs _ (Nat.le_refl _)).mono (by omega)⟩
 unfold dltO dl
 refine runO_sm fun k hk => ?_
 unfold dltF exO
 have h1 := lit_sz hp hop k hk
 have h2 := Sz.mul hf (vQ_sz hq hoq (kZ (getZ P k)))
 have h3 := Sz.sub h1 h2
 rw [okQ_yes (h2.qok (by omega) (by omega))]
 show (((okQ (qZ P k + -(f * vQ Q (kZ (getZ P k))))).map mx0).bind fun d => okQ (sm (dD P Q f) k + d)) = _
 rw [← Rat.sub_eq_add_neg, okQ_yes (h3.qok (by omega) (by omega))]
 show okQ (sm (dD P Q f) k + dD P Q f k) = _
 exact okQ_yes ((hs (k + 1) (by omega)).qok (by omega) (by omega))
theorem dlt_is2 {P Q : List MI} {f : Rat} (hp : litB P = true) (hq : litB Q = true) (hcp : chkZ P = 0) (hcq : chkZ Q = 0) (hf : Sz 60 f) (hf0 : 0 ≤ f) : dltE P Q (qstr f) = (qstr (dl P Q f), 0) := by
 have ho := hf.qok (by omega) (by omega)
 unfold dltE
 rw [if_neg (by unfold bE; rw [hcp, hcq]; simp), if_neg (by rw [eS_q ho hf0]; simp), ratS_q, (dlt_run2 hp hq (chk_ok hcp).1 (chk_ok hcq).1 hf).1]
 rfl
section
variable {P : Program} {ops : Array Oper} {Q : Exit → Act → World → Prop} {md : Region.Mode} {S : World → Prop}
end
end

section
open Go.RowKit NV Go.Maps Go.Sort Go.Shelf
open Go.Lib (decDigits)
def Zd (D : Nat) (q : Rat) : Prop := ∃ z : Int, q * (D : Rat) = (z : Rat)
theorem Zd.zero (D : Nat) : Zd D 0 := ⟨0, by rw [Rat.zero_mul]; rfl⟩
theorem Zd.add {D : Nat} {p q : Rat} (hp : Zd D p) (hq : Zd D q) : Zd D (p + q) := by
 obtain ⟨a, ha⟩ := hp
 obtain ⟨b, hb⟩ := hq
 exact ⟨a + b, by rw [Rat.add_mul, ha, hb, Rat.intCast_add]⟩
theorem Zd.neg {D : Nat} {p : Rat} (hp : Zd D p) : Zd D (-p) := by
 obtain ⟨a, ha⟩ := hp
 exact ⟨-a, by rw [Rat.neg_mul, ha, Rat.intCast_neg]⟩
theorem Zd.sub {D : Nat} {p q : Rat} (hp : Zd D p) (hq : Zd D q) : Zd D (p - q) := by
 rw [Rat.sub_eq_add_neg]; exact hp.add hq.neg
theorem Zd.mul {D E : Nat} {p q : Rat} (hp : Zd D p) (hq : Zd E q) : Zd (D * E) (p * q) := by
 obtain ⟨a, ha⟩ := hp
 obtain ⟨b, hb⟩ := hq
 refine ⟨a * b, ?_⟩
 rw [Rat.intCast_mul, ← ha, ← hb, Rat.natCast_mul]
 grind
theorem Zd.up {D E : Nat} {p : Rat} (hp : Zd D p) (h : D ∣ E) : Zd E p := by
 obtain ⟨k, rfl⟩ := h
 obtain ⟨a, ha⟩ := hp
 refine ⟨a * k, ?_⟩
 rw [Rat.intCast_mul, ← ha, Rat.natCast_mul, Rat.intCast_natCast]
 grind
theorem mul_den (q : Rat) : q * (q.den : Rat) = (q.num : Rat) := by
 have h1 : q = (q.num : Rat) / ((q.den : Int) : Rat) := by
  rw [← Rat.divInt_eq_div, Rat.num_divInt_den]
 have h2 : (q.den : Rat) ≠ 0 := fun e => q.den_nz (Rat.natCast_inj.1 (e.trans rfl))
 have h3 : (q.den : Rat) * (q.den : Rat)⁻¹ = 1 := Rat.mul_inv_cancel _ h2
 have h4 : q = (q.num : Rat) * (q.den : Rat)⁻¹ := by rw [← Rat.div_def]; exact h1
 have h5 : (q.num : Rat) * (q.den : Rat)⁻¹ * (q.den : Rat) = (q.num : Rat) * ((q.den : Rat) * (q.den : Rat)⁻¹) := by grind
 rw [← h4, h3, Rat.mul_one] at h5
 exact h5
theorem Zd.den (q : Rat) : Zd q.den q := ⟨q.num, mul_den q⟩
theorem Zd.mx0 {D : Nat} {p : Rat} (hp : Zd D p) : Zd D (mx0 p) := by
 unfold Go.Proofs.YtkponlbpgmnpgaaGreatDoor.mx0
 split
 ·exact hp
 ·exact Zd.zero D
theorem Zd.sm {D : Nat} {g : Nat → Rat} : ∀ {n : Nat}, (∀ i, i < n → Zd D (g i)) → Zd D (sm g n)
 | 0, _ => Zd.zero D
 | n + 1, h => (Zd.sm (n := n) fun i hi => h i (by omega)).add (h n (by omega))
theorem Zd.dvd {D : Nat} {q : Rat} (h : Zd D q) : q.den ∣ D := by
 obtain ⟨z, hz⟩ := h
 have h1 : (z * q.den : Int) = q.num * D := by
  have h2 : ((z * q.den : Int) : Rat) = ((q.num * D : Int) : Rat) := by
   have h3 := mul_den q
   rw [Rat.intCast_mul, Rat.intCast_mul, ← hz, ← h3, Rat.intCast_natCast, Rat.intCast_natCast]
   grind
  exact Rat.intCast_inj.1 h2
 have h4 : q.den ∣ q.num.natAbs * D := by
  have h5 : (z * q.den : Int).natAbs = (q.num * D : Int).natAbs := by rw [h1]
  rw [Int.natAbs_mul, Int.natAbs_mul, Int.natAbs_natCast, Int.natAbs_natCast] at h5
  exact ⟨z.natAbs, by rw [← h5, Nat.mul_comm]⟩
 exact (Nat.Coprime.symm q.reduced).dvd_of_dvd_mul_left h4
theorem Zd.sz {D k : Nat} {q : Rat} (h : Zd D q) (h0 : 0 ≤ q) (h1 : q ≤ 1) (hD0 : 0 < D) (hD : D < 10 ^ k) : Sz k q := by
 have hden := Nat.le_of_dvd hD0 h.dvd
 have hn : q.num ≤ q.den := by
  have h3 := mul_den q
  have h4 : (0 : Rat) ≤ (q.den : Rat) := by
   have : ((0 : Int) : Rat) ≤ ((q.den : Int) : Rat) := Rat.intCast_le_intCast.2 (by omega)
   exact this
  have h5 := Rat.mul_nonneg (a := 1 - q) (b := (q.den : Rat)) (by grind) h4
  have h6 : (q.num : Rat) ≤ ((q.den : Int) : Rat) := by
   rw [← h3]
   have h7 : (1 - q) * (q.den : Rat) = (q.den : Rat) - q * q.den := by grind
   rw [h7] at h5
   show q * (q.den : Rat) ≤ (q.den : Rat)
   grind
  exact Rat.intCast_le_intCast.1 h6
 have hnn : 0 ≤ q.num := Rat.num_nonneg.2 h0
 exact ⟨by unfold tp; omega, by omega⟩
end

section
open Go.RowKit NV Go.Maps Go.Sort Go.Shelf
open Go.Lib (decDigits)
def kv (L : List MI) (k : List UInt8) (n : Nat) : Rat := sm (fun i => if kZ (getZ L i) = k then qZ L i else 0) n
end

end Go.Proofs.YtkponlbpgmnpgaaGreatDoor
