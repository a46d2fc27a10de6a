/-
  What two and three distributions have in common: the distance is symmetric, a metric; the factor is the least one. Common denominators: numbers that a natural number makes whole. What collect's list says of a key: the sum of its numbers.
-/
import Derived.Test.YtjpepjooefkbkaaGreatDoorZE
import Derived.WalkSmall
namespace Go.Proofs.YtjpepjooefkbkaaGreatDoor
section
open Go.RowKit NV Go.Maps Go.Sort Go.Shelf
open Go.Lib (decDigits)
def ks (L : List MI) (φ : List UInt8 → Rat) (n : Nat) : Rat := sm (fun i => φ (kZ (getZ L i))) n
theorem sm_lift {g h : Nat → Rat} {c : Rat} {j : Nat} : ∀ {n : Nat}, (∀ i, i < n → g i ≤ h i) → j < n → g j + c ≤ h j → sm g n + c ≤ sm h n
 | 0, _, hj, _ => absurd hj (Nat.not_lt_zero _)
 | n + 1, H, hj, hc => by
  show sm g n + g n + c ≤ sm h n + h n
  rcases Nat.lt_or_ge j n with h1 | h1
  ·have h2 := sm_lift (n := n) (fun i hi => H i (by omega)) h1 hc
   have h3 := H n (by omega)
   grind
  ·obtain rfl : j = n := by omega
   have h2 := sm_le (n := j) (fun i hi => H i (by omega))
   grind
theorem sm_zero_iff {g : Nat → Rat} : ∀ {n : Nat}, (∀ i, i < n → 0 ≤ g i) → (sm g n = 0 ↔ ∀ i, i < n → g i = 0)
 | 0, _ => ⟨fun _ i hi => absurd hi (Nat.not_lt_zero _), fun _ => rfl⟩
 | n + 1, H => by
  have ih := sm_zero_iff (n := n) (fun i hi => H i (by omega))
  have h1 := sm_nonneg (n := n) (fun i hi => H i (by omega))
  have h2 := H n (by omega)
  constructor
  ·intro h
   have h3 : sm g n + g n = 0 := h
   intro i hi
   rcases Nat.lt_or_ge i n with h4 | h4
   ·exact ih.1 (by grind) i h4
   ·obtain rfl : i = n := by omega
    grind
  ·intro h
   show sm g n + g n = 0
   rw [ih.2 (fun i hi => h i (by omega)), h n (by omega)]
   grind
theorem get_has {L : List MI} {j : Nat} (hj : j < L.length) : hasZ (kZ (getZ L j)) L = true := by
 rw [getZ_of (List.getElem?_eq_getElem hj)]
 exact hasZ_mem (List.getElem_mem hj) rfl
theorem has_get {k : List UInt8} {L : List MI} (h : hasZ k L = true) : ∃ j, j < L.length ∧ kZ (getZ L j) = k := by
 obtain ⟨x, hx, e, _⟩ := val_mem h
 obtain ⟨j, hj, rfl⟩ := List.mem_iff_getElem.1 hx
 exact ⟨j, hj, by rw [getZ_of (List.getElem?_eq_getElem hj)]; exact e⟩
theorem srt_get {L : List MI} (h : SrtZ L) {i j : Nat} (hij : i < j) (hj : j < L.length) : kZ (getZ L i) ≠ kZ (getZ L j) := by
 rw [getZ_of (List.getElem?_eq_getElem hj), getZ_of (List.getElem?_eq_getElem (show i < L.length by omega))]
 have h1 := List.pairwise_iff_getElem.1 h i j (by omega) hj hij
 exact fun e => by
  rw [e] at h1
  exact List.lt_irrefl _ h1
theorem vQ_get {L : List MI} (h : SrtZ L) {i : Nat} (hi : i < L.length) : vQ L (kZ (getZ L i)) = qZ L i := by
 obtain ⟨x, hx, e, hv⟩ := val_mem (get_has hi)
 obtain ⟨j, hj, rfl⟩ := List.mem_iff_getElem.1 hx
 rw [← getZ_of (List.getElem?_eq_getElem hj)] at e hv
 unfold vQ qZ
 rw [hv]
 rcases Nat.lt_or_ge i j with h1 | h1
 ·exact absurd e.symm (srt_get h h1 hj)
 ·rcases Nat.lt_or_ge j i with h2 | h2
  ·exact absurd e (srt_get h h2 hi)
  ·obtain rfl : i = j := by omega
   rfl
theorem vQ_out {Q : List MI} {k : List UInt8} (h : hasZ k Q = false) : vQ Q k = 0 := by unfold vQ; rw [val_no h, rat0Z]
theorem inject {P Q : List MI} (hs : SrtZ P) : ∀ {n : Nat} {φ : List UInt8 → Rat}, n ≤ P.length → (∀ k, 0 ≤ φ k) → (∀ k, hasZ k Q = false → φ k = 0) → ks P φ n ≤ ks Q φ Q.length
 | 0, φ, _, h0, _ => sm_nonneg fun i _ => h0 _
 | n + 1, φ, hn, h0, hz => by
  have hne : ∀ i, i < n → kZ (getZ P i) ≠ kZ (getZ P n) := fun i hi => srt_get hs hi (by omega)
  obtain ⟨k, hk⟩ : ∃ k, kZ (getZ P n) = k := ⟨_, rfl⟩
  rw [hk] at hne
  have ih := inject hs (n := n) (φ := fun x => if x = k then 0 else φ x) (by omega)
   (fun x => by
    by_cases h : x = k
    ·show 0 ≤ (if x = k then 0 else φ x)
     rw [if_pos h]; exact Rat.le_refl
    ·show 0 ≤ (if x = k then 0 else φ x)
     rw [if_neg h]; exact h0 x)
   (fun x hx => by
    by_cases h : x = k
    ·exact if_pos h
    ·exact (if_neg h).trans (hz x hx))
  have e1 : ks P (fun x => if x = k then 0 else φ x) n = ks P φ n := sm_eq fun i hi => if_neg (hne i hi)
  rw [e1] at ih
  have hle : ∀ x, (if x = k then 0 else φ x) ≤ φ x := fun x => by
   by_cases h : x = k
   ·rw [if_pos h]; exact h0 x
   ·rw [if_neg h]; exact Rat.le_refl
  show ks P φ n + φ (kZ (getZ P n)) ≤ _
  rw [hk]
  cases hh : hasZ k Q with
  | false =>
   rw [hz k hh]
   have h1 : ks Q (fun x => if x = k then 0 else φ x) Q.length ≤ ks Q φ Q.length := sm_le fun i _ => hle _
   grind
  | true =>
   obtain ⟨j, hj, e⟩ := has_get hh
   have h1 : ks Q (fun x => if x = k then 0 else φ x) Q.length + φ k ≤ ks Q φ Q.length := sm_lift (j := j) (fun i _ => hle _) hj (by
    show (if kZ (getZ Q j) = k then 0 else φ (kZ (getZ Q j))) + φ k ≤ φ (kZ (getZ Q j))
    rw [if_pos e, e, Rat.zero_add]
    exact Rat.le_refl)
   grind
structure DiL (P : List MI) : Prop where
 ok : OKM P
 srt : SrtZ P
 one : sm (qZ P) P.length = 1
 pos : ∀ k, k < P.length → 0 < qZ P k
theorem DiL.of {P : List MI} (h : chkZ P = 0) : DiL P := ⟨(chk_ok h).1, (chk_ok h).2.1, sum_one h, (chk_ok h).2.2.2⟩
theorem DiL.nn {P : List MI} (h : DiL P) (k : List UInt8) : 0 ≤ vQ P k := vQ_nonneg h.pos k
theorem DiL.kone {P : List MI} (h : DiL P) : ks P (vQ P) P.length = 1 := (sm_eq fun _ hi => vQ_get h.srt hi).trans h.one
def dl (P Q : List MI) (f : Rat) : Rat := sm (dD P Q f) P.length
theorem dl_zero {P Q : List MI} {f : Rat} : dl P Q f = 0 ↔ ∀ i, i < P.length → qZ P i ≤ f * vQ Q (kZ (getZ P i)) := by
 unfold dl
 rw [sm_zero_iff (g := dD P Q f) fun _ _ => mx0_nonneg _]
 refine forall_congr' fun i => forall_congr' fun _ => ?_
 show mx0 (qZ P i - f * vQ Q (kZ (getZ P i))) = 0 ↔ _
 unfold mx0
 grind
def fr (P Q : List MI) : Nat → Rat
 | 0 => 0
 | k + 1 => mxQ (fr P Q k) (qZ P k * (vQ Q (kZ (getZ P k)))⁻¹)
theorem fr_nn {P Q : List MI} : ∀ k, 0 ≤ fr P Q k
 | 0 => Rat.le_refl
 | k + 1 => by
  have h := fr_nn (P := P) (Q := Q) k
  show 0 ≤ mxQ _ _
  unfold mxQ
  grind
theorem fr_le {P Q : List MI} {t : Rat} (ht : 0 ≤ t) : ∀ k, fr P Q k ≤ t ↔ ∀ i, i < k → qZ P i * (vQ Q (kZ (getZ P i)))⁻¹ ≤ t
 | 0 => ⟨fun _ i hi => absurd hi (Nat.not_lt_zero _), fun _ => ht⟩
 | k + 1 => by
  have ih := fr_le (P := P) (Q := Q) ht k
  have hst : fr P Q (k + 1) ≤ t ↔ fr P Q k ≤ t ∧ qZ P k * (vQ Q (kZ (getZ P k)))⁻¹ ≤ t := by
   show mxQ _ _ ≤ t ↔ _
   unfold mxQ
   grind
  rw [hst, ih]
  constructor
  ·rintro ⟨h1, h2⟩ i hi
   rcases Nat.lt_or_ge i k with h3 | h3
   ·exact h1 i h3
   ·obtain rfl : i = k := by omega
    exact h2
  ·exact fun h => ⟨fun i hi => h i (by omega), h k (by omega)⟩
theorem fr_sz {P Q : List MI} (hr : ∀ i, i < P.length → Sz 60 (qZ P i * (vQ Q (kZ (getZ P i)))⁻¹)) : ∀ k, k ≤ P.length → Sz 60 (fr P Q k)
 | 0, _ => Sz.zero.mono (by omega)
 | k + 1, h => by
  show Sz 60 (mxQ _ _)
  unfold mxQ
  split
  ·exact fr_sz hr k (by omega)
  ·exact hr k (by omega)
theorem fr_run {P Q : List MI} (hr : ∀ i, i < P.length → Sz 60 (qZ P i * (vQ Q (kZ (getZ P i)))⁻¹)) : ∀ k, k ≤ P.length →
  runO (fun k s => facF s (qZ P k) (vQ Q (kZ (getZ P k)))) 0 k = some (fr P Q k)
 | 0, _ => rfl
 | k + 1, h => by
  rw [runO_step (fr_run hr k (by omega))]
  unfold facF
  rw [okQ_yes ((hr k (by omega)).qok (by omega) (by omega))]
  rfl
theorem quo_le {a b t : Rat} (hb : 0 < b) : a * b⁻¹ ≤ t ↔ a ≤ t * b := by
 have h1 : b * b⁻¹ = 1 := Rat.mul_inv_cancel b (Ne.symm (Rat.ne_of_lt hb))
 have hi : 0 ≤ b⁻¹ := by
  rcases Rat.le_total (a := 0) (b := b⁻¹) with h | h
  ·exact h
  ·have h2 : 0 ≤ b * (-b⁻¹) := Rat.mul_nonneg (Rat.le_of_lt hb) (by grind)
   have h3 : b * (-b⁻¹) = -(b * b⁻¹) := by grind
   rw [h3, h1] at h2
   exact absurd h2 (by decide)
 constructor
 ·intro h
  have h2 := Rat.mul_nonneg (a := t - a * b⁻¹) (b := b) (by grind) (Rat.le_of_lt hb)
  have h3 : (t - a * b⁻¹) * b = t * b - a * (b * b⁻¹) := by grind
  rw [h3, h1] at h2
  grind
 ·intro h
  have h2 := Rat.mul_nonneg (a := t * b - a) (b := b⁻¹) (by grind) hi
  have h3 : (t * b - a) * b⁻¹ = t * (b * b⁻¹) - a * b⁻¹ := by grind
  rw [h3, h1] at h2
  grind
theorem all_has {P Q : List MI} (h : allZ P Q = true) {i : Nat} (hi : i < P.length) : hasZ (kZ (getZ P i)) Q = true := by
 unfold allZ at h
 rw [List.all_eq_true] at h
 rw [getZ_of (List.getElem?_eq_getElem hi)]
 exact h _ (List.getElem_mem hi)
theorem fac_yes {P Q : List MI} (hp : litB P = true) (hq : litB Q = true) (hcp : chkZ P = 0) (hcq : chkZ Q = 0) (h : allZ P Q = true) :
  ∃ r, facE P Q = (qstr r, true, 0) ∧ Sz 60 r ∧ 0 ≤ r ∧ dl P Q r = 0 ∧ 1 ≤ r ∧ ∀ f, 0 ≤ f → (dl P Q f = 0 ↔ r ≤ f) := by
 have dp := DiL.of hcp
 have dq := DiL.of hcq
 have hr : ∀ i, i < P.length → Sz 60 (qZ P i * (vQ Q (kZ (getZ P i)))⁻¹) := fun i hi => (Sz.mul (lit_sz hp dp.ok i hi) (Sz.inv (vQ_sz hq dq.ok _))).mono (by omega)
 have hb : ∀ i, i < P.length → 0 < vQ Q (kZ (getZ P i)) := fun i hi => by
  obtain ⟨j, hj, e⟩ := has_get (all_has h hi)
  rw [← e, vQ_get dq.srt hj]
  exact dq.pos j hj
 have hiff : ∀ f, 0 ≤ f → (dl P Q f = 0 ↔ fr P Q P.length ≤ f) := fun f hf => by
  rw [dl_zero, fr_le hf]
  exact forall_congr' fun i => ⟨fun h1 hi => (quo_le (hb i hi)).2 (h1 hi), fun h1 hi => (quo_le (hb i hi)).1 (h1 hi)⟩
 have h0 := (hiff _ (fr_nn _)).2 Rat.le_refl
 refine ⟨fr P Q P.length, ?_, fr_sz hr _ (Nat.le_refl _), fr_nn _, h0, ?_, hiff⟩
 ·unfold facE cmpR cmpO
  rw [if_neg (by unfold bE; rw [hcp, hcq]; simp), if_pos h, fr_run hr _ (Nat.le_refl _)]
  rfl
 ·have h1 := fr_nn (P := P) (Q := Q) P.length
  have h2 := dl_zero.1 h0
  generalize fr P Q P.length = r at *
  have h3 : sm (qZ P) P.length ≤ r * ks P (vQ Q) P.length := by
   unfold ks
   rw [← sm_mul]
   exact sm_le fun i hi => h2 i hi
  have h4 := inject dp.srt (Q := Q) (Nat.le_refl _) dq.nn (fun k => vQ_out)
  rw [dq.kone] at h4
  rw [dp.one] at h3
  have h5 := Rat.mul_nonneg (a := r) (b := 1 - ks P (vQ Q) P.length) h1 (by grind)
  grind
section
variable {P : Program} {ops : Array Oper} {Q : Exit → Act → World → Prop} {md : Region.Mode} {S : World → Prop}
end
end

section
open Go.RowKit NV Go.Maps Go.Sort Go.Shelf
open Go.Lib (decDigits)
def Zd (D : Nat) (q : Rat) : Prop := ∃ z : Int, q * (D : Rat) = (z : Rat)
theorem Zd.zero (D : Nat) : Zd D 0 := ⟨0, by rw [Rat.zero_mul]; rfl⟩
theorem Zd.add {D : Nat} {p q : Rat} (hp : Zd D p) (hq : Zd D q) : Zd D (p + q) := by
 obtain ⟨a, ha⟩ := hp
 obtain ⟨b, hb⟩ := hq
 exact ⟨a + b, by rw [Rat.add_mul, ha, hb, Rat.intCast_add]⟩
theorem Zd.neg {D : Nat} {p : Rat} (hp : Zd D p) : Zd D (-p) := by
 obtain ⟨a, ha⟩ := hp
 exact ⟨-a, by rw [Rat.neg_mul, ha, Rat.intCast_neg]⟩
theorem Zd.sub {D : Nat} {p q : Rat} (hp : Zd D p) (hq : Zd D q) : Zd D (p - q) := by
 rw [Rat.sub_eq_add_neg]; exact hp.add hq.neg
theorem Zd.mul {D E : Nat} {p q : Rat} (hp : Zd D p) (hq : Zd E q) : Zd (D * E) (p * q) := by
 obtain ⟨a, ha⟩ := hp
 obtain ⟨b, hb⟩ := hq
 refine ⟨a * b, ?_⟩
 rw [Rat.intCast_mul, ← ha, ← hb, Rat.natCast_mul]
 grind
theorem mul_den (q : Rat) : q * (q.den : Rat) = (q.num : Rat) := by
 have h1 : q = (q.num : Rat) / ((q.den : Int) : Rat) := by
  rw [← Rat.divInt_eq_div, Rat.num_divInt_den]
 have h2 : (q.den : Rat) ≠ 0 := fun e => q.den_nz (Rat.natCast_inj.1 (e.trans rfl))
 have h3 : (q.den : Rat) * (q.den : Rat)⁻¹ = 1 := Rat.mul_inv_cancel _ h2
 have h4 : q = (q.num : Rat) * (q.den : Rat)⁻¹ := by rw [← Rat.div_def]; exact h1
 have h5 : (q.num : Rat) * (q.den : Rat)⁻¹ * (q.den : Rat) = (q.num : Rat) * ((q.den : Rat) * (q.den : Rat)⁻¹) := by grind
 rw [← h4, h3, Rat.mul_one] at h5
 exact h5
theorem Zd.den (q : Rat) : Zd q.den q := ⟨q.num, mul_den q⟩
theorem Zd.mx0 {D : Nat} {p : Rat} (hp : Zd D p) : Zd D (mx0 p) := by
 unfold Go.Proofs.YtjpepjooefkbkaaGreatDoor.mx0
 split
 ·exact hp
 ·exact Zd.zero D
theorem Zd.sm {D : Nat} {g : Nat → Rat} : ∀ {n : Nat}, (∀ i, i < n → Zd D (g i)) → Zd D (sm g n)
 | 0, _ => Zd.zero D
 | n + 1, h => (Zd.sm (n := n) fun i hi => h i (by omega)).add (h n (by omega))
theorem Zd.dvd {D : Nat} {q : Rat} (h : Zd D q) : q.den ∣ D := by
 obtain ⟨z, hz⟩ := h
 have h1 : (z * q.den : Int) = q.num * D := by
  have h2 : ((z * q.den : Int) : Rat) = ((q.num * D : Int) : Rat) := by
   have h3 := mul_den q
   rw [Rat.intCast_mul, Rat.intCast_mul, ← hz, ← h3, Rat.intCast_natCast, Rat.intCast_natCast]
   grind
  exact Rat.intCast_inj.1 h2
 have h4 : q.den ∣ q.num.natAbs * D := by
  have h5 : (z * q.den : Int).natAbs = (q.num * D : Int).natAbs := by rw [h1]
  rw [Int.natAbs_mul, Int.natAbs_mul, Int.natAbs_natCast, Int.natAbs_natCast] at h5
  exact ⟨z.natAbs, by rw [← h5, Nat.mul_comm]⟩
 exact (Nat.Coprime.symm q.reduced).dvd_of_dvd_mul_left h4
theorem Zd.sz {D k : Nat} {q : Rat} (h : Zd D q) (h0 : 0 ≤ q) (h1 : q ≤ 1) (hD0 : 0 < D) (hD : D < 10 ^ k) : Sz k q := by
 have hden := Nat.le_of_dvd hD0 h.dvd
 have hn : q.num ≤ q.den := by
  have h3 := mul_den q
  have h4 : (0 : Rat) ≤ (q.den : Rat) := by
   have : ((0 : Int) : Rat) ≤ ((q.den : Int) : Rat) := Rat.intCast_le_intCast.2 (by omega)
   exact this
  have h5 := Rat.mul_nonneg (a := 1 - q) (b := (q.den : Rat)) (by grind) h4
  have h6 : (q.num : Rat) ≤ ((q.den : Int) : Rat) := by
   rw [← h3]
   have h7 : (1 - q) * (q.den : Rat) = (q.den : Rat) - q * q.den := by grind
   rw [h7] at h5
   show q * (q.den : Rat) ≤ (q.den : Rat)
   grind
  exact Rat.intCast_le_intCast.1 h6
 have hnn : 0 ≤ q.num := Rat.num_nonneg.2 h0
 exact ⟨by unfold tp; omega, by omega⟩
end

section
open Go.RowKit NV Go.Maps Go.Sort Go.Shelf
open Go.Lib (decDigits)
def kv (L : List MI) (k : List UInt8) (n : Nat) : Rat := sm (fun i => if kZ (getZ L i) = k then qZ L i else 0) n
end

end Go.Proofs.YtjpepjooefkbkaaGreatDoor
