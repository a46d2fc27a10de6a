/-
  What two and three distributions have in common: the distance is symmetric, a metric; the factor is the least one. Common denominators: numbers that a natural number makes whole. What collect's list says of a key: the sum of its numbers. Package dist: fold to a list, scaled. What Mix's list says of a key. Delta of mixtures is at most the mixture of the Deltas. The common denominator of lists; a mixture of light distributions is a distribution. What Delta returns of two distributions with common denominators.
-/
import Derived.Test.YtkponlbpgmnpgaaGreatDoorZE
import Derived.WalkSmall
import Derived.Test.YtkponlbpgmnpgaaGreatDoorZC
namespace Go.Proofs.YtkponlbpgmnpgaaGreatDoor
section
open Go.RowKit NV Go.Maps Go.Sort Go.Shelf
open Go.Lib (decDigits)
def ks (L : List MI) (φ : List UInt8 → Rat) (n : Nat) : Rat := sm (fun i => φ (kZ (getZ L i))) n
theorem sm_lift {g h : Nat → Rat} {c : Rat} {j : Nat} : ∀ {n : Nat}, (∀ i, i < n → g i ≤ h i) → j < n → g j + c ≤ h j → sm g n + c ≤ sm h n
 | 0, _, hj, _ => absurd hj (Nat.not_lt_zero _)
 | n + 1, H, hj, hc => by
  show sm g n + g n + c ≤ sm h n + h n
  rcases Nat.lt_or_ge j n with h1 | h1
  ·have h2 := sm_lift (n := n) (fun i hi => H i (by omega)) h1 hc
   have h3 := H n (by omega)
   grind
  ·obtain rfl : j = n := by omega
   have h2 := sm_le (n := j) (fun i hi => H i (by omega))
   grind
theorem get_has {L : List MI} {j : Nat} (hj : j < L.length) : hasZ (kZ (getZ L j)) L = true := by
 rw [getZ_of (List.getElem?_eq_getElem hj)]
 exact hasZ_mem (List.getElem_mem hj) rfl
theorem has_get {k : List UInt8} {L : List MI} (h : hasZ k L = true) : ∃ j, j < L.length ∧ kZ (getZ L j) = k := by
 obtain ⟨x, hx, e, _⟩ := val_mem h
 obtain ⟨j, hj, rfl⟩ := List.mem_iff_getElem.1 hx
 exact ⟨j, hj, by rw [getZ_of (List.getElem?_eq_getElem hj)]; exact e⟩
theorem srt_get {L : List MI} (h : SrtZ L) {i j : Nat} (hij : i < j) (hj : j < L.length) : kZ (getZ L i) ≠ kZ (getZ L j) := by
 rw [getZ_of (List.getElem?_eq_getElem hj), getZ_of (List.getElem?_eq_getElem (show i < L.length by omega))]
 have h1 := List.pairwise_iff_getElem.1 h i j (by omega) hj hij
 exact fun e => by
  rw [e] at h1
  exact List.lt_irrefl _ h1
theorem vQ_get {L : List MI} (h : SrtZ L) {i : Nat} (hi : i < L.length) : vQ L (kZ (getZ L i)) = qZ L i := by
 obtain ⟨x, hx, e, hv⟩ := val_mem (get_has hi)
 obtain ⟨j, hj, rfl⟩ := List.mem_iff_getElem.1 hx
 rw [← getZ_of (List.getElem?_eq_getElem hj)] at e hv
 unfold vQ qZ
 rw [hv]
 rcases Nat.lt_or_ge i j with h1 | h1
 ·exact absurd e.symm (srt_get h h1 hj)
 ·rcases Nat.lt_or_ge j i with h2 | h2
  ·exact absurd e (srt_get h h2 hi)
  ·obtain rfl : i = j := by omega
   rfl
theorem vQ_out {Q : List MI} {k : List UInt8} (h : hasZ k Q = false) : vQ Q k = 0 := by unfold vQ; rw [val_no h, rat0Z]
theorem inject {P Q : List MI} (hs : SrtZ P) : ∀ {n : Nat} {φ : List UInt8 → Rat}, n ≤ P.length → (∀ k, 0 ≤ φ k) → (∀ k, hasZ k Q = false → φ k = 0) → ks P φ n ≤ ks Q φ Q.length
 | 0, φ, _, h0, _ => sm_nonneg fun i _ => h0 _
 | n + 1, φ, hn, h0, hz => by
  have hne : ∀ i, i < n → kZ (getZ P i) ≠ kZ (getZ P n) := fun i hi => srt_get hs hi (by omega)
  obtain ⟨k, hk⟩ : ∃ k, kZ (getZ P n) = k := ⟨_, rfl⟩
  rw [hk] at hne
  have ih := inject hs (n := n) (φ := fun x => if x = k then 0 else φ x) (by omega)
   (fun x => by
    by_cases h : x = k
    ·show 0 ≤ (if x = k then 0 else φ x)
     rw [if_pos h]; exact Rat.le_refl
    ·show 0 ≤ (if x = k then 0 else φ x)
     rw [if_neg h]; exact h0 x)
   (fun x hx => by
    by_cases h : x = k
    ·exact if_pos h
    ·exact (if_neg h).trans (hz x hx))
  have e1 : ks P (fun x => if x = k then 0 else φ x) n = ks P φ n := sm_eq fun i hi => if_neg (hne i hi)
  rw [e1] at ih
  have hle : ∀ x, (if x = k then 0 else φ x) ≤ φ x := fun x => by
   by_cases h : x = k
   ·rw [if_pos h]; exact h0 x
   ·rw [if_neg h]; exact Rat.le_refl
  show ks P φ n + φ (kZ (getZ P n)) ≤ _
  rw [hk]
  cases hh : hasZ k Q with
  | false =>
   rw [hz k hh]
   have h1 : ks Q (fun x => if x = k then 0 else φ x) Q.length ≤ ks Q φ Q.length := sm_le fun i _ => hle _
   grind
  | true =>
   obtain ⟨j, hj, e⟩ := has_get hh
   have h1 : ks Q (fun x => if x = k then 0 else φ x) Q.length + φ k ≤ ks Q φ Q.length := sm_lift (j := j) (fun i _ => hle _) hj (by
    show (if kZ (getZ Q j) = k then 0 else φ (kZ (getZ Q j))) + φ k ≤ φ (kZ (getZ Q j))
    rw [if_pos e, e, Rat.zero_add]
    exact Rat.le_refl)
   grind
structure DiL (P : List MI) : Prop where
 ok : OKM P
 srt : SrtZ P
 one : sm (qZ P) P.length = 1
 pos : ∀ k, k < P.length → 0 < qZ P k
theorem DiL.of {P : List MI} (h : chkZ P = 0) : DiL P := ⟨(chk_ok h).1, (chk_ok h).2.1, sum_one h, (chk_ok h).2.2.2⟩
theorem DiL.nn {P : List MI} (h : DiL P) (k : List UInt8) : 0 ≤ vQ P k := vQ_nonneg h.pos k
theorem DiL.kone {P : List MI} (h : DiL P) : ks P (vQ P) P.length = 1 := (sm_eq fun _ hi => vQ_get h.srt hi).trans h.one
def dl (P Q : List MI) (f : Rat) : Rat := sm (dD P Q f) P.length
theorem dl_ks {P Q : List MI} {f : Rat} (h : DiL P) : dl P Q f = ks P (fun k => mx0 (vQ P k - f * vQ Q k)) P.length :=
 sm_eq fun i hi => by
  show mx0 (qZ P i - _) = mx0 (vQ P (kZ (getZ P i)) - _)
  rw [vQ_get h.srt hi]
theorem dl_nn {P Q : List MI} {f : Rat} : 0 ≤ dl P Q f := sm_nonneg fun _ _ => mx0_nonneg _
theorem dl_le1 {P Q : List MI} {f : Rat} (hp : DiL P) (hq : DiL Q) (hf : 0 ≤ f) : dl P Q f ≤ 1 :=
 sets_one hf (fun i hi => Rat.le_of_lt (hp.pos i hi)) (fun _ _ => hq.nn _) hp.one
def fr (P Q : List MI) : Nat → Rat
 | 0 => 0
 | k + 1 => mxQ (fr P Q k) (qZ P k * (vQ Q (kZ (getZ P k)))⁻¹)
theorem dlt_run2 {P Q : List MI} {f : Rat} (hp : litB P = true) (hq : litB Q = true) (hop : OKM P) (hoq : OKM Q) (hf : Sz 60 f) :
  dltO P Q f = some (dl P Q f) ∧ Sz 1800 (dl P Q f) := by
 have h16 := (litB_yes hp).1
 have hd : ∀ i, i < P.length → Sz 109 (dD P Q f i) := fun i hi => by
  have h1 := lit_sz hp hop i hi
  have h2 := Sz.mul hf (vQ_sz hq hoq (kZ (getZ P i)))
  exact mx0_sz (by omega) (Sz.sub h1 h2)
 have hs : ∀ n, n ≤ P.length → Sz (n * 110 + 1) (sm (dD P Q f) n) := fun n hn => sm_sz (c := 109) (fun i hi => hd i (by omega))
 refine ⟨?_, (hs _ (Nat.le_refl _)).mono (by omega)⟩
 unfold dltO dl
 refine runO_sm fun k hk => ?_
 unfold dltF exO
 have h1 := lit_sz hp hop k hk
 have h2 := Sz.mul hf (vQ_sz hq hoq (kZ (getZ P k)))
 have h3 := Sz.sub h1 h2
 rw [okQ_yes (h2.qok (by omega) (by omega))]
 show (((okQ (qZ P k + -(f * vQ Q (kZ (getZ P k))))).map mx0).bind fun d => okQ (sm (dD P Q f) k + d)) = _
 rw [← Rat.sub_eq_add_neg, okQ_yes (h3.qok (by omega) (by omega))]
 show okQ (sm (dD P Q f) k + dD P Q f k) = _
 exact okQ_yes ((hs (k + 1) (by omega)).qok (by omega) (by omega))
theorem dlt_is2 {P Q : List MI} {f : Rat} (hp : litB P = true) (hq : litB Q = true) (hcp : chkZ P = 0) (hcq : chkZ Q = 0) (hf : Sz 60 f) (hf0 : 0 ≤ f) : dltE P Q (qstr f) = (qstr (dl P Q f), 0) := by
 have ho := hf.qok (by omega) (by omega)
 unfold dltE
 rw [if_neg (by unfold bE; rw [hcp, hcq]; simp), if_neg (by rw [eS_q ho hf0]; simp), ratS_q, (dlt_run2 hp hq (chk_ok hcp).1 (chk_ok hcq).1 hf).1]
 rfl
section
variable {P : Program} {ops : Array Oper} {Q : Exit → Act → World → Prop} {md : Region.Mode} {S : World → Prop}
theorem wpHz_takeG {i : Nat} {oi : Oper} {v : Value} {d fuel : Nat} {listed : Array Bool} {a : Act} {w : World} (hi : ops[i]? = some oi) (hd : oi.dst = some d)
  (hs : Region.noSelect ops = true) (hf : Region.free md ops listed i = true) (hr : (Region.ready md ops listed).contains i = true)
  (hQ : ∀ c a w, Q (.panic c) (a.put (some d) v) w → Q (.panic c) a w) (hg : Region.wanted oi (yielded ops a.tmps) = true) (hy : ∀ w, S w → (execOp a.eval oi).run P w = .ok (.value v) w) (hS : S w)
  (h : wpAnyH P md ops Q S fuel (listed.setIfInBounds i true) (a.put (some d) v) w) : wpAnyH P md ops Q S (fuel + 1) listed a w :=
 wpAnyH_take hi hs hf hr (hd ▸ hQ) (.inl ⟨hg, hy⟩) hS (hd ▸ h)
theorem wpOz_runG {i : Nat} {o : Oper} {K : Act → World → Prop} {a : Act} {w : World} (hi : ops[i]? = some o) (hg : Region.wanted o (yielded ops a.tmps) = true) (h : Oper.wp P o a w K Q) : wpOp P ops Q i K a w := by
 unfold wpOp
 simp only [hi]
 rw [if_pos hg]
 exact .inl h
end
end

section
open Go.RowKit NV Go.Maps Go.Sort Go.Shelf
open Go.Lib (decDigits)
def Zd (D : Nat) (q : Rat) : Prop := ∃ z : Int, q * (D : Rat) = (z : Rat)
theorem Zd.zero (D : Nat) : Zd D 0 := ⟨0, by rw [Rat.zero_mul]; rfl⟩
theorem Zd.add {D : Nat} {p q : Rat} (hp : Zd D p) (hq : Zd D q) : Zd D (p + q) := by
 obtain ⟨a, ha⟩ := hp
 obtain ⟨b, hb⟩ := hq
 exact ⟨a + b, by rw [Rat.add_mul, ha, hb, Rat.intCast_add]⟩
theorem Zd.neg {D : Nat} {p : Rat} (hp : Zd D p) : Zd D (-p) := by
 obtain ⟨a, ha⟩ := hp
 exact ⟨-a, by rw [Rat.neg_mul, ha, Rat.intCast_neg]⟩
theorem Zd.sub {D : Nat} {p q : Rat} (hp : Zd D p) (hq : Zd D q) : Zd D (p - q) := by
 rw [Rat.sub_eq_add_neg]; exact hp.add hq.neg
theorem Zd.mul {D E : Nat} {p q : Rat} (hp : Zd D p) (hq : Zd E q) : Zd (D * E) (p * q) := by
 obtain ⟨a, ha⟩ := hp
 obtain ⟨b, hb⟩ := hq
 refine ⟨a * b, ?_⟩
 rw [Rat.intCast_mul, ← ha, ← hb, Rat.natCast_mul]
 grind
theorem Zd.up {D E : Nat} {p : Rat} (hp : Zd D p) (h : D ∣ E) : Zd E p := by
 obtain ⟨k, rfl⟩ := h
 obtain ⟨a, ha⟩ := hp
 refine ⟨a * k, ?_⟩
 rw [Rat.intCast_mul, ← ha, Rat.natCast_mul, Rat.intCast_natCast]
 grind
theorem mul_den (q : Rat) : q * (q.den : Rat) = (q.num : Rat) := by
 have h1 : q = (q.num : Rat) / ((q.den : Int) : Rat) := by
  rw [← Rat.divInt_eq_div, Rat.num_divInt_den]
 have h2 : (q.den : Rat) ≠ 0 := fun e => q.den_nz (Rat.natCast_inj.1 (e.trans rfl))
 have h3 : (q.den : Rat) * (q.den : Rat)⁻¹ = 1 := Rat.mul_inv_cancel _ h2
 have h4 : q = (q.num : Rat) * (q.den : Rat)⁻¹ := by rw [← Rat.div_def]; exact h1
 have h5 : (q.num : Rat) * (q.den : Rat)⁻¹ * (q.den : Rat) = (q.num : Rat) * ((q.den : Rat) * (q.den : Rat)⁻¹) := by grind
 rw [← h4, h3, Rat.mul_one] at h5
 exact h5
theorem Zd.den (q : Rat) : Zd q.den q := ⟨q.num, mul_den q⟩
theorem Zd.mx0 {D : Nat} {p : Rat} (hp : Zd D p) : Zd D (mx0 p) := by
 unfold Go.Proofs.YtkponlbpgmnpgaaGreatDoor.mx0
 split
 ·exact hp
 ·exact Zd.zero D
theorem Zd.sm {D : Nat} {g : Nat → Rat} : ∀ {n : Nat}, (∀ i, i < n → Zd D (g i)) → Zd D (sm g n)
 | 0, _ => Zd.zero D
 | n + 1, h => (Zd.sm (n := n) fun i hi => h i (by omega)).add (h n (by omega))
theorem Zd.dvd {D : Nat} {q : Rat} (h : Zd D q) : q.den ∣ D := by
 obtain ⟨z, hz⟩ := h
 have h1 : (z * q.den : Int) = q.num * D := by
  have h2 : ((z * q.den : Int) : Rat) = ((q.num * D : Int) : Rat) := by
   have h3 := mul_den q
   rw [Rat.intCast_mul, Rat.intCast_mul, ← hz, ← h3, Rat.intCast_natCast, Rat.intCast_natCast]
   grind
  exact Rat.intCast_inj.1 h2
 have h4 : q.den ∣ q.num.natAbs * D := by
  have h5 : (z * q.den : Int).natAbs = (q.num * D : Int).natAbs := by rw [h1]
  rw [Int.natAbs_mul, Int.natAbs_mul, Int.natAbs_natCast, Int.natAbs_natCast] at h5
  exact ⟨z.natAbs, by rw [← h5, Nat.mul_comm]⟩
 exact (Nat.Coprime.symm q.reduced).dvd_of_dvd_mul_left h4
theorem Zd.sz {D k : Nat} {q : Rat} (h : Zd D q) (h0 : 0 ≤ q) (h1 : q ≤ 1) (hD0 : 0 < D) (hD : D < 10 ^ k) : Sz k q := by
 have hden := Nat.le_of_dvd hD0 h.dvd
 have hn : q.num ≤ q.den := by
  have h3 := mul_den q
  have h4 : (0 : Rat) ≤ (q.den : Rat) := by
   have : ((0 : Int) : Rat) ≤ ((q.den : Int) : Rat) := Rat.intCast_le_intCast.2 (by omega)
   exact this
  have h5 := Rat.mul_nonneg (a := 1 - q) (b := (q.den : Rat)) (by grind) h4
  have h6 : (q.num : Rat) ≤ ((q.den : Int) : Rat) := by
   rw [← h3]
   have h7 : (1 - q) * (q.den : Rat) = (q.den : Rat) - q * q.den := by grind
   rw [h7] at h5
   show q * (q.den : Rat) ≤ (q.den : Rat)
   grind
  exact Rat.intCast_le_intCast.1 h6
 have hnn : 0 ≤ q.num := Rat.num_nonneg.2 h0
 exact ⟨by unfold tp; omega, by omega⟩
end

section
open Go.RowKit NV Go.Maps Go.Sort Go.Shelf
open Go.Lib (decDigits)
theorem look_set {k : ByteArray} {r : Rat} {k' : List UInt8} : ∀ S : List QI, lookQ k' (setQ k r S) = if k.data.toList = k' then r else lookQ k' S
 | [] => rfl
 | y :: S => by
  unfold setQ
  split
  ·rfl
  ·split
   ·next h1 h2 =>
    show (if k.data.toList = k' then r else lookQ k' S) = if k.data.toList = k' then r else (if kQ y = k' then y.2 else lookQ k' S)
    by_cases h : k.data.toList = k'
    ·rw [if_pos h, if_pos h]
    ·rw [if_neg h, if_neg h, if_neg (fun e => h (h2.trans e))]
   ·next h1 h2 =>
    show (if kQ y = k' then y.2 else lookQ k' (setQ k r S)) = if k.data.toList = k' then r else (if kQ y = k' then y.2 else lookQ k' S)
    rw [look_set S]
    by_cases h : kQ y = k'
    ·rw [if_pos h, if_pos h, if_neg (fun e => h2 (e.trans h.symm))]
    ·rw [if_neg h, if_neg h]
def kv (L : List MI) (k : List UInt8) (n : Nat) : Rat := sm (fun i => if kZ (getZ L i) = k then qZ L i else 0) n
theorem col_val {L : List MI} {k : List UInt8} : ∀ {n : Nat} {S : List QI}, runO (colS L) [] n = some S → lookQ k S = kv L k n
 | 0, S, h => by obtain rfl : [] = S := Option.some.inj h; rfl
 | n + 1, S, h => by
  obtain ⟨S0, h0⟩ := runO_some h n (by omega)
  rw [runO_step h0] at h
  unfold colS at h
  cases hq : okQ (lookQ (kZ (getZ L n)) S0 + qZ L n) with
  | none => rw [hq] at h; cases h
  | some r =>
   rw [hq] at h
   obtain rfl : setQ (getZ L n).1 r S0 = S := by simpa using h
   obtain ⟨e, _⟩ := okQ_some hq
   rw [look_set]
   show _ = kv L k n + (if kZ (getZ L n) = k then qZ L n else 0)
   have e2 : (getZ L n).1.data.toList = kZ (getZ L n) := rfl
   rw [e2]
   by_cases hk : kZ (getZ L n) = k
   ·rw [if_pos hk, if_pos hk, ← e, col_val h0, hk]
   ·rw [if_neg hk, if_neg hk, col_val h0, Rat.add_zero]
theorem kv_dist {P : List MI} {k : List UInt8} {f : Rat} (hs : SrtZ P) : ∀ {n : Nat}, n ≤ P.length → (∀ j, n ≤ j → j < P.length → kZ (getZ P j) ≠ k) → sm (fun i => if kZ (getZ P i) = k then qZ P i * f else 0) n = vQ P k * f
 | 0, _, h => by
  have hh : hasZ k P = false := by
   cases hh : hasZ k P with
   | false => rfl
   | true =>
    obtain ⟨j, hj, e⟩ := has_get hh
    exact absurd e (h j (by omega) hj)
  rw [vQ_out hh, Rat.zero_mul]; rfl
 | n + 1, hn, h => by
  show sm _ n + (if kZ (getZ P n) = k then qZ P n * f else 0) = _
  by_cases hk : kZ (getZ P n) = k
  ·have h0 : sm (fun i => if kZ (getZ P i) = k then qZ P i * f else 0) n = 0 := by
    refine (sm_eq (h := fun _ => 0) fun i hi => if_neg fun e => ?_).trans sm_zero
    exact srt_get hs hi (by omega) (e.trans hk.symm)
   rw [h0, if_pos hk, ← hk, vQ_get hs (by omega), Rat.zero_add]
  ·rw [if_neg hk, Rat.add_zero]
   refine kv_dist hs (by omega) fun j hj hl => ?_
   rcases Nat.lt_or_ge n j with h1 | h1
   ·exact h j (by omega) hl
   ·obtain rfl : n = j := by omega
    exact hk
end

section
open Go.RowKit NV Go.Maps Go.Sort Go.Shelf
open Go.Lib (decDigits)
def scF (L : List MI) (F : Rat) (k : Nat) (s : List MI) : Option (List MI) := (okQ (qZ L k * F)).map fun q => s ++ [((getZ L k).1, qstr q)]
def scO (L : List MI) (F : Rat) : Option (List MI) := runO (scF L F) [] L.length
theorem scF_len {L : List MI} {F : Rat} : ∀ {k : Nat} {s : List MI}, runO (scF L F) [] k = some s → s.length = k
 | 0, s, h => by obtain rfl : [] = s := Option.some.inj h; rfl
 | k + 1, s, h => by
  obtain ⟨s0, h0⟩ := runO_some h k (by omega)
  rw [runO_step h0] at h
  unfold scF at h
  cases hq : okQ (qZ L k * F) with
  | none => rw [hq] at h; cases h
  | some q =>
   rw [hq] at h
   obtain rfl : s0 ++ [((getZ L k).1, qstr q)] = s := by simpa using h
   rw [List.length_append, scF_len h0]; rfl
end

section
open Go.RowKit NV Go.Maps Go.Sort Go.Shelf
open Go.Lib (decDigits)
theorem sm_split {g : Nat → Rat} {n : Nat} : ∀ m, sm g (n + m) = sm g n + sm (fun i => g (n + i)) m
 | 0 => (Rat.add_zero _).symm
 | m + 1 => by
  show sm g (n + m) + g (n + m) = sm g n + (sm (fun i => g (n + i)) m + g (n + m))
  rw [sm_split m, Rat.add_assoc]
theorem getZ_left {s t : List MI} {i : Nat} (h : i < s.length) : getZ (s ++ t) i = getZ s i := by
 unfold getZ
 rw [List.getD_eq_getElem?_getD, List.getD_eq_getElem?_getD, List.getElem?_append_left h]
theorem getZ_right {s t : List MI} {i : Nat} : getZ (s ++ t) (s.length + i) = getZ t i := by
 unfold getZ
 rw [List.getD_eq_getElem?_getD, List.getD_eq_getElem?_getD, List.getElem?_append_right (by omega), Nat.add_sub_cancel_left]
theorem col_yes {L : List MI} (h : ∀ n, n < L.length → QOk (kv L (kZ (getZ L n)) (n + 1))) : ∀ n, n ≤ L.length → ∃ S, runO (colS L) [] n = some S
 | 0, _ => ⟨[], rfl⟩
 | n + 1, hn => by
  obtain ⟨S, hs⟩ := col_yes h n (by omega)
  have h1 := h n (by omega)
  have h2 : kv L (kZ (getZ L n)) (n + 1) = lookQ (kZ (getZ L n)) S + qZ L n := by
   rw [col_val hs]
   show kv L _ n + (if kZ (getZ L n) = kZ (getZ L n) then qZ L n else 0) = _
   rw [if_pos rfl]
  rw [h2] at h1
  refine ⟨setQ (getZ L n).1 (lookQ (kZ (getZ L n)) S + qZ L n) S, ?_⟩
  rw [runO_step hs]
  unfold colS
  rw [okQ_yes h1]
  rfl
end

section
open Go.RowKit NV Go.Maps Go.Sort Go.Shelf
open Go.Lib (decDigits)
theorem look_none {k : List UInt8} : ∀ {S : List QI}, (∀ x, x ∈ S → kQ x ≠ k) → lookQ k S = 0
 | [], _ => rfl
 | y :: S, h => by
  show (if kQ y = k then y.2 else lookQ k S) = 0
  rw [if_neg (h y (List.mem_cons_self ..))]
  exact look_none fun x hx => h x (List.mem_cons_of_mem _ hx)
theorem look_out {k : List UInt8} : ∀ {S : List QI}, SrtQ S → lookQ k (outQ S) = lookQ k S
 | [], _ => rfl
 | y :: S, h => by
  obtain ⟨h1, h2⟩ := List.pairwise_cons.1 h
  have ih := look_out (k := k) h2
  unfold outQ at ih ⊢
  by_cases h0 : y.2 = 0
  ·rw [List.filter_cons_of_neg (by simp [h0]), ih]
   show lookQ k S = if kQ y = k then y.2 else lookQ k S
   by_cases hk : kQ y = k
   ·rw [if_pos hk, h0]
    refine look_none fun x hx e => ?_
    have h3 := h1 x hx
    rw [hk, e] at h3
    exact List.lt_irrefl _ h3
   ·rw [if_neg hk]
  ·rw [List.filter_cons_of_pos (by simp [h0])]
   show (if kQ y = k then y.2 else lookQ k _) = if kQ y = k then y.2 else lookQ k S
   rw [ih]
theorem vQ_t {k : List UInt8} {D : List QI} : vQ (tZ D) k = lookQ k D := by
 unfold vQ
 rw [val_look, ratS_q]
theorem mx0_add {a b : Rat} : mx0 (a + b) ≤ mx0 a + mx0 b := by unfold mx0; grind
end

section
open Go.RowKit NV Go.Maps Go.Sort Go.Shelf
open Go.Lib (decDigits)
def pd (L : List MI) : Nat → Nat
 | 0 => 1
 | n + 1 => pd L n * (qZ L n).den
theorem pd_pos {L : List MI} : ∀ n, 0 < pd L n
 | 0 => Nat.one_pos
 | n + 1 => Nat.mul_pos (pd_pos n) (Nat.pos_of_ne_zero (qZ L n).den_nz)
theorem pd_dvd {L : List MI} {i : Nat} : ∀ {n : Nat}, i < n → (qZ L i).den ∣ pd L n
 | 0, h => absurd h (Nat.not_lt_zero _)
 | n + 1, h => by
  rcases Nat.lt_or_ge i n with h1 | h1
  ·exact Nat.dvd_trans (pd_dvd h1) (Nat.dvd_mul_right ..)
  ·obtain rfl : i = n := by omega
   exact Nat.dvd_mul_left ..
theorem pd_lt {L : List MI} (h : ∀ i, i < L.length → Sz 24 (qZ L i)) : ∀ n, n ≤ L.length → pd L n ≤ 10 ^ (24 * n)
 | 0, _ => Nat.le_refl _
 | n + 1, hn => by
  show pd L n * (qZ L n).den ≤ _
  rw [Nat.mul_succ, Nat.pow_add]
  exact Nat.mul_le_mul (pd_lt h n (by omega)) (Nat.le_of_lt (h n (by omega)).2)
theorem sm_one_le {g : Nat → Rat} {n i : Nat} (h : ∀ j, j < n → 0 ≤ g j) (hi : i < n) : g i ≤ sm g n := by
 have h1 := sm_lift (g := fun _ => 0) (h := g) (c := g i) (j := i) (n := n) h hi (by rw [Rat.zero_add]; exact Rat.le_refl)
 rw [sm_zero, Rat.zero_add] at h1
 exact h1
theorem sm_mono {g : Nat → Rat} {n : Nat} (h : ∀ j, j < n → 0 ≤ g j) : ∀ {m : Nat}, m ≤ n → sm g m ≤ sm g n := by
 intro m hm
 obtain ⟨d, rfl⟩ : ∃ d, n = m + d := ⟨n - m, by omega⟩
 rw [sm_split]
 have := sm_nonneg (g := fun i => g (m + i)) (n := d) (fun i hi => h _ (by omega))
 grind
theorem vQ_le1 {P : List MI} (h : DiL P) (k : List UInt8) : vQ P k ≤ 1 := by
 cases hh : hasZ k P with
 | false => rw [vQ_out hh]; decide
 | true =>
  obtain ⟨j, hj, e⟩ := has_get hh
  rw [← e, vQ_get h.srt hj, ← h.one]
  exact sm_one_le (fun i hi => Rat.le_of_lt (h.pos i hi)) hj
end

section
open Go.RowKit NV Go.Maps Go.Sort Go.Shelf
open Go.Lib (decDigits)
set_option exponentiation.threshold 4000 in
theorem dlt_mix {X Y : List MI} {DX DY : Nat} {f : Rat} (kX : chkZ X = 0) (kY : chkZ Y = 0) (zx : ∀ k, Zd DX (vQ X k)) (zy : ∀ k, Zd DY (vQ Y k)) (x0 : 0 < DX) (y0 : 0 < DY) (hx : DX < 10 ^ 792) (hy : DY < 10 ^ 792) (hf : Sz 24 f) (hf0 : 0 ≤ f) :
  dltE X Y (qstr f) = (qstr (dl X Y f), 0) ∧ Sz 1608 (dl X Y f) := by
 have dX := DiL.of kX
 have dY := DiL.of kY
 have ho := hf.qok (by omega) (by omega)
 have sx : ∀ i, i < X.length → Sz 792 (qZ X i) ∧ Zd DX (qZ X i) := fun i hi => by
  have h1 := zx (kZ (getZ X i))
  have h2 := vQ_le1 dX (kZ (getZ X i))
  rw [vQ_get dX.srt hi] at h1 h2
  exact ⟨h1.sz (Rat.le_of_lt (dX.pos i hi)) h2 x0 hx, h1⟩
 have sy : ∀ k, Sz 792 (vQ Y k) := fun k => (zy k).sz (dY.nn k) (vQ_le1 dY k) y0 hy
 have hE : DX * (f.den * DY) < 10 ^ 1608 := by
  have h5 : (10 : Nat) ^ 1608 = 10 ^ 792 * (10 ^ 24 * 10 ^ 792) := by rw [← Nat.pow_add, ← Nat.pow_add]
  rw [h5]
  exact Nat.mul_lt_mul_of_lt_of_le hx (Nat.mul_le_mul (Nat.le_of_lt hf.2) (Nat.le_of_lt hy)) (Nat.mul_pos (Nat.pow_pos (by omega)) (Nat.pow_pos (by omega)))
 have hE0 : 0 < DX * (f.den * DY) := Nat.mul_pos x0 (Nat.mul_pos (Nat.pos_of_ne_zero f.den_nz) y0)
 have hd : ∀ i, i < X.length → 0 ≤ dD X Y f i ∧ dD X Y f i ≤ qZ X i ∧ Zd (DX * (f.den * DY)) (dD X Y f i) := fun i hi => by
  have h1 := Rat.mul_nonneg hf0 (dY.nn (kZ (getZ X i)))
  have h2 := dX.pos i hi
  refine ⟨mx0_nonneg _, ?_, Zd.mx0 (Zd.sub ((sx i hi).2.up (Nat.dvd_mul_right ..)) ((Zd.mul (Zd.den f) (zy _)).up (Nat.dvd_mul_left ..)))⟩
  show mx0 (qZ X i - f * vQ Y (kZ (getZ X i))) ≤ qZ X i
  unfold mx0
  grind
 have hs : ∀ n, n ≤ X.length → Sz 1608 (sm (dD X Y f) n) := fun n hn => by
  refine Zd.sz (Zd.sm fun i hi => (hd i (by omega)).2.2) (sm_nonneg fun i hi => (hd i (by omega)).1) ?_ hE0 hE
  rw [← dX.one]
  exact Rat.le_trans (sm_le fun i hi => (hd i (by omega)).2.1) (sm_mono (fun i hi => Rat.le_of_lt (dX.pos i hi)) hn)
 have hrun : dltO X Y f = some (dl X Y f) := by
  unfold dltO dl
  refine runO_sm fun k hk => ?_
  unfold dltF exO
  have h2 := Sz.mul hf (sy (kZ (getZ X k)))
  have h3 := Sz.sub (sx k hk).1 h2
  rw [okQ_yes (h2.qok (by omega) (by omega))]
  show (((okQ (qZ X k + -(f * vQ Y (kZ (getZ X k))))).map mx0).bind fun d => okQ (sm (dD X Y f) k + d)) = _
  rw [← Rat.sub_eq_add_neg, okQ_yes (h3.qok (by omega) (by omega))]
  show okQ (sm (dD X Y f) k + dD X Y f k) = _
  exact okQ_yes ((hs (k + 1) (by omega)).qok (by omega) (by omega))
 refine ⟨?_, hs _ (Nat.le_refl _)⟩
 unfold dltE
 rw [if_neg (by unfold bE; rw [kX, kY]; simp), if_neg (by rw [eS_q ho hf0]; simp), ratS_q, hrun]
 rfl
end

end Go.Proofs.YtkponlbpgmnpgaaGreatDoor
