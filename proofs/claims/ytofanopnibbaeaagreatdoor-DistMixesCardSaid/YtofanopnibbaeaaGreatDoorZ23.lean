/-
  What two and three distributions have in common: the distance is symmetric, a metric; the factor is the least one.
-/
import Derived.Test.YtofanopnibbaeaaGreatDoorZ21
import Derived.WalkSmall
namespace Go.Proofs.YtofanopnibbaeaaGreatDoor
open Go.RowKit NV Go.Maps Go.Sort Go.Shelf
open Go.Lib (decDigits)

/-- The sum of a function of the keys. -/
def ks (L : List MI) (φ : List UInt8 → Rat) (n : Nat) : Rat := sm (fun i => φ (kZ (getZ L i))) n
theorem sm_lift {g h : Nat → Rat} {c : Rat} {j : Nat} : ∀ {n : Nat}, (∀ i, i < n → g i ≤ h i) → j < n → g j + c ≤ h j → sm g n + c ≤ sm h n
  | 0, _, hj, _ => absurd hj (Nat.not_lt_zero _)
  | n + 1, H, hj, hc => by
    show sm g n + g n + c ≤ sm h n + h n
    rcases Nat.lt_or_ge j n with h1 | h1
    · have h2 := sm_lift (n := n) (fun i hi => H i (by omega)) h1 hc
      have h3 := H n (by omega)
      grind
    · obtain rfl : j = n := by omega
      have h2 := sm_le (n := j) (fun i hi => H i (by omega))
      grind
theorem sm_zero_iff {g : Nat → Rat} : ∀ {n : Nat}, (∀ i, i < n → 0 ≤ g i) → (sm g n = 0 ↔ ∀ i, i < n → g i = 0)
  | 0, _ => ⟨fun _ i hi => absurd hi (Nat.not_lt_zero _), fun _ => rfl⟩
  | n + 1, H => by
    have ih := sm_zero_iff (n := n) (fun i hi => H i (by omega))
    have h1 := sm_nonneg (n := n) (fun i hi => H i (by omega))
    have h2 := H n (by omega)
    constructor
    · intro h
      have h3 : sm g n + g n = 0 := h
      intro i hi
      rcases Nat.lt_or_ge i n with h4 | h4
      · exact ih.1 (by grind) i h4
      · obtain rfl : i = n := by omega
        grind
    · intro h
      show sm g n + g n = 0
      rw [ih.2 (fun i hi => h i (by omega)), h n (by omega)]
      grind
theorem get_has {L : List MI} {j : Nat} (hj : j < L.length) : hasZ (kZ (getZ L j)) L = true := by
  rw [getZ_of (List.getElem?_eq_getElem hj)]
  exact hasZ_mem (List.getElem_mem hj) rfl
theorem has_get {k : List UInt8} {L : List MI} (h : hasZ k L = true) : ∃ j, j < L.length ∧ kZ (getZ L j) = k := by
  obtain ⟨x, hx, e, _⟩ := val_mem h
  obtain ⟨j, hj, rfl⟩ := List.mem_iff_getElem.1 hx
  exact ⟨j, hj, by rw [getZ_of (List.getElem?_eq_getElem hj)]; exact e⟩
theorem srt_get {L : List MI} (h : SrtZ L) {i j : Nat} (hij : i < j) (hj : j < L.length) : kZ (getZ L i) ≠ kZ (getZ L j) := by
  rw [getZ_of (List.getElem?_eq_getElem hj), getZ_of (List.getElem?_eq_getElem (show i < L.length by omega))]
  have h1 := List.pairwise_iff_getElem.1 h i j (by omega) hj hij
  exact fun e => by
    rw [e] at h1
    exact List.lt_irrefl _ h1
theorem vQ_get {L : List MI} (h : SrtZ L) {i : Nat} (hi : i < L.length) : vQ L (kZ (getZ L i)) = qZ L i := by
  obtain ⟨x, hx, e, hv⟩ := val_mem (get_has hi)
  obtain ⟨j, hj, rfl⟩ := List.mem_iff_getElem.1 hx
  rw [← getZ_of (List.getElem?_eq_getElem hj)] at e hv
  unfold vQ qZ
  rw [hv]
  rcases Nat.lt_or_ge i j with h1 | h1
  · exact absurd e.symm (srt_get h h1 hj)
  · rcases Nat.lt_or_ge j i with h2 | h2
    · exact absurd e (srt_get h h2 hi)
    · obtain rfl : i = j := by omega
      rfl
theorem vQ_out {Q : List MI} {k : List UInt8} (h : hasZ k Q = false) : vQ Q k = 0 := by unfold vQ; rw [val_no h, rat0Z]
/-- A sum over distinct keys is at most the sum over a list that has all keys where the function isn't 0. -/
theorem inject {P Q : List MI} (hs : SrtZ P) : ∀ {n : Nat} {φ : List UInt8 → Rat}, n ≤ P.length → (∀ k, 0 ≤ φ k) → (∀ k, hasZ k Q = false → φ k = 0) → ks P φ n ≤ ks Q φ Q.length
  | 0, φ, _, h0, _ => sm_nonneg fun i _ => h0 _
  | n + 1, φ, hn, h0, hz => by
    have hne : ∀ i, i < n → kZ (getZ P i) ≠ kZ (getZ P n) := fun i hi => srt_get hs hi (by omega)
    obtain ⟨k, hk⟩ : ∃ k, kZ (getZ P n) = k := ⟨_, rfl⟩
    rw [hk] at hne
    have ih := inject hs (n := n) (φ := fun x => if x = k then 0 else φ x) (by omega)
      (fun x => by
        by_cases h : x = k
        · show 0 ≤ (if x = k then 0 else φ x)
          rw [if_pos h]; exact Rat.le_refl
        · show 0 ≤ (if x = k then 0 else φ x)
          rw [if_neg h]; exact h0 x)
      (fun x hx => by
        by_cases h : x = k
        · exact if_pos h
        · exact (if_neg h).trans (hz x hx))
    have e1 : ks P (fun x => if x = k then 0 else φ x) n = ks P φ n := sm_eq fun i hi => if_neg (hne i hi)
    rw [e1] at ih
    have hle : ∀ x, (if x = k then 0 else φ x) ≤ φ x := fun x => by
      by_cases h : x = k
      · rw [if_pos h]; exact h0 x
      · rw [if_neg h]; exact Rat.le_refl
    show ks P φ n + φ (kZ (getZ P n)) ≤ _
    rw [hk]
    cases hh : hasZ k Q with
    | false =>
      rw [hz k hh]
      have h1 : ks Q (fun x => if x = k then 0 else φ x) Q.length ≤ ks Q φ Q.length := sm_le fun i _ => hle _
      grind
    | true =>
      obtain ⟨j, hj, e⟩ := has_get hh
      have h1 : ks Q (fun x => if x = k then 0 else φ x) Q.length + φ k ≤ ks Q φ Q.length := sm_lift (j := j) (fun i _ => hle _) hj (by
        show (if kZ (getZ Q j) = k then 0 else φ (kZ (getZ Q j))) + φ k ≤ φ (kZ (getZ Q j))
        rw [if_pos e, e, Rat.zero_add]
        exact Rat.le_refl)
      grind

/-- What Check's OK says of a list. -/
structure DiL (P : List MI) : Prop where
  ok : OKM P
  srt : SrtZ P
  one : sm (qZ P) P.length = 1
  pos : ∀ k, k < P.length → 0 < qZ P k
theorem DiL.of {P : List MI} (h : chkZ P = 0) : DiL P := ⟨(chk_ok h).1, (chk_ok h).2.1, sum_one h, (chk_ok h).2.2.2⟩
theorem DiL.nn {P : List MI} (h : DiL P) (k : List UInt8) : 0 ≤ vQ P k := vQ_nonneg h.pos k
theorem DiL.kone {P : List MI} (h : DiL P) : ks P (vQ P) P.length = 1 := (sm_eq fun _ hi => vQ_get h.srt hi).trans h.one
/-- What Delta finds. -/
def dl (P Q : List MI) (f : Rat) : Rat := sm (dD P Q f) P.length
theorem dl_ks {P Q : List MI} {f : Rat} (h : DiL P) : dl P Q f = ks P (fun k => mx0 (vQ P k - f * vQ Q k)) P.length :=
  sm_eq fun i hi => by
    show mx0 (qZ P i - _) = mx0 (vQ P (kZ (getZ P i)) - _)
    rw [vQ_get h.srt hi]
theorem dl_sym {P Q : List MI} (hp : DiL P) (hq : DiL Q) : dl P Q 1 = dl Q P 1 := by
  obtain ⟨mu, hmu⟩ : ∃ mu : List UInt8 → Rat, mu = fun k => if vQ P k ≤ vQ Q k then vQ P k else vQ Q k := ⟨_, rfl⟩
  have h0 : ∀ k, 0 ≤ mu k := fun k => by
    have h1 := hp.nn k
    have h2 := hq.nn k
    rw [hmu]
    show 0 ≤ (if vQ P k ≤ vQ Q k then vQ P k else vQ Q k)
    split
    · exact h1
    · exact h2
  have hP : ∀ k, hasZ k P = false → mu k = 0 := fun k h => by
    have h1 := vQ_out h
    have h2 := hq.nn k
    rw [hmu]
    show (if vQ P k ≤ vQ Q k then vQ P k else vQ Q k) = 0
    rw [h1, if_pos h2]
  have hQ : ∀ k, hasZ k Q = false → mu k = 0 := fun k h => by
    have h1 := vQ_out h
    have h2 := hp.nn k
    rw [hmu]
    show (if vQ P k ≤ vQ Q k then vQ P k else vQ Q k) = 0
    rw [h1]
    grind
  have e1 := inject hp.srt (Q := Q) (Nat.le_refl _) h0 hQ
  have e2 := inject hq.srt (Q := P) (Nat.le_refl _) h0 hP
  have f1 : dl P Q 1 + ks P mu P.length = 1 := by
    rw [dl_ks hp]
    refine (sm_add.symm.trans (sm_eq fun i _ => ?_)).trans hp.kone
    show mx0 (vQ P _ - 1 * vQ Q _) + mu _ = vQ P _
    rw [hmu]
    generalize kZ (getZ P i) = k
    show mx0 (vQ P k - 1 * vQ Q k) + (if vQ P k ≤ vQ Q k then vQ P k else vQ Q k) = vQ P k
    unfold mx0
    grind
  have f2 : dl Q P 1 + ks Q mu Q.length = 1 := by
    rw [dl_ks hq]
    refine (sm_add.symm.trans (sm_eq fun i _ => ?_)).trans hq.kone
    show mx0 (vQ Q _ - 1 * vQ P _) + mu _ = vQ Q _
    rw [hmu]
    generalize kZ (getZ Q i) = k
    show mx0 (vQ Q k - 1 * vQ P k) + (if vQ P k ≤ vQ Q k then vQ P k else vQ Q k) = vQ Q k
    unfold mx0
    grind
  grind
theorem dl_tri {P Q R : List MI} (hp : DiL P) (hq : DiL Q) (hr : DiL R) : dl P R 1 ≤ dl P Q 1 + dl Q R 1 := by
  have h1 : ks P (fun k => mx0 (vQ Q k - 1 * vQ R k)) P.length ≤ ks Q (fun k => mx0 (vQ Q k - 1 * vQ R k)) Q.length :=
    inject hp.srt (Nat.le_refl _) (fun k => mx0_nonneg _) (fun k h => by
      have h2 := vQ_out h
      have h3 := hr.nn k
      show mx0 (vQ Q k - 1 * vQ R k) = 0
      unfold mx0
      grind)
  rw [← dl_ks hq] at h1
  have h2 : dl P R 1 ≤ dl P Q 1 + ks P (fun k => mx0 (vQ Q k - 1 * vQ R k)) P.length := by
    rw [dl_ks hp, dl_ks hp]
    refine Rat.le_trans (sm_le (h := fun i => mx0 (vQ P (kZ (getZ P i)) - 1 * vQ Q (kZ (getZ P i))) + mx0 (vQ Q (kZ (getZ P i)) - 1 * vQ R (kZ (getZ P i)))) fun i _ => ?_) (by rw [sm_add]; exact Rat.le_refl)
    generalize kZ (getZ P i) = k
    show mx0 (vQ P k - 1 * vQ R k) ≤ mx0 (vQ P k - 1 * vQ Q k) + mx0 (vQ Q k - 1 * vQ R k)
    unfold mx0
    grind
  grind
theorem dl_nn {P Q : List MI} {f : Rat} : 0 ≤ dl P Q f := sm_nonneg fun _ _ => mx0_nonneg _
theorem dl_le1 {P Q : List MI} {f : Rat} (hp : DiL P) (hq : DiL Q) (hf : 0 ≤ f) : dl P Q f ≤ 1 :=
  sets_one hf (fun i hi => Rat.le_of_lt (hp.pos i hi)) (fun _ _ => hq.nn _) hp.one
theorem dl_zero {P Q : List MI} {f : Rat} : dl P Q f = 0 ↔ ∀ i, i < P.length → qZ P i ≤ f * vQ Q (kZ (getZ P i)) := by
  unfold dl
  rw [sm_zero_iff (g := dD P Q f) fun _ _ => mx0_nonneg _]
  refine forall_congr' fun i => forall_congr' fun _ => ?_
  show mx0 (qZ P i - f * vQ Q (kZ (getZ P i))) = 0 ↔ _
  unfold mx0
  grind
theorem srt_ext : ∀ {P Q : List MI}, SrtZ P → SrtZ Q → (∀ x, x ∈ P ↔ x ∈ Q) → P = Q
  | [], [], _, _, _ => rfl
  | [], y :: Q, _, _, h => by have := (h y).2 (List.mem_cons_self ..); cases this
  | x :: P, [], _, _, h => by have := (h x).1 (List.mem_cons_self ..); cases this
  | x :: P, y :: Q, hp, hq, h => by
    obtain ⟨hp1, hp2⟩ := List.pairwise_cons.1 hp
    obtain ⟨hq1, hq2⟩ := List.pairwise_cons.1 hq
    have e : x = y := by
      rcases List.mem_cons.1 ((h x).1 (List.mem_cons_self ..)) with h1 | h1
      · exact h1
      · rcases List.mem_cons.1 ((h y).2 (List.mem_cons_self ..)) with h2 | h2
        · exact h2.symm
        · exact absurd (List.lt_trans (hq1 x h1) (hp1 y h2)) (List.lt_irrefl _)
    subst e
    rw [srt_ext hp2 hq2 fun z => ?_]
    constructor
    · intro hz
      rcases List.mem_cons.1 ((h z).1 (List.mem_cons_of_mem _ hz)) with h1 | h1
      · subst h1; exact absurd (hp1 z hz) (List.lt_irrefl _)
      · exact h1
    · intro hz
      rcases List.mem_cons.1 ((h z).2 (List.mem_cons_of_mem _ hz)) with h1 | h1
      · subst h1; exact absurd (hq1 z hz) (List.lt_irrefl _)
      · exact h1
theorem dl_sub {P Q : List MI} (hp : DiL P) (hq : DiL Q) (h1 : dl P Q 1 = 0) (h2 : dl Q P 1 = 0) : ∀ x, x ∈ P → x ∈ Q := fun x hx => by
  obtain ⟨i, hi, rfl⟩ := List.mem_iff_getElem.1 hx
  have hgi := getZ_of (List.getElem?_eq_getElem hi)
  have a1 := dl_zero.1 h1 i hi
  have a0 := hp.pos i hi
  cases hh : hasZ (kZ (getZ P i)) Q with
  | false =>
    rw [vQ_out hh] at a1
    grind
  | true =>
    obtain ⟨j, hj, e⟩ := has_get hh
    have a2 := dl_zero.1 h2 j hj
    rw [← e, vQ_get hq.srt hj] at a1
    rw [e, vQ_get hp.srt hi] at a2
    have a3 : qZ P i = qZ Q j := by grind
    have hgj := getZ_of (List.getElem?_eq_getElem hj)
    have t1 := (hp.ok.at (List.getElem?_eq_getElem hi)).1
    have t2 := (hq.ok.at (List.getElem?_eq_getElem hj)).1
    rw [hgi, hgj] at e
    have e2 : P[i] = Q[j] := by
      refine Prod.ext ?_ (by rw [t1, t2, a3])
      have e3 : Q[j].1.data.toList = P[i].1.data.toList := e
      exact (ByteArray.ext (Array.ext' e3)).symm
    rw [e2]; exact List.getElem_mem hj
theorem dl_same {P Q : List MI} (hp : DiL P) (hq : DiL Q) : dl P Q 1 = 0 ↔ P = Q := by
  constructor
  · intro h
    have h2 : dl Q P 1 = 0 := by rw [← dl_sym hp hq]; exact h
    exact srt_ext hp.srt hq.srt fun x => ⟨dl_sub hp hq h h2 x, dl_sub hq hp h2 h x⟩
  · intro h
    subst h
    exact dl_zero.2 fun i hi => by rw [vQ_get hp.srt hi]; grind

/-- What Factor finds: the greatest quotient of the first outcomes. -/
def fr (P Q : List MI) : Nat → Rat
  | 0 => 0
  | k + 1 => mxQ (fr P Q k) (qZ P k * (vQ Q (kZ (getZ P k)))⁻¹)
theorem fr_nn {P Q : List MI} : ∀ k, 0 ≤ fr P Q k
  | 0 => Rat.le_refl
  | k + 1 => by
    have h := fr_nn (P := P) (Q := Q) k
    show 0 ≤ mxQ _ _
    unfold mxQ
    grind
theorem fr_le {P Q : List MI} {t : Rat} (ht : 0 ≤ t) : ∀ k, fr P Q k ≤ t ↔ ∀ i, i < k → qZ P i * (vQ Q (kZ (getZ P i)))⁻¹ ≤ t
  | 0 => ⟨fun _ i hi => absurd hi (Nat.not_lt_zero _), fun _ => ht⟩
  | k + 1 => by
    have ih := fr_le (P := P) (Q := Q) ht k
    have hst : fr P Q (k + 1) ≤ t ↔ fr P Q k ≤ t ∧ qZ P k * (vQ Q (kZ (getZ P k)))⁻¹ ≤ t := by
      show mxQ _ _ ≤ t ↔ _
      unfold mxQ
      grind
    rw [hst, ih]
    constructor
    · rintro ⟨h1, h2⟩ i hi
      rcases Nat.lt_or_ge i k with h3 | h3
      · exact h1 i h3
      · obtain rfl : i = k := by omega
        exact h2
    · exact fun h => ⟨fun i hi => h i (by omega), h k (by omega)⟩
theorem fr_sz {P Q : List MI} (hr : ∀ i, i < P.length → Sz 60 (qZ P i * (vQ Q (kZ (getZ P i)))⁻¹)) : ∀ k, k ≤ P.length → Sz 60 (fr P Q k)
  | 0, _ => Sz.zero.mono (by omega)
  | k + 1, h => by
    show Sz 60 (mxQ _ _)
    unfold mxQ
    split
    · exact fr_sz hr k (by omega)
    · exact hr k (by omega)
theorem fr_run {P Q : List MI} (hr : ∀ i, i < P.length → Sz 60 (qZ P i * (vQ Q (kZ (getZ P i)))⁻¹)) : ∀ k, k ≤ P.length →
    runO (fun k s => facF s (qZ P k) (vQ Q (kZ (getZ P k)))) 0 k = some (fr P Q k)
  | 0, _ => rfl
  | k + 1, h => by
    rw [runO_step (fr_run hr k (by omega))]
    unfold facF
    rw [okQ_yes ((hr k (by omega)).qok (by omega) (by omega))]
    rfl
theorem quo_le {a b t : Rat} (hb : 0 < b) : a * b⁻¹ ≤ t ↔ a ≤ t * b := by
  have h1 : b * b⁻¹ = 1 := Rat.mul_inv_cancel b (Ne.symm (Rat.ne_of_lt hb))
  have hi : 0 ≤ b⁻¹ := by
    rcases Rat.le_total (a := 0) (b := b⁻¹) with h | h
    · exact h
    · have h2 : 0 ≤ b * (-b⁻¹) := Rat.mul_nonneg (Rat.le_of_lt hb) (by grind)
      have h3 : b * (-b⁻¹) = -(b * b⁻¹) := by grind
      rw [h3, h1] at h2
      exact absurd h2 (by decide)
  constructor
  · intro h
    have h2 := Rat.mul_nonneg (a := t - a * b⁻¹) (b := b) (by grind) (Rat.le_of_lt hb)
    have h3 : (t - a * b⁻¹) * b = t * b - a * (b * b⁻¹) := by grind
    rw [h3, h1] at h2
    grind
  · intro h
    have h2 := Rat.mul_nonneg (a := t * b - a) (b := b⁻¹) (by grind) hi
    have h3 : (t * b - a) * b⁻¹ = t * (b * b⁻¹) - a * b⁻¹ := by grind
    rw [h3, h1] at h2
    grind

theorem dlt_run2 {P Q : List MI} {f : Rat} (hp : litB P = true) (hq : litB Q = true) (hop : OKM P) (hoq : OKM Q) (hf : Sz 60 f) :
    dltO P Q f = some (dl P Q f) ∧ Sz 1800 (dl P Q f) := by
  have h16 := (litB_yes hp).1
  have hd : ∀ i, i < P.length → Sz 109 (dD P Q f i) := fun i hi => by
    have h1 := lit_sz hp hop i hi
    have h2 := Sz.mul hf (vQ_sz hq hoq (kZ (getZ P i)))
    exact mx0_sz (by omega) (Sz.sub h1 h2)
  have hs : ∀ n, n ≤ P.length → Sz (n * 110 + 1) (sm (dD P Q f) n) := fun n hn => sm_sz (c := 109) (fun i hi => hd i (by omega))
  refine ⟨?_, (hs _ (Nat.le_refl _)).mono (by omega)⟩
  unfold dltO dl
  refine runO_sm fun k hk => ?_
  unfold dltF exO
  have h1 := lit_sz hp hop k hk
  have h2 := Sz.mul hf (vQ_sz hq hoq (kZ (getZ P k)))
  have h3 := Sz.sub h1 h2
  rw [okQ_yes (h2.qok (by omega) (by omega))]
  show (((okQ (qZ P k + -(f * vQ Q (kZ (getZ P k))))).map mx0).bind fun d => okQ (sm (dD P Q f) k + d)) = _
  rw [← Rat.sub_eq_add_neg, okQ_yes (h3.qok (by omega) (by omega))]
  show okQ (sm (dD P Q f) k + dD P Q f k) = _
  exact okQ_yes ((hs (k + 1) (by omega)).qok (by omega) (by omega))
theorem dlt_is2 {P Q : List MI} {f : Rat} (hp : litB P = true) (hq : litB Q = true) (hcp : chkZ P = 0) (hcq : chkZ Q = 0) (hf : Sz 60 f) (hf0 : 0 ≤ f) : dltE P Q (qstr f) = (qstr (dl P Q f), 0) := by
  have ho := hf.qok (by omega) (by omega)
  unfold dltE
  rw [if_neg (by unfold bE; rw [hcp, hcq]; simp), if_neg (by rw [eS_q ho hf0]; simp), ratS_q, (dlt_run2 hp hq (chk_ok hcp).1 (chk_ok hcq).1 hf).1]
  rfl
theorem all_has {P Q : List MI} (h : allZ P Q = true) {i : Nat} (hi : i < P.length) : hasZ (kZ (getZ P i)) Q = true := by
  unfold allZ at h
  rw [List.all_eq_true] at h
  rw [getZ_of (List.getElem?_eq_getElem hi)]
  exact h _ (List.getElem_mem hi)
/-- What DistFactors asks, where the second list has all outcomes of the first. -/
theorem fac_yes {P Q : List MI} (hp : litB P = true) (hq : litB Q = true) (hcp : chkZ P = 0) (hcq : chkZ Q = 0) (h : allZ P Q = true) :
    ∃ r, facE P Q = (qstr r, true, 0) ∧ Sz 60 r ∧ 0 ≤ r ∧ dl P Q r = 0 ∧ 1 ≤ r ∧ ∀ f, 0 ≤ f → (dl P Q f = 0 ↔ r ≤ f) := by
  have dp := DiL.of hcp
  have dq := DiL.of hcq
  have hr : ∀ i, i < P.length → Sz 60 (qZ P i * (vQ Q (kZ (getZ P i)))⁻¹) := fun i hi => (Sz.mul (lit_sz hp dp.ok i hi) (Sz.inv (vQ_sz hq dq.ok _))).mono (by omega)
  have hb : ∀ i, i < P.length → 0 < vQ Q (kZ (getZ P i)) := fun i hi => by
    obtain ⟨j, hj, e⟩ := has_get (all_has h hi)
    rw [← e, vQ_get dq.srt hj]
    exact dq.pos j hj
  have hiff : ∀ f, 0 ≤ f → (dl P Q f = 0 ↔ fr P Q P.length ≤ f) := fun f hf => by
    rw [dl_zero, fr_le hf]
    exact forall_congr' fun i => ⟨fun h1 hi => (quo_le (hb i hi)).2 (h1 hi), fun h1 hi => (quo_le (hb i hi)).1 (h1 hi)⟩
  have h0 := (hiff _ (fr_nn _)).2 Rat.le_refl
  refine ⟨fr P Q P.length, ?_, fr_sz hr _ (Nat.le_refl _), fr_nn _, h0, ?_, hiff⟩
  · unfold facE cmpR cmpO
    rw [if_neg (by unfold bE; rw [hcp, hcq]; simp), if_pos h, fr_run hr _ (Nat.le_refl _)]
    rfl
  · have h1 := fr_nn (P := P) (Q := Q) P.length
    have h2 := dl_zero.1 h0
    generalize fr P Q P.length = r at *
    have h3 : sm (qZ P) P.length ≤ r * ks P (vQ Q) P.length := by
      unfold ks
      rw [← sm_mul]
      exact sm_le fun i hi => h2 i hi
    have h4 := inject dp.srt (Q := Q) (Nat.le_refl _) dq.nn (fun k => vQ_out)
    rw [dq.kone] at h4
    rw [dp.one] at h3
    have h5 := Rat.mul_nonneg (a := r) (b := 1 - ks P (vQ Q) P.length) h1 (by grind)
    grind
theorem fac_no {P Q : List MI} (hcp : chkZ P = 0) (hcq : chkZ Q = 0) (h : allZ P Q = false) :
    facE P Q = (⟨#[]⟩, false, 0) ∧ ∀ f, dl P Q f ≠ 0 := by
  have dp := DiL.of hcp
  refine ⟨?_, fun f hf => ?_⟩
  · unfold facE cmpR
    rw [if_neg (by unfold bE; rw [hcp, hcq]; simp), if_neg (by rw [h]; simp)]
  · unfold allZ at h
    rw [List.all_eq_false] at h
    obtain ⟨x, hx, hn⟩ := h
    obtain ⟨i, hi, rfl⟩ := List.mem_iff_getElem.1 hx
    have h1 := dl_zero.1 hf i hi
    rw [getZ_of (List.getElem?_eq_getElem hi), vQ_out (by simpa using hn)] at h1
    have h2 := dp.pos i hi
    grind
section
variable {P : Program} {ops : Array Oper} {Q : Exit → Act → World → Prop} {md : Region.Mode} {S : World → Prop}
theorem wpHz_takeG {i : Nat} {oi : Oper} {v : Value} {d fuel : Nat} {listed : Array Bool} {a : Act} {w : World} (hi : ops[i]? = some oi) (hd : oi.dst = some d)
    (hs : Region.noSelect ops = true) (hf : Region.free md ops listed i = true) (hr : (Region.ready md ops listed).contains i = true)
    (hQ : ∀ c a w, Q (.panic c) (a.put (some d) v) w → Q (.panic c) a w) (hg : Region.wanted oi (yielded ops a.tmps) = true) (hy : ∀ w, S w → (execOp a.eval oi).run P w = .ok (.value v) w) (hS : S w)
    (h : wpAnyH P md ops Q S fuel (listed.setIfInBounds i true) (a.put (some d) v) w) : wpAnyH P md ops Q S (fuel + 1) listed a w :=
  wpAnyH_take hi hs hf hr (hd ▸ hQ) (.inl ⟨hg, hy⟩) hS (hd ▸ h)
theorem wpOz_runG {i : Nat} {o : Oper} {K : Act → World → Prop} {a : Act} {w : World} (hi : ops[i]? = some o) (hg : Region.wanted o (yielded ops a.tmps) = true) (h : Oper.wp P o a w K Q) : wpOp P ops Q i K a w := by
  unfold wpOp
  simp only [hi]
  rw [if_pos hg]
  exact .inl h
end
theorem q1Z : qstr 1 = ⟨#[49]⟩ := by decide +kernel
theorem q0_iff {q : Rat} : qstr q = ⟨#[48]⟩ ↔ q = 0 := by
  rw [← q0Z]
  exact ⟨fun h => by have := congrArg ratS h; rwa [ratS_q, ratS_q] at this, fun h => by rw [h]⟩
end Go.Proofs.YtofanopnibbaeaaGreatDoor
