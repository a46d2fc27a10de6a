/-
  Rational numbers: sign, what is above and below the line, of sums, products, inverses, powers and fractions; how many digits they have.
-/
import Derived.Test.YtadkijaofmcgfaaGreatDoorGA
namespace Go.Proofs.YtadkijaofmcgfaaGreatDoor

theorem natAbs_div {N : Int} {r : Nat} (h : r ∣ N.natAbs) : (N / (r : Int)).natAbs = N.natAbs / r := by
  obtain ⟨k, hk⟩ := Int.ofNat_dvd_left.2 h
  by_cases hr : r = 0
  · subst hr; simp
  · subst hk
    rw [Int.mul_ediv_cancel_left _ (by omega), Int.natAbs_mul, Int.natAbs_natCast, Nat.mul_div_cancel_left _ (by omega)]

theorem div_neg_iff {N : Int} {r : Nat} (hr : 0 < r) (h : r ∣ N.natAbs) : N / (r : Int) < 0 ↔ N < 0 := by
  have : N / (r : Int) * r = N := Int.ediv_mul_cancel (Int.ofNat_dvd_left.2 h)
  constructor
  · intro hn
    rw [← this]
    exact Int.mul_neg_of_neg_of_pos hn (by omega)
  · intro hn
    exact Int.ediv_neg_of_neg_of_pos hn (by omega)

/-- The sign of a number, what is above the line. -/
def ng (q : Rat) : Bool := decide (q.num < 0)
def tp (q : Rat) : Nat := q.num.natAbs

theorem num_of (q : Rat) : q.num = if ng q then -(tp q : Int) else (tp q : Int) := by
  unfold ng tp
  by_cases h : q.num < 0
  · rw [decide_eq_true h, if_pos rfl]; omega
  · rw [decide_eq_false h, if_neg (by simp)]; omega

theorem ng_zero {q : Rat} (h : ng q = true) : tp q ≠ 0 := by
  unfold ng tp at *
  have := of_decide_eq_true h
  omega

/-- The sum of two signed numbers: what is above, and the sign. -/
def sTop (m1 m2 : Bool) (o t : Nat) : Nat := if m1 = m2 then o + t else if t ≤ o then o - t else t - o
def sNeg (m1 m2 : Bool) (o t : Nat) : Bool := if m1 = m2 then m1 else if t ≤ o then m1 else m2

theorem signed_sum (m1 m2 : Bool) (o t : Nat) :
    ((if m1 then -(o : Int) else o) + (if m2 then -(t : Int) else t)).natAbs = sTop m1 m2 o t ∧
    decide ((if m1 then -(o : Int) else o) + (if m2 then -(t : Int) else t) < 0) = (sNeg m1 m2 o t && !decide (sTop m1 m2 o t = 0)) := by
  unfold sTop sNeg
  cases m1 <;> cases m2 <;> simp <;> (try split) <;> (try simp) <;> (try (constructor)) <;> (try omega)
  all_goals (rw [Bool.eq_iff_iff]; simp; omega)

theorem add_parts (a b : Rat) : ∀ g T r, g = Nat.gcd a.den b.den → T = sTop (ng a) (ng b) (tp a * (b.den / g)) (tp b * (a.den / g)) → r = Nat.gcd T g →
    tp (a + b) = T / r ∧ (a + b).den = a.den / g * (b.den / r) ∧ ng (a + b) = (sNeg (ng a) (ng b) (tp a * (b.den / g)) (tp b * (a.den / g)) && !decide (T / r = 0)) := by
  intro g T r hg hT hr
  have hgp : 0 < g := by rw [hg]; exact Nat.gcd_pos_of_pos_left _ a.den_pos
  have hN : a.num * ((b.den / g : Nat) : Int) + b.num * ((a.den / g : Nat) : Int) = (if ng a then -((tp a * (b.den / g) : Nat) : Int) else ((tp a * (b.den / g) : Nat) : Int)) + (if ng b then -((tp b * (a.den / g) : Nat) : Int) else ((tp b * (a.den / g) : Nat) : Int)) := by
    rw [num_of a, num_of b]
    cases ng a <;> cases ng b <;> simp [Int.neg_mul, Int.natCast_mul]
  obtain ⟨s1, s2⟩ := signed_sum (ng a) (ng b) (tp a * (b.den / g)) (tp b * (a.den / g))
  rw [← hN] at s1 s2
  rw [← hT] at s1 s2
  generalize hNN : a.num * ((b.den / g : Nat) : Int) + b.num * ((a.den / g : Nat) : Int) = N at s1 s2
  have hrp : 0 < r := by rw [hr]; exact Nat.gcd_pos_of_pos_right _ hgp
  have hrT : r ∣ T := by rw [hr]; exact Nat.gcd_dvd_left _ _
  have hrb : r ∣ b.den := by rw [hr]; exact Nat.dvd_trans (Nat.gcd_dvd_right _ _) (hg ▸ Nat.gcd_dvd_right _ _)
  have hrN : r ∣ N.natAbs := by rw [s1]; exact hrT
  have key : (a + b).num = N / (r : Int) ∧ (a + b).den = a.den / g * b.den / r := by
    have hu : a + b = Rat.add a b := rfl
    rw [hu]
    unfold Rat.add
    by_cases h1 : g = 1
    · have hg1 : a.den.gcd b.den = 1 := by rw [← hg, h1]
      have hr1 : r = 1 := by rw [hr, h1, Nat.gcd_one_right]
      simp only [hg1, dif_pos]
      rw [h1] at hNN
      simp only [Nat.div_one] at hNN
      rw [hr1, h1, hNN]
      simp
    · have hg1 : ¬ a.den.gcd b.den = 1 := by rw [← hg]; exact h1
      simp only [hg1, dif_neg, not_false_iff, Rat.maybeNormalize_eq, Int.divExact_eq_tdiv]
      rw [← hg, hNN]
      have : N.natAbs.gcd g = r := by rw [s1, hr]
      rw [this]
      exact ⟨Int.tdiv_eq_ediv_of_dvd (Int.ofNat_dvd_left.2 hrN), rfl⟩
  refine ⟨?_, ?_, ?_⟩
  · unfold tp; rw [key.1, natAbs_div hrN, s1]
  · rw [key.2, Nat.mul_div_assoc _ hrb]
  · have e1 : ng (a + b) = decide (N < 0) := by
      unfold ng; rw [key.1]; exact decide_eq_decide.2 (div_neg_iff hrp hrN)
    have e2 : decide (T / r = 0) = decide (T = 0) := by
      apply decide_eq_decide.2
      obtain ⟨k, hk⟩ := hrT
      rw [hk, Nat.mul_div_cancel_left _ hrp]
      constructor
      · intro h; rw [h]; rfl
      · intro h; rcases Nat.mul_eq_zero.1 h with h | h <;> omega
    rw [e1, e2, s2]

theorem mul_parts (a b : Rat) : ∀ g1 g2, g1 = Nat.gcd (tp a) b.den → g2 = Nat.gcd (tp b) a.den →
    tp (a * b) = tp a / g1 * (tp b / g2) ∧ (a * b).den = a.den / g2 * (b.den / g1) ∧ ng (a * b) = ((ng a != ng b) && !decide (tp a / g1 * (tp b / g2) = 0)) := by
  intro g1 g2 h1 h2
  have p1 : 0 < g1 := by rw [h1]; exact Nat.gcd_pos_of_pos_right _ b.den_pos
  have p2 : 0 < g2 := by rw [h2]; exact Nat.gcd_pos_of_pos_right _ a.den_pos
  have d1 : g1 ∣ tp a := by rw [h1]; exact Nat.gcd_dvd_left _ _
  have d2 : g2 ∣ tp b := by rw [h2]; exact Nat.gcd_dvd_left _ _
  have d1' : (g1 : Int) ∣ a.num := Int.ofNat_dvd_left.2 d1
  have d2' : (g2 : Int) ∣ b.num := Int.ofNat_dvd_left.2 d2
  have key : (a * b).num = a.num / (g1 : Int) * (b.num / (g2 : Int)) ∧ (a * b).den = a.den / g2 * (b.den / g1) := by
    have hu : a * b = Rat.mul a b := rfl
    rw [hu]
    unfold Rat.mul
    simp only [Int.divExact_eq_tdiv, Nat.divExact_eq_div]
    rw [show a.num.natAbs.gcd b.den = g1 from h1.symm, show b.num.natAbs.gcd a.den = g2 from h2.symm]
    rw [Int.tdiv_eq_ediv_of_dvd d1', Int.tdiv_eq_ediv_of_dvd d2']
    exact ⟨rfl, rfl⟩
  have t : tp (a * b) = tp a / g1 * (tp b / g2) := by
    unfold tp; rw [key.1, Int.natAbs_mul, natAbs_div d1, natAbs_div d2]
  refine ⟨t, key.2, ?_⟩
  rw [← t]
  unfold ng tp
  rw [key.1]
  have e1 := div_neg_iff p1 d1
  have e2 := div_neg_iff p2 d2
  generalize a.num / (g1 : Int) = x at *
  generalize b.num / (g2 : Int) = y at *
  rw [show decide (a.num < 0) = decide (x < 0) from decide_eq_decide.2 e1.symm, show decide (b.num < 0) = decide (y < 0) from decide_eq_decide.2 e2.symm]
  clear key t
  rcases Int.lt_trichotomy x 0 with hx | hx | hx <;> rcases Int.lt_trichotomy y 0 with hy | hy | hy
  all_goals first
    | (subst hx; simp; done)
    | (subst hy; simp; done)
    | skip
  · have : 0 < x * y := Int.mul_pos_of_neg_of_neg hx hy
    simp [hx, hy]; omega
  · have : x * y < 0 := Int.mul_neg_of_neg_of_pos hx hy
    simp [hx, show ¬ y < 0 by omega, this, show x ≠ 0 by omega, show y ≠ 0 by omega]
  · have : x * y < 0 := Int.mul_neg_of_pos_of_neg hx hy
    simp [hy, show ¬ x < 0 by omega, this, show x ≠ 0 by omega, show y ≠ 0 by omega]
  · have : 0 < x * y := Int.mul_pos hx hy
    simp [show ¬ x < 0 by omega, show ¬ y < 0 by omega]; omega

theorem neg_parts (a : Rat) : tp (-a) = tp a ∧ (-a).den = a.den ∧ ng (-a) = (!ng a && !decide (tp a = 0)) := by
  refine ⟨by unfold tp; simp, rfl, ?_⟩
  unfold ng tp
  rw [Rat.neg_num]
  generalize a.num = x
  rcases Int.lt_trichotomy x 0 with h | h | h
  · rw [decide_eq_true h, decide_eq_false (by omega)]; rfl
  · subst h; rfl
  · rw [decide_eq_true (by omega), decide_eq_false (by omega), decide_eq_false (by omega)]; rfl

theorem inv_parts {a : Rat} (h : a ≠ 0) : tp a⁻¹ = a.den ∧ (a⁻¹).den = tp a ∧ ng a⁻¹ = ng a := by
  have hn : a.num ≠ 0 := fun e => h (Rat.num_eq_zero.1 e)
  have hd := a.den_pos
  refine ⟨?_, ?_, ?_⟩
  · unfold tp; rw [Rat.num_inv, Int.natAbs_mul, Int.natAbs_sign_of_ne_zero hn]; simp
  · unfold tp; rw [Rat.den_inv, if_neg hn]
  · unfold ng; rw [Rat.num_inv]
    rcases Int.lt_trichotomy a.num 0 with h | h | h
    · rw [Int.sign_eq_neg_one_of_neg h, decide_eq_true h]; exact decide_eq_true (by omega)
    · exact absurd h hn
    · rw [Int.sign_eq_one_of_pos h]; exact decide_eq_decide.2 (by constructor <;> intro <;> omega)

theorem pow_parts (a : Rat) (k : Nat) : tp (a ^ k) = tp a ^ k ∧ (a ^ k).den = a.den ^ k ∧ ng (a ^ k) = (ng a && decide (k % 2 = 1)) := by
  have t : tp (a ^ k) = tp a ^ k := by unfold tp; rw [Rat.num_pow, Int.natAbs_pow]
  refine ⟨t, Rat.den_pow a k, ?_⟩
  unfold ng
  rw [Rat.num_pow]
  generalize a.num = x
  have hpos : 0 ≤ x → 0 ≤ x ^ k := fun h => Int.pow_nonneg h
  by_cases hx : x < 0
  · have hk : ∀ j : Nat, (j % 2 = 1 → x ^ j < 0) ∧ (j % 2 = 0 → 0 < x ^ j) := by
      intro j
      induction j with
      | zero => simp
      | succ j ih =>
        rw [Int.pow_succ]
        constructor
        · intro h; exact Int.mul_neg_of_pos_of_neg (ih.2 (by omega)) hx
        · intro h; exact Int.mul_pos_of_neg_of_neg (ih.1 (by omega)) hx
    rw [decide_eq_true hx, Bool.true_and]
    apply decide_eq_decide.2
    constructor
    · intro h
      by_cases h2 : k % 2 = 1
      · exact h2
      · have := (hk k).2 (by omega); omega
    · exact (hk k).1
  · rw [decide_eq_false hx, Bool.false_and, decide_eq_false]
    have := hpos (by omega)
    omega

theorem rat_of {m : Bool} {n d : Nat} (hd : d ≠ 0) (hc : Nat.gcd n d = 1) (hz : m = true → n ≠ 0) : ∃ q : Rat, ng q = m ∧ tp q = n ∧ q.den = d := by
  refine ⟨⟨if m then -(n : Int) else n, d, hd, ?_⟩, ?_, ?_, rfl⟩
  · cases m <;> simpa [Nat.Coprime] using hc
  · unfold ng; cases m
    · simp
    · have := hz rfl; simp; omega
  · unfold tp; cases m <;> simp

theorem rat_ext {p q : Rat} (h1 : ng p = ng q) (h2 : tp p = tp q) (h3 : p.den = q.den) : p = q :=
  Rat.ext (by rw [num_of p, num_of q, h1, h2]) h3

theorem zero_parts (q : Rat) : tp q = 0 ↔ q = 0 := by
  unfold tp; rw [Int.natAbs_eq_zero]; exact Rat.num_eq_zero
/-- Both numbers have at most k digits. -/
def Sz (k : Nat) (q : Rat) : Prop := tp q < 10 ^ k ∧ q.den < 10 ^ k

theorem Sz.mono {i j : Nat} {q : Rat} (h : Sz i q) (hij : i ≤ j) : Sz j q :=
  ⟨Nat.lt_of_lt_of_le h.1 (Nat.pow_le_pow_right (by omega) hij), Nat.lt_of_lt_of_le h.2 (Nat.pow_le_pow_right (by omega) hij)⟩

theorem sz_mul {a b i j : Nat} (ha : a < 10 ^ i) (hb : b < 10 ^ j) : a * b < 10 ^ (i + j) := by
  rw [Nat.pow_add]
  exact Nat.mul_lt_mul'' ha hb

theorem sTop_le (m1 m2 : Bool) (o t : Nat) : sTop m1 m2 o t ≤ o + t := by
  unfold sTop; split
  · exact Nat.le_refl _
  · split <;> omega

theorem Sz.add {i j : Nat} {p q : Rat} (hp : Sz i p) (hq : Sz j q) : Sz (i + j + 1) (p + q) := by
  obtain ⟨h1, h2, _⟩ := add_parts p q _ _ _ rfl rfl rfl
  constructor
  · rw [h1]
    refine Nat.lt_of_le_of_lt (Nat.div_le_self _ _) (Nat.lt_of_le_of_lt (sTop_le _ _ _ _) ?_)
    have e1 : tp p * (q.den / Nat.gcd p.den q.den) < 10 ^ (i + j) :=
      Nat.lt_of_le_of_lt (Nat.mul_le_mul_left _ (Nat.div_le_self _ _)) (sz_mul hp.1 hq.2)
    have e2 : tp q * (p.den / Nat.gcd p.den q.den) < 10 ^ (i + j) := by
      rw [Nat.add_comm i j]
      exact Nat.lt_of_le_of_lt (Nat.mul_le_mul_left _ (Nat.div_le_self _ _)) (sz_mul hq.1 hp.2)
    rw [Nat.pow_succ]
    omega
  · rw [h2]
    refine Nat.lt_of_le_of_lt (Nat.mul_le_mul (Nat.div_le_self _ _) (Nat.div_le_self _ _)) (Nat.lt_of_lt_of_le (sz_mul hp.2 hq.2) (Nat.pow_le_pow_right (by omega) (by omega)))

theorem Sz.mul {i j : Nat} {p q : Rat} (hp : Sz i p) (hq : Sz j q) : Sz (i + j) (p * q) := by
  obtain ⟨h1, h2, _⟩ := mul_parts p q _ _ rfl rfl
  constructor
  · rw [h1]
    exact Nat.lt_of_le_of_lt (Nat.mul_le_mul (Nat.div_le_self _ _) (Nat.div_le_self _ _)) (sz_mul hp.1 hq.1)
  · rw [h2]
    exact Nat.lt_of_le_of_lt (Nat.mul_le_mul (Nat.div_le_self _ _) (Nat.div_le_self _ _)) (sz_mul hp.2 hq.2)

theorem Sz.neg {i : Nat} {p : Rat} (hp : Sz i p) : Sz i (-p) := by
  obtain ⟨h1, h2, _⟩ := neg_parts p
  exact ⟨by rw [h1]; exact hp.1, by rw [h2]; exact hp.2⟩

theorem Sz.sub {i j : Nat} {p q : Rat} (hp : Sz i p) (hq : Sz j q) : Sz (i + j + 1) (p - q) := by
  rw [Rat.sub_eq_add_neg]; exact hp.add hq.neg

theorem Sz.inv {i : Nat} {p : Rat} (hp : Sz i p) : Sz (i + 1) (p⁻¹) := by
  by_cases h : p = 0
  · subst h
    rw [Rat.inv_zero]; exact ⟨Nat.pow_pos (by omega), by show 1 < 10 ^ (i + 1); rw [Nat.pow_succ]; have := Nat.pow_pos (n := i) (show 0 < 10 by omega); omega⟩
  · obtain ⟨h1, h2, _⟩ := inv_parts h
    exact Sz.mono ⟨by rw [h1]; exact hp.2, by rw [h2]; exact hp.1⟩ (by omega)

theorem Sz.div {i j : Nat} {p q : Rat} (hp : Sz i p) (hq : Sz j q) : Sz (i + (j + 1)) (p / q) := by
  rw [Rat.div_def]; exact hp.mul hq.inv
/-- A fraction, not yet in lowest terms, as a rational number. -/
def mkQ (m : Bool) (n d : Nat) : Rat := mkRat (if m then -(n : Int) else (n : Int)) d

theorem red_parts (m : Bool) (n : Nat) {d : Nat} (hd : d ≠ 0) : tp (mkQ m n d) = n / Nat.gcd n d ∧ (mkQ m n d).den = d / Nat.gcd n d ∧ ng (mkQ m n d) = (m && !decide (n / Nat.gcd n d = 0)) := by
  have hx : (if m then -(n : Int) else (n : Int)).natAbs = n := by cases m <;> simp
  have hg : 0 < Nat.gcd n d := Nat.gcd_pos_of_pos_right _ (Nat.pos_of_ne_zero hd)
  have hdv : Nat.gcd n d ∣ (if m then -(n : Int) else (n : Int)).natAbs := by rw [hx]; exact Nat.gcd_dvd_left _ _
  have h1 : (mkQ m n d).num = (if m then -(n : Int) else (n : Int)) / ((Nat.gcd n d : Nat) : Int) := by
    unfold mkQ; rw [Rat.num_mkRat, if_neg hd, hx, Nat.gcd_comm]
  have h2 : (mkQ m n d).den = d / Nat.gcd n d := by
    unfold mkQ; rw [Rat.den_mkRat, if_neg hd, hx, Nat.gcd_comm]
  have t : tp (mkQ m n d) = n / Nat.gcd n d := by unfold tp; rw [h1, natAbs_div hdv, hx]
  refine ⟨t, h2, ?_⟩
  unfold ng
  have hdec : decide ((if m then -(n : Int) else (n : Int)) / ((Nat.gcd n d : Nat) : Int) < 0) = decide ((if m then -(n : Int) else (n : Int)) < 0) := decide_eq_decide.2 (div_neg_iff hg hdv)
  rw [h1, hdec]
  have hz : decide (n / Nat.gcd n d = 0) = decide (n = 0) := by
    apply decide_eq_decide.2
    have hk := Nat.gcd_dvd_left n d
    constructor
    · intro h
      rw [← Nat.div_mul_cancel hk, h, Nat.zero_mul]
    · intro h; rw [h, Nat.zero_div]
  rw [hz]
  cases m
  · simp
  · by_cases h : n = 0
    · subst h; simp
    · rw [decide_eq_false h, if_pos rfl, decide_eq_true (by omega)]; rfl

theorem mkQ_self (q : Rat) : mkQ (ng q) (tp q) q.den = q := by
  unfold mkQ; rw [← num_of, Rat.mkRat_self]

end Go.Proofs.YtadkijaofmcgfaaGreatDoor
