/-
  Rational numbers: sign, what is above and below the line, of sums, products, inverses, powers and fractions; how many digits they have. Texts of rational numbers.
-/
import Derived.Test.YtjpepjooefkbkaaGreatDoorGA
import Derived.Test.YtjpepjooefkbkaaGreatDoorGI
namespace Go.Proofs.YtjpepjooefkbkaaGreatDoor
theorem natAbs_div {N : Int} {r : Nat} (h : r ∣ N.natAbs) : (N / (r : Int)).natAbs = N.natAbs / r := by
 obtain ⟨k, hk⟩ := Int.ofNat_dvd_left.2 h
 by_cases hr : r = 0
 ·subst hr; simp
 ·subst hk
  rw [Int.mul_ediv_cancel_left _ (by omega), Int.natAbs_mul, Int.natAbs_natCast, Nat.mul_div_cancel_left _ (by omega)]
theorem div_neg_iff {N : Int} {r : Nat} (hr : 0 < r) (h : r ∣ N.natAbs) : N / (r : Int) < 0 ↔ N < 0 := by
 have : N / (r : Int) * r = N := Int.ediv_mul_cancel (Int.ofNat_dvd_left.2 h)
 constructor
 ·intro hn
  rw [← this]
  exact Int.mul_neg_of_neg_of_pos hn (by omega)
 ·intro hn
  exact Int.ediv_neg_of_neg_of_pos hn (by omega)
def ng (q : Rat) : Bool := decide (q.num < 0)
def tp (q : Rat) : Nat := q.num.natAbs
theorem num_of (q : Rat) : q.num = if ng q then -(tp q : Int) else (tp q : Int) := by
 unfold ng tp
 by_cases h : q.num < 0
 ·rw [decide_eq_true h, if_pos rfl]; omega
 ·rw [decide_eq_false h, if_neg (by simp)]; omega
theorem ng_zero {q : Rat} (h : ng q = true) : tp q ≠ 0 := by
 unfold ng tp at *
 have := of_decide_eq_true h
 omega
def sTop (m1 m2 : Bool) (o t : Nat) : Nat := if m1 = m2 then o + t else if t ≤ o then o - t else t - o
def sNeg (m1 m2 : Bool) (o t : Nat) : Bool := if m1 = m2 then m1 else if t ≤ o then m1 else m2
theorem signed_sum (m1 m2 : Bool) (o t : Nat) :
  ((if m1 then -(o : Int) else o) + (if m2 then -(t : Int) else t)).natAbs = sTop m1 m2 o t ∧
  decide ((if m1 then -(o : Int) else o) + (if m2 then -(t : Int) else t) < 0) = (sNeg m1 m2 o t && !decide (sTop m1 m2 o t = 0)) := by
 unfold sTop sNeg
 cases m1 <;> cases m2 <;> simp <;> (try split) <;> (try simp) <;> (try (constructor)) <;> (try omega)
 all_goals (rw [Bool.eq_iff_iff]; simp; omega)
theorem add_parts (a b : Rat) : ∀ g T r, g = Nat.gcd a.den b.den → T = sTop (ng a) (ng b) (tp a * (b.den / g)) (tp b * (a.den / g)) → r = Nat.gcd T g →
  tp (a + b) = T / r ∧ (a + b).den = a.den / g * (b.den / r) ∧ ng (a + b) = (sNeg (ng a) (ng b) (tp a * (b.den / g)) (tp b * (a.den / g)) && !decide (T / r = 0)) := by
 intro g T r hg hT hr
 have hgp : 0 < g := by rw [hg]; exact Nat.gcd_pos_of_pos_left _ a.den_pos
 have hN : a.num * ((b.den / g : Nat) : Int) + b.num * ((a.den / g : Nat) : Int) = (if ng a then -((tp a * (b.den / g) : Nat) : Int) else ((tp a * (b.den / g) : Nat) : Int)) + (if ng b then -((tp b * (a.den / g) : Nat) : Int) else ((tp b * (a.den / g) : Nat) : Int)) := by
  rw [num_of a, num_of b]
  cases ng a <;> cases ng b <;> simp [Int.neg_mul, Int.natCast_mul]
 obtain ⟨s1, s2⟩ := signed_sum (ng a) (ng b) (tp a * (b.den / g)) (tp b * (a.den / g))
 rw [← hN] at s1 s2
 rw [← hT] at s1 s2
 generalize hNN : a.num * ((b.den / g : Nat) : Int) + b.num * ((a.den / g : Nat) : Int) = N at s1 s2
 have hrp : 0 < r := by rw [hr]; exact Nat.gcd_pos_of_pos_right _ hgp
 have hrT : r ∣ T := by rw [hr]; exact Nat.gcd_dvd_left _ _
 have hrb : r ∣ b.den := by rw [hr]; exact Nat.dvd_trans (Nat.gcd_dvd_right _ _) (hg ▸ Nat.gcd_dvd_right _ _)
 have hrN : r ∣ N.natAbs := by rw [s1]; exact hrT
 have key : (a + b).num = N / (r : Int) ∧ (a + b).den = a.den / g * b.den / r := by
  have hu : a + b = Rat.add a b := rfl
  rw [hu]
  unfold Rat.add
  by_cases h1 : g = 1
  ·have hg1 : a.den.gcd b.den = 1 := by rw [← hg, h1]
   have hr1 : r = 1 := by rw [hr, h1, Nat.gcd_one_right]
   simp only [hg1, dif_pos]
   rw [h1] at hNN
   simp only [Nat.div_one] at hNN
   rw [hr1, h1, hNN]
   simp
  ·have hg1 : ¬ a.den.gcd b.den = 1 := by rw [← hg]; exact h1
   simp only [hg1, dif_neg, not_false_iff, Rat.maybeNormalize_eq, Int.divExact_eq_tdiv]
   rw [← hg, hNN]
   have : N.natAbs.gcd g = r := by rw [s1, hr]
   rw [this]
   exact ⟨Int.tdiv_eq_ediv_of_dvd (Int.ofNat_dvd_left.2 hrN), rfl⟩
 refine ⟨?_, ?_, ?_⟩
 ·unfold tp; rw [key.1, natAbs_div hrN, s1]
 ·rw [key.2, Nat.mul_div_assoc _ hrb]
 ·have e1 : ng (a + b) = decide (N < 0) := by
   unfold ng; rw [key.1]; exact decide_eq_decide.2 (div_neg_iff hrp hrN)
  have e2 : decide (T / r = 0) = decide (T = 0) := by
   apply decide_eq_decide.2
   obtain ⟨k, hk⟩ := hrT
   rw [hk, Nat.mul_div_cancel_left _ hrp]
   constructor
   ·intro h; rw [h]; rfl
   ·intro h; rcases Nat.mul_eq_zero.1 h with h | h <;> omega
  rw [e1, e2, s2]
theorem mul_parts (a b : Rat) : ∀ g1 g2, g1 = Nat.gcd (tp a) b.den → g2 = Nat.gcd (tp b) a.den →
  tp (a * b) = tp a / g1 * (tp b / g2) ∧ (a * b).den = a.den / g2 * (b.den / g1) ∧ ng (a * b) = ((ng a != ng b) && !decide (tp a / g1 * (tp b / g2) = 0)) := by
 intro g1 g2 h1 h2
 have p1 : 0 < g1 := by rw [h1]; exact Nat.gcd_pos_of_pos_right _ b.den_pos
 have p2 : 0 < g2 := by rw [h2]; exact Nat.gcd_pos_of_pos_right _ a.den_pos
 have d1 : g1 ∣ tp a := by rw [h1]; exact Nat.gcd_dvd_left _ _
 have d2 : g2 ∣ tp b := by rw [h2]; exact Nat.gcd_dvd_left _ _
 have d1' : (g1 : Int) ∣ a.num := Int.ofNat_dvd_left.2 d1
 have d2' : (g2 : Int) ∣ b.num := Int.ofNat_dvd_left.2 d2
 have key : (a * b).num = a.num / (g1 : Int) * (b.num / (g2 : Int)) ∧ (a * b).den = a.den / g2 * (b.den / g1) := by
  have hu : a * b = Rat.mul a b := rfl
  rw [hu]
  unfold Rat.mul
  simp only [Int.divExact_eq_tdiv, Nat.divExact_eq_div]
  rw [show a.num.natAbs.gcd b.den = g1 from h1.symm, show b.num.natAbs.gcd a.den = g2 from h2.symm]
  rw [Int.tdiv_eq_ediv_of_dvd d1', Int.tdiv_eq_ediv_of_dvd d2']
  exact ⟨rfl, rfl⟩
 have t : tp (a * b) = tp a / g1 * (tp b / g2) := by
  unfold tp; rw [key.1, Int.natAbs_mul, natAbs_div d1, natAbs_div d2]
 refine ⟨t, key.2, ?_⟩
 rw [← t]
 unfold ng tp
 rw [key.1]
 have e1 := div_neg_iff p1 d1
 have e2 := div_neg_iff p2 d2
 generalize a.num / (g1 : Int) = x at *
 generalize b.num / (g2 : Int) = y at *
 rw [show decide (a.num < 0) = decide (x < 0) from decide_eq_decide.2 e1.symm, show decide (b.num < 0) = decide (y < 0) from decide_eq_decide.2 e2.symm]
 clear key t
 rcases Int.lt_trichotomy x 0 with hx | hx | hx <;> rcases Int.lt_trichotomy y 0 with hy | hy | hy
 all_goals first
  | (subst hx; simp; done)
  | (subst hy; simp; done)
  | skip
 ·have : 0 < x * y := Int.mul_pos_of_neg_of_neg hx hy
  simp [hx, hy]; omega
 ·have : x * y < 0 := Int.mul_neg_of_neg_of_pos hx hy
  simp [hx, show ¬ y < 0 by omega, this, show x ≠ 0 by omega, show y ≠ 0 by omega]
 ·have : x * y < 0 := Int.mul_neg_of_pos_of_neg hx hy
  simp [hy, show ¬ x < 0 by omega, this, show x ≠ 0 by omega, show y ≠ 0 by omega]
 ·have : 0 < x * y := Int.mul_pos hx hy
  simp [show ¬ x < 0 by omega, show ¬ y < 0 by omega]; omega
theorem neg_parts (a : Rat) : tp (-a) = tp a ∧ (-a).den = a.den ∧ ng (-a) = (!ng a && !decide (tp a = 0)) := by
 refine ⟨by unfold tp; simp, rfl, ?_⟩
 unfold ng tp
 rw [Rat.neg_num]
 generalize a.num = x
 rcases Int.lt_trichotomy x 0 with h | h | h
 ·rw [decide_eq_true h, decide_eq_false (by omega)]; rfl
 ·subst h; rfl
 ·rw [decide_eq_true (by omega), decide_eq_false (by omega), decide_eq_false (by omega)]; rfl
theorem inv_parts {a : Rat} (h : a ≠ 0) : tp a⁻¹ = a.den ∧ (a⁻¹).den = tp a ∧ ng a⁻¹ = ng a := by
 have hn : a.num ≠ 0 := fun e => h (Rat.num_eq_zero.1 e)
 have hd := a.den_pos
 refine ⟨?_, ?_, ?_⟩
 ·unfold tp; rw [Rat.num_inv, Int.natAbs_mul, Int.natAbs_sign_of_ne_zero hn]; simp
 ·unfold tp; rw [Rat.den_inv, if_neg hn]
 ·unfold ng; rw [Rat.num_inv]
  rcases Int.lt_trichotomy a.num 0 with h | h | h
  ·rw [Int.sign_eq_neg_one_of_neg h, decide_eq_true h]; exact decide_eq_true (by omega)
  ·exact absurd h hn
  ·rw [Int.sign_eq_one_of_pos h]; exact decide_eq_decide.2 (by constructor <;> intro <;> omega)
theorem pow_parts (a : Rat) (k : Nat) : tp (a ^ k) = tp a ^ k ∧ (a ^ k).den = a.den ^ k ∧ ng (a ^ k) = (ng a && decide (k % 2 = 1)) := by
 have t : tp (a ^ k) = tp a ^ k := by unfold tp; rw [Rat.num_pow, Int.natAbs_pow]
 refine ⟨t, Rat.den_pow a k, ?_⟩
 unfold ng
 rw [Rat.num_pow]
 generalize a.num = x
 have hpos : 0 ≤ x → 0 ≤ x ^ k := fun h => Int.pow_nonneg h
 by_cases hx : x < 0
 ·have hk : ∀ j : Nat, (j % 2 = 1 → x ^ j < 0) ∧ (j % 2 = 0 → 0 < x ^ j) := by
   intro j
   induction j with
   | zero => simp
   | succ j ih =>
    rw [Int.pow_succ]
    constructor
    ·intro h; exact Int.mul_neg_of_pos_of_neg (ih.2 (by omega)) hx
    ·intro h; exact Int.mul_pos_of_neg_of_neg (ih.1 (by omega)) hx
  rw [decide_eq_true hx, Bool.true_and]
  apply decide_eq_decide.2
  constructor
  ·intro h
   by_cases h2 : k % 2 = 1
   ·exact h2
   ·have := (hk k).2 (by omega); omega
  ·exact (hk k).1
 ·rw [decide_eq_false hx, Bool.false_and, decide_eq_false]
  have := hpos (by omega)
  omega
theorem rat_of {m : Bool} {n d : Nat} (hd : d ≠ 0) (hc : Nat.gcd n d = 1) (hz : m = true → n ≠ 0) : ∃ q : Rat, ng q = m ∧ tp q = n ∧ q.den = d := by
 refine ⟨⟨if m then -(n : Int) else n, d, hd, ?_⟩, ?_, ?_, rfl⟩
 ·cases m <;> simpa [Nat.Coprime] using hc
 ·unfold ng; cases m
  ·simp
  ·have := hz rfl; simp; omega
 ·unfold tp; cases m <;> simp
theorem rat_ext {p q : Rat} (h1 : ng p = ng q) (h2 : tp p = tp q) (h3 : p.den = q.den) : p = q :=
 Rat.ext (by rw [num_of p, num_of q, h1, h2]) h3
theorem zero_parts (q : Rat) : tp q = 0 ↔ q = 0 := by
 unfold tp; rw [Int.natAbs_eq_zero]; exact Rat.num_eq_zero
def Sz (k : Nat) (q : Rat) : Prop := tp q < 10 ^ k ∧ q.den < 10 ^ k
theorem Sz.mono {i j : Nat} {q : Rat} (h : Sz i q) (hij : i ≤ j) : Sz j q :=
 ⟨Nat.lt_of_lt_of_le h.1 (Nat.pow_le_pow_right (by omega) hij), Nat.lt_of_lt_of_le h.2 (Nat.pow_le_pow_right (by omega) hij)⟩
theorem sz_mul {a b i j : Nat} (ha : a < 10 ^ i) (hb : b < 10 ^ j) : a * b < 10 ^ (i + j) := by
 rw [Nat.pow_add]
 exact Nat.mul_lt_mul'' ha hb
theorem sTop_le (m1 m2 : Bool) (o t : Nat) : sTop m1 m2 o t ≤ o + t := by
 unfold sTop; split
 ·exact Nat.le_refl _
 ·split <;> omega
theorem Sz.add {i j : Nat} {p q : Rat} (hp : Sz i p) (hq : Sz j q) : Sz (i + j + 1) (p + q) := by
 obtain ⟨h1, h2, _⟩ := add_parts p q _ _ _ rfl rfl rfl
 constructor
 ·rw [h1]
  refine Nat.lt_of_le_of_lt (Nat.div_le_self _ _) (Nat.lt_of_le_of_lt (sTop_le _ _ _ _) ?_)
  have e1 : tp p * (q.den / Nat.gcd p.den q.den) < 10 ^ (i + j) :=
   Nat.lt_of_le_of_lt (Nat.mul_le_mul_left _ (Nat.div_le_self _ _)) (sz_mul hp.1 hq.2)
  have e2 : tp q * (p.den / Nat.gcd p.den q.den) < 10 ^ (i + j) := by
   rw [Nat.add_comm i j]
   exact Nat.lt_of_le_of_lt (Nat.mul_le_mul_left _ (Nat.div_le_self _ _)) (sz_mul hq.1 hp.2)
  rw [Nat.pow_succ]
  omega
 ·rw [h2]
  refine Nat.lt_of_le_of_lt (Nat.mul_le_mul (Nat.div_le_self _ _) (Nat.div_le_self _ _)) (Nat.lt_of_lt_of_le (sz_mul hp.2 hq.2) (Nat.pow_le_pow_right (by omega) (by omega)))
theorem Sz.mul {i j : Nat} {p q : Rat} (hp : Sz i p) (hq : Sz j q) : Sz (i + j) (p * q) := by
 obtain ⟨h1, h2, _⟩ := mul_parts p q _ _ rfl rfl
 constructor
 ·rw [h1]
  exact Nat.lt_of_le_of_lt (Nat.mul_le_mul (Nat.div_le_self _ _) (Nat.div_le_self _ _)) (sz_mul hp.1 hq.1)
 ·rw [h2]
  exact Nat.lt_of_le_of_lt (Nat.mul_le_mul (Nat.div_le_self _ _) (Nat.div_le_self _ _)) (sz_mul hp.2 hq.2)
theorem Sz.neg {i : Nat} {p : Rat} (hp : Sz i p) : Sz i (-p) := by
 obtain ⟨h1, h2, _⟩ := neg_parts p
 exact ⟨by rw [h1]; exact hp.1, by rw [h2]; exact hp.2⟩
theorem Sz.sub {i j : Nat} {p q : Rat} (hp : Sz i p) (hq : Sz j q) : Sz (i + j + 1) (p - q) := by
 rw [Rat.sub_eq_add_neg]; exact hp.add hq.neg
theorem Sz.inv {i : Nat} {p : Rat} (hp : Sz i p) : Sz (i + 1) (p⁻¹) := by
 by_cases h : p = 0
 ·subst h
  rw [Rat.inv_zero]; exact ⟨Nat.pow_pos (by omega), by show 1 < 10 ^ (i + 1); rw [Nat.pow_succ]; have := Nat.pow_pos (n := i) (show 0 < 10 by omega); omega⟩
 ·obtain ⟨h1, h2, _⟩ := inv_parts h
  exact Sz.mono ⟨by rw [h1]; exact hp.2, by rw [h2]; exact hp.1⟩ (by omega)
def mkQ (m : Bool) (n d : Nat) : Rat := mkRat (if m then -(n : Int) else (n : Int)) d
theorem red_parts (m : Bool) (n : Nat) {d : Nat} (hd : d ≠ 0) : tp (mkQ m n d) = n / Nat.gcd n d ∧ (mkQ m n d).den = d / Nat.gcd n d ∧ ng (mkQ m n d) = (m && !decide (n / Nat.gcd n d = 0)) := by
 have hx : (if m then -(n : Int) else (n : Int)).natAbs = n := by cases m <;> simp
 have hg : 0 < Nat.gcd n d := Nat.gcd_pos_of_pos_right _ (Nat.pos_of_ne_zero hd)
 have hdv : Nat.gcd n d ∣ (if m then -(n : Int) else (n : Int)).natAbs := by rw [hx]; exact Nat.gcd_dvd_left _ _
 have h1 : (mkQ m n d).num = (if m then -(n : Int) else (n : Int)) / ((Nat.gcd n d : Nat) : Int) := by
  unfold mkQ; rw [Rat.num_mkRat, if_neg hd, hx, Nat.gcd_comm]
 have h2 : (mkQ m n d).den = d / Nat.gcd n d := by
  unfold mkQ; rw [Rat.den_mkRat, if_neg hd, hx, Nat.gcd_comm]
 have t : tp (mkQ m n d) = n / Nat.gcd n d := by unfold tp; rw [h1, natAbs_div hdv, hx]
 refine ⟨t, h2, ?_⟩
 unfold ng
 have hdec : decide ((if m then -(n : Int) else (n : Int)) / ((Nat.gcd n d : Nat) : Int) < 0) = decide ((if m then -(n : Int) else (n : Int)) < 0) := decide_eq_decide.2 (div_neg_iff hg hdv)
 rw [h1, hdec]
 have hz : decide (n / Nat.gcd n d = 0) = decide (n = 0) := by
  apply decide_eq_decide.2
  have hk := Nat.gcd_dvd_left n d
  constructor
  ·intro h
   rw [← Nat.div_mul_cancel hk, h, Nat.zero_mul]
  ·intro h; rw [h, Nat.zero_div]
 rw [hz]
 cases m
 ·simp
 ·by_cases h : n = 0
  ·subst h; simp
  ·rw [decide_eq_false h, if_pos rfl, decide_eq_true (by omega)]; rfl
theorem mkQ_self (q : Rat) : mkQ (ng q) (tp q) q.den = q := by
 unfold mkQ; rw [← num_of, Rat.mkRat_self]
open Go.RowKit NV
open Go.Lib (decDigits)
theorem ba_ext {a b : ByteArray} (h : a.data.toList = b.data.toList) : a = b := by
 cases a; cases b
 simp only at h
 rw [Array.toList_inj.1 h]
theorem app_list (a b : ByteArray) : (a ++ b).data.toList = a.data.toList ++ b.data.toList := by
 rw [ByteArray.data_append, Array.toList_append]
def qstr (q : Rat) : ByteArray := rstr (ng q) (tp q) q.den
def QOk (q : Rat) : Prop := Ok (tp q) ∧ Ok q.den
theorem dstr_of_good {s : ByteArray} (h : badB s.data.toList = false) : s = dstr (dv s.data.toList) := by
 obtain ⟨h1, h2, h3⟩ := good_parts h
 exact dstr_of (dec_of_digs h1 h2 h3).symm
theorem cutAt_some : ∀ (l r : List UInt8), (∀ c ∈ l, c.toNat ≠ 47) → cutAt (l ++ 47 :: r) = l.length
 | [], r, _ => rfl
 | c :: l, r, h => by
  have h0 : (c.toNat == 47) = false := by rw [beq_eq_false_iff_ne]; exact h c (by simp)
  have ih := cutAt_some l r (fun x hx => h x (by simp [hx]))
  unfold cutAt at ih ⊢
  rw [List.cons_append, List.findIdx_cons, h0, ih]
  rfl
theorem cutAt_none : ∀ (l : List UInt8), (∀ c ∈ l, c.toNat ≠ 47) → cutAt l = l.length
 | [], _ => rfl
 | c :: l, h => by
  have h0 : (c.toNat == 47) = false := by rw [beq_eq_false_iff_ne]; exact h c (by simp)
  have ih := cutAt_none l (fun x hx => h x (by simp [hx]))
  unfold cutAt at ih ⊢
  rw [List.findIdx_cons, h0, ih]
  rfl
def istr (m : Bool) (n : Nat) : ByteArray := if m then ⟨#[45]⟩ ++ dstr n else dstr n
theorem istr_list (m : Bool) (n : Nat) : (istr m n).data.toList = (if m then [45] else []) ++ decDigits n := by
 cases m
 ·simp [istr, dstr_list]
 ·show ((⟨#[45]⟩ : ByteArray) ++ dstr n).data.toList = _
  rw [app_list, dstr_list]; rfl
theorem rstr_eq (m : Bool) (n d : Nat) : rstr m n d = if d = 1 then istr m n else istr m n ++ ⟨#[47]⟩ ++ dstr d := by
 unfold rstr istr
 rfl
theorem istr_no (m : Bool) (n : Nat) : ∀ c ∈ (istr m n).data.toList, c.toNat ≠ 47 := by
 intro c hc
 rw [istr_list] at hc
 rcases List.mem_append.1 hc with h | h
 ·cases m
  ·simp at h
  ·simp at h; subst h; decide
 ·have := digs_dec n c h; omega
theorem istr_minus (m : Bool) (n : Nat) : minusB (istr m n) = m := by
 unfold minusB
 rw [istr_list]
 cases m
 ·simp only [Bool.false_eq_true, if_false, List.nil_append]
  rw [decide_eq_false]
  intro h
  cases hd : decDigits n with
  | nil => exact dec_ne_nil n hd
  | cons c l =>
   rw [hd] at h
   have := digs_dec n c (by rw [hd]; simp)
   have hc : c = 45 := h
   subst hc
   revert this; decide
 ·rfl
theorem istr_rest (m : Bool) (n : Nat) : restS (istr m n) = dstr n := by
 apply ba_ext
 rw [rest_list, Lib.trimPrefix, prefix_minus, istr_minus, istr_list, dstr_list]
 cases m <;> rfl
theorem rstr_cut (m : Bool) (n d : Nat) : numS (rstr m n d) = istr m n ∧ denS (rstr m n d) = dstr d ∧ (cutAt (rstr m n d).data.toList < (rstr m n d).size ↔ d ≠ 1) := by
 rw [rstr_eq]
 by_cases h : d = 1
 ·rw [if_pos h]
  have hc : cutAt (istr m n).data.toList = (istr m n).size := by rw [Go.Lib.size_eq]; exact cutAt_none _ (istr_no m n)
  refine ⟨?_, ?_, ?_⟩
  ·unfold numS; rw [hc]
   apply ba_ext
   rw [Go.Lib.extract_data, Go.Lib.size_eq, List.drop_zero, Nat.sub_zero, List.take_length]
  ·unfold denS; rw [hc, if_neg (by omega), h]
   apply ba_ext; rw [dstr_list, dec_one]
  ·rw [hc]; constructor
   ·intro h2; omega
   ·intro h2; exact absurd h h2
 ·rw [if_neg h]
  have hl : (istr m n ++ ⟨#[47]⟩ ++ dstr d).data.toList = (istr m n).data.toList ++ 47 :: decDigits d := by
   rw [app_list, app_list, dstr_list]
   simp
  have hc : cutAt (istr m n ++ ⟨#[47]⟩ ++ dstr d).data.toList = (istr m n).size := by
   rw [hl, Go.Lib.size_eq]; exact cutAt_some _ _ (istr_no m n)
  have hs : (istr m n ++ ⟨#[47]⟩ ++ dstr d).size = (istr m n).size + 1 + (decDigits d).length := by
   rw [Go.Lib.size_eq, hl, Go.Lib.size_eq]; simp; omega
  refine ⟨?_, ?_, ?_⟩
  ·unfold numS; rw [hc]
   apply ba_ext
   rw [Go.Lib.extract_data, hl, Go.Lib.size_eq, List.drop_zero, Nat.sub_zero, List.take_left']
   rfl
  ·unfold denS; rw [hc, if_pos (by omega)]
   apply ba_ext
   rw [Go.Lib.extract_data, hl, hs, Go.Lib.size_eq, dstr_list]
   rw [show (istr m n).data.toList ++ 47 :: decDigits d = ((istr m n).data.toList ++ [47]) ++ decDigits d by simp]
   rw [List.drop_left' (by simp)]
   exact List.take_of_length_le (by omega)
  ·rw [hc, hs]; constructor
   ·intro _; exact h
   ·intro _; omega
theorem dstr_is (n : Nat) (k : UInt8) (hk : 48 ≤ k.toNat ∧ k.toNat ≤ 57) : ((dstr n).toList == [k]) = decide (n = k.toNat - 48) := by
 rw [toList_eq, dstr_list]
 apply decide_eq_decide.2
 constructor
 ·intro h
  have := dv_dec n
  rw [h] at this
  rw [← this, dv]
  simp
 ·intro h
  rw [h, dec_small (by omega)]
  congr 1
  apply UInt8.toNat_inj.1
  rw [byte_toNat (by omega)]
  omega
theorem rchk_rstr {m : Bool} {n d : Nat} (hn : Ok n) (hd : Ok d) (hd0 : d ≠ 0) (hc : Nat.gcd n d = 1) (hz : m = true → n ≠ 0) :
  rchk (rstr m n d) = 0 := by
 obtain ⟨h1, h2, h3⟩ := rstr_cut m n d
 have hsn : ¬ 4000 < (dstr n).size := by rw [dstr_size]; unfold Ok at hn; omega
 have hsd : ¬ 4000 < (dstr d).size := by rw [dstr_size]; unfold Ok at hd; omega
 have hio : intOk (istr m n) = true := by
  unfold intOk
  rw [istr_rest, istr_minus, dstr_list, bad_dec, dstr_is n 48 (by decide)]
  cases m
  ·rfl
  ·have := hz rfl; simp; exact this
 have hR : isR (rstr m n d) = true := by
  unfold isR
  rw [h1, h2, istr_rest, hio]
  split
  ·rename_i hlt
   have hd1 := h3.1 hlt
   rw [dstr_list, bad_dec, dstr_is n 48 (by decide), dstr_is d 48 (by decide), dstr_is d 49 (by decide)]
   have : n ≠ 0 := by
    intro e; subst e
    rw [Nat.gcd_zero_left] at hc; exact hd1 hc
   simp [this, hd0, hd1]
  ·rfl
 unfold rchk
 rw [hR, if_pos rfl, h1, h2, istr_rest, if_neg (by omega), dstr_list, dstr_list, dv_dec, dv_dec, if_pos hc]
theorem rchk_rat {s : ByteArray} (h : rchk s = 0) : ∃ q : Rat, s = qstr q ∧ QOk q := by
 unfold rchk at h
 by_cases hR : isR s = true
 ·rw [hR, if_pos rfl] at h
  by_cases hsz : 4000 < (restS (numS s)).size ∨ 4000 < (denS s).size
  ·rw [if_pos hsz] at h; simp at h
  ·rw [if_neg hsz] at h
   by_cases hg : Nat.gcd (dv (restS (numS s)).data.toList) (dv (denS s).data.toList) = 1
   ·obtain ⟨b1, b2⟩ := isR_digs hR
    have e1 := dstr_of_good b1
    have e2 := dstr_of_good b2
    generalize hn : dv (restS (numS s)).data.toList = n at *
    generalize hd : dv (denS s).data.toList = d at *
    have hi : intOk (numS s) = true := by
     unfold isR at hR
     split at hR
     ·simp only [Bool.and_eq_true] at hR; exact hR.1.1.1.1
     ·exact hR
    have hz : minusB (numS s) = true → n ≠ 0 := by
     intro hm e
     rw [intOk, hm, e1, e, dstr_is 0 48 (by decide)] at hi
     simp at hi
    have hnum : numS s = istr (minusB (numS s)) n := by
     apply ba_ext
     rw [istr_list]
     have hr := congrArg (fun x => x.data.toList) e1
     simp only [dstr_list] at hr
     rw [rest_list, Lib.trimPrefix, prefix_minus] at hr
     cases hm : minusB (numS s) with
     | false => rw [hm] at hr; simpa using hr
     | true =>
      rw [hm] at hr
      simp only [if_true] at hr ⊢
      rw [minusB] at hm
      cases hl : (numS s).data.toList with
      | nil => rw [hl] at hm; simp at hm
      | cons c l =>
       rw [hl] at hm hr
       have hc : c = 45 := by simpa using hm
       rw [hc]
       simp at hr
       rw [← hr]; rfl
    have hd1 : d = 1 ↔ ¬ cutAt s.data.toList < s.size := by
     constructor
     ·intro e hlt
      unfold isR at hR
      rw [if_pos hlt, e2, dstr_is d 49 (by decide), decide_eq_true (by simpa using e)] at hR
      simp at hR
     ·intro hlt
      rw [← hd]
      unfold denS
      rw [if_neg hlt]; rfl
    have hd0 : d ≠ 0 := by
     intro e
     by_cases hlt : cutAt s.data.toList < s.size
     ·unfold isR at hR
      rw [if_pos hlt, e2, dstr_is d 48 (by decide), decide_eq_true (by simpa using e)] at hR
      simp at hR
     ·have := hd1.2 hlt; omega
    have hs : s = rstr (minusB (numS s)) n d := by
     rw [rstr_eq, ← hnum]
     by_cases hlt : cutAt s.data.toList < s.size
     ·rw [if_neg (fun e => hd1.1 e hlt), ← e2]
      apply ba_ext
      rw [app_list, app_list]
      unfold numS denS
      rw [if_pos hlt, Go.Lib.extract_data, Go.Lib.extract_data]
      rw [Go.Lib.size_eq] at hlt ⊢
      have hb : s.data.toList[cutAt s.data.toList]'hlt = 47 := by
       have := List.findIdx_getElem (p := fun c : UInt8 => c.toNat == 47) (xs := s.data.toList) (w := hlt)
       apply UInt8.toNat_inj.1
       exact beq_iff_eq.1 this
      generalize cutAt s.data.toList = k at *
      simp only [List.drop_zero, Nat.sub_zero]
      rw [List.take_of_length_le (l := List.drop (k + 1) s.data.toList) (by simp)]
      have : s.data.toList = s.data.toList.take k ++ (s.data.toList[k] :: s.data.toList.drop (k + 1)) := by
       rw [← List.drop_eq_getElem_cons hlt, List.take_append_drop]
      rw [hb] at this
      simpa using this
     ·rw [if_pos (hd1.2 hlt)]
      apply ba_ext
      unfold numS
      have hc : cutAt s.data.toList = s.data.toList.length := by
       have := cutAt_le s.data.toList
       rw [Go.Lib.size_eq] at hlt; omega
      rw [hc, Go.Lib.extract_data, List.drop_zero, Nat.sub_zero, List.take_length]
    have hon : Ok n := by unfold Ok; rw [← dstr_size, ← e1]; omega
    have hod : Ok d := by unfold Ok; rw [← dstr_size, ← e2]; omega
    obtain ⟨q, q1, q2, q3⟩ := rat_of hd0 hg hz
    exact ⟨q, by rw [qstr, q1, q2, q3]; exact hs, by rw [QOk, q2, q3]; exact ⟨hon, hod⟩⟩
   ·rw [if_neg hg] at h; simp at h
 ·rw [if_neg hR] at h; simp at h
theorem qcop (q : Rat) : Nat.gcd (tp q) q.den = 1 := q.reduced
theorem qstr_parts (q : Rat) : numS (qstr q) = istr (ng q) (tp q) ∧ denS (qstr q) = dstr q.den ∧ minusB (numS (qstr q)) = ng q ∧ restS (numS (qstr q)) = dstr (tp q) ∧ dv (restS (numS (qstr q))).data.toList = tp q ∧ dv (denS (qstr q)).data.toList = q.den := by
 obtain ⟨h1, h2, _⟩ := rstr_cut (ng q) (tp q) q.den
 unfold qstr
 refine ⟨h1, h2, by rw [h1, istr_minus], by rw [h1, istr_rest], ?_, ?_⟩
 ·rw [h1, istr_rest, dstr_list, dv_dec]
 ·rw [h2, dstr_list, dv_dec]
theorem qstr_chk {q : Rat} (h : QOk q) : rchk (qstr q) = 0 := rchk_rstr h.1 h.2 q.den_nz (qcop q) ng_zero
theorem qstr_inj {p q : Rat} (h : qstr p = qstr q) : p = q := by
 obtain ⟨_, _, a1, _, a2, a3⟩ := qstr_parts p
 obtain ⟨_, _, b1, _, b2, b3⟩ := qstr_parts q
 rw [h] at a1 a2 a3
 exact rat_ext (a1.symm.trans b1) (a2.symm.trans b2) (a3.symm.trans b3)
theorem qstr_size {q : Rat} (h : QOk q) : (qstr q).size ≤ 8002 := by
 have h1 : (dstr (tp q)).size ≤ 4000 := by rw [dstr_size]; exact h.1
 have h2 : (dstr q.den).size ≤ 4000 := by rw [dstr_size]; exact h.2
 have hi : (istr (ng q) (tp q)).size ≤ 4001 := by
  unfold istr; split
  ·rw [ByteArray.size_append]; have : (⟨#[45]⟩ : ByteArray).size = 1 := rfl; omega
  ·omega
 unfold qstr; rw [rstr_eq]; split
 ·omega
 ·rw [ByteArray.size_append, ByteArray.size_append]; have : (⟨#[47]⟩ : ByteArray).size = 1 := rfl; omega
theorem wR_ok {q : Rat} (h : QOk q) : wR (ng q) (tp q) q.den = (qstr q, 0) := if_pos h
end Go.Proofs.YtjpepjooefkbkaaGreatDoor
