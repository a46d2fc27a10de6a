/-
  Plain mathematics: multiplying and dividing by one limb; long division by several limbs.
-/
import Derived.Test.YtiocehlefpbbhaaGreatDoorM2
namespace Go.Proofs.YtiocehlefpbbhaaGreatDoor.NV

/-! ### One limb -/

/-- The carry into limb k of a times d. -/
def sc (a d k : Nat) : Nat := (a % B ^ k) * d / B ^ k

theorem sc_zero (a d : Nat) : sc a d 0 = 0 := by simp [sc, Nat.mod_one]
theorem sc_le (a d k : Nat) : sc a d k ≤ d := by
  have h := Nat.mod_lt a (pow_pos k)
  have h2 : (a % B ^ k) * d ≤ B ^ k * d := Nat.mul_le_mul_right _ (Nat.le_of_lt h)
  have h3 := Nat.div_le_div_right (c := B ^ k) h2
  rwa [Nat.mul_div_cancel_left _ (pow_pos k)] at h3

theorem sc_step (a d k : Nat) : (a % B ^ (k + 1)) * d = (a % B ^ k) * d % B ^ k + B ^ k * (dg a k * d + sc a d k) := by
  rw [mod_succ, Nat.add_mul, Nat.mul_add, sc, Nat.mul_assoc]
  have := Nat.mod_add_div ((a % B ^ k) * d) (B ^ k)
  omega

theorem sc_succ (a d k : Nat) : sc a d (k + 1) = (dg a k * d + sc a d k) / 1000000000 := by
  rw [sc, sc_step, pow_succ, ← Nat.div_div_eq_div_mul, Nat.add_mul_div_left _ _ (pow_pos k), Nat.div_eq_of_lt (Nat.mod_lt _ (pow_pos k)), Nat.zero_add, B_eq]

theorem dg_scaled (a d k : Nat) : dg (a * d) k = (dg a k * d + sc a d k) % 1000000000 := by
  have h0 : dg (a * d) k = dg ((a % B ^ (k + 1)) * d) k := by
    rw [← dg_mod (Nat.lt_succ_self k), Nat.mul_mod, ← dg_mod (n := (a % B ^ (k + 1)) * d) (Nat.lt_succ_self k)]
    congr 1
    conv => rhs; rw [Nat.mul_mod, Nat.mod_mod]
  rw [h0, sc_step, dg_at (Nat.mod_lt _ (pow_pos k)), B_eq]

/-- Above the last limb stands the carry. -/
theorem dg_scaled_top {a d L : Nat} (ha : a < B ^ L) (_hd : d ≤ 1000000000) (_hd2 : d < 1000000000 ∨ a = 0 ∨ True) : dg (a * d) L = sc a d L % 1000000000 := by
  rw [dg_scaled, dg_big ha, Nat.zero_mul, Nat.zero_add]

theorem div_rest (a y i : Nat) : a / B ^ i % y = (a / B ^ (i + 1) % y * 1000000000 + dg a i) % y := by
  have e : a / B ^ i = a / B ^ (i + 1) * 1000000000 + dg a i := by
    rw [dg, pow_succ, ← Nat.div_div_eq_div_mul]
    have := Nat.mod_add_div (a / B ^ i) B
    rw [B_eq] at this ⊢
    omega
  rw [e, Nat.add_mod, Nat.mul_mod, ← Nat.mul_mod, Nat.add_mod (a / B ^ (i + 1) % y * 1000000000), Nat.mul_mod (a / B ^ (i + 1) % y), Nat.mod_mod, ← Nat.mul_mod]

theorem div_digit (a y i : Nat) (hy : 0 < y) : dg (a / y) i = (a / B ^ (i + 1) % y * 1000000000 + dg a i) / y := by
  have e : a / B ^ i = a / B ^ (i + 1) * 1000000000 + dg a i := by
    rw [dg, pow_succ, ← Nat.div_div_eq_div_mul]
    have := Nat.mod_add_div (a / B ^ i) B
    rw [B_eq] at this ⊢
    omega
  have hd := dg_lt a i
  generalize hX : a / B ^ (i + 1) = X at *
  have h1 : dg (a / y) i = a / B ^ i / y % B := by rw [dg, Nat.div_div_eq_div_mul, Nat.mul_comm y, ← Nat.div_div_eq_div_mul]
  have h2 : a / B ^ i = y * (X / y * 1000000000) + (X % y * 1000000000 + dg a i) := by
    have h3 := Nat.mod_add_div X y
    rw [e]
    conv => lhs; rw [← h3]
    rw [Nat.add_mul, Nat.mul_assoc]
    omega
  have h4 := Nat.mod_lt X hy
  have h5 : (X % y * 1000000000 + dg a i) / y < 1000000000 := (Nat.div_lt_iff_lt_mul hy).2 (by
    have : (X % y + 1) * 1000000000 ≤ y * 1000000000 := Nat.mul_le_mul_right _ h4
    rw [Nat.mul_comm 1000000000 y]
    omega)
  rw [h1, h2, Nat.mul_add_div hy, B_eq, Nat.mul_comm (X / y), Nat.mul_add_mod, Nat.mod_eq_of_lt h5]

/-! ### The scale -/

/-- The divisor's first limb times the scale is at least half the base. -/
theorem scale_half {t d : Nat} (ht : 1 ≤ t) (hd : d = 1000000000 / (t + 1)) (ht2 : t < 1000000000) : 500000000 ≤ t * d ∧ (t + 1) * d ≤ 1000000000 ∧ 1 ≤ d := by
  have h1 : (t + 1) * d ≤ 1000000000 := by rw [hd, Nat.mul_comm]; exact Nat.div_mul_le_self _ _
  have h2 : 1 ≤ d := by rw [hd]; exact Nat.div_pos (by omega) (by omega)
  have h3 : 1000000000 < (t + 1) * (d + 1) := by
    have := Nat.lt_mul_div_succ 1000000000 (show 0 < t + 1 by omega)
    rw [hd]; exact this
  have h4 : (t + 1) * (d + 1) = t * d + t + d + 1 := by rw [Nat.add_mul, Nat.mul_add]; omega
  have h5 : t + d ≤ t * d + 1 := by
    obtain ⟨p, rfl⟩ : ∃ p, t = p + 1 := ⟨t - 1, by omega⟩
    obtain ⟨q, rfl⟩ : ∃ q, d = q + 1 := ⟨d - 1, by omega⟩
    rw [Nat.add_mul, Nat.mul_add]; omega
  rw [Nat.add_mul] at h1
  refine ⟨by omega, by rw [Nat.add_mul]; omega, h2⟩

/-! ### One limb of a quotient -/

/-- What is known while a limb of the quotient is guessed: v has n + 2 limbs, x is less than base times v. -/
structure Gs (x v n g r : Nat) : Prop where
  sum : g * dg v (n + 1) + r = x / B ^ (n + 1)
  low : x / v ≤ g
  high : g ≤ 1000000001
  later : dg v (n + 1) ≤ r → g ≤ 1000000000

section
variable {x v n : Nat}

theorem v_top (hv : v < B ^ (n + 2)) : v / B ^ (n + 1) = dg v (n + 1) := by
  rw [dg, Nat.mod_eq_of_lt ((Nat.div_lt_iff_lt_mul (pow_pos _)).2 (by rw [Nat.mul_comm, ← pow_succ]; exact hv))]

theorem div_low (a k : Nat) : a / B ^ k * B ^ k ≤ a := Nat.div_mul_le_self _ _
theorem lt_high (a k : Nat) : a < (a / B ^ k + 1) * B ^ k := by
  have := Nat.lt_mul_div_succ a (pow_pos k)
  rwa [Nat.mul_comm] at this

theorem Gs.start (hv : v < B ^ (n + 2)) (hh : 500000000 ≤ dg v (n + 1)) (hx : x < 1000000000 * v) (_hv0 : 0 < v) :
    Gs x v n (x / B ^ (n + 1) / dg v (n + 1)) (x / B ^ (n + 1) % dg v (n + 1)) := by
  have hp := pow_pos (n + 1)
  have ht := v_top hv
  have hpos : 0 < dg v (n + 1) := by omega
  refine ⟨?_, ?_, ?_, fun h => ?_⟩
  · rw [Nat.mul_comm]; exact Nat.div_add_mod _ _
  · rw [Nat.le_div_iff_mul_le hpos, Nat.le_div_iff_mul_le hp, Nat.mul_assoc]
    have h1 : dg v (n + 1) * B ^ (n + 1) ≤ v := by rw [← ht]; exact div_low v (n + 1)
    exact Nat.le_trans (Nat.mul_le_mul_left _ h1) (Nat.div_mul_le_self x v)
  · have h1 := lt_high v (n + 1)
    rw [ht] at h1
    have h2 : x < (1000000000 * (dg v (n + 1) + 1)) * B ^ (n + 1) := by
      refine Nat.lt_of_lt_of_le hx ?_
      rw [Nat.mul_assoc]
      exact Nat.mul_le_mul_left _ (Nat.le_of_lt h1)
    have h3 : x / B ^ (n + 1) < 1000000000 * (dg v (n + 1) + 1) := (Nat.div_lt_iff_lt_mul hp).2 h2
    have h4 : x / B ^ (n + 1) / dg v (n + 1) < 1000000002 := (Nat.div_lt_iff_lt_mul hpos).2 (by omega)
    omega
  · have := Nat.mod_lt (x / B ^ (n + 1)) hpos
    omega

theorem q_lt (hx : x < 1000000000 * v) (hv0 : 0 < v) : x / v < 1000000000 := (Nat.div_lt_iff_lt_mul hv0).2 hx

theorem next_limb (a k : Nat) : a / B ^ k = a / B ^ (k + 1) * 1000000000 + dg a k := by
  rw [dg, pow_succ, ← Nat.div_div_eq_div_mul]
  have := Nat.mod_add_div (a / B ^ k) B
  rw [B_eq] at this ⊢
  omega

/-- While the test says yes the guess is too great. -/
theorem Gs.less {g r : Nat} (h : Gs x v n g r) (hv : v < B ^ (n + 2)) (hx : x < 1000000000 * v) (hv0 : 0 < v)
    (ht : 1000000000 ≤ g ∨ r * 1000000000 + dg x n < g * dg v n) : x / v < g := by
  rcases ht with ht | ht
  · have := q_lt hx hv0; omega
  · rw [Nat.div_lt_iff_lt_mul hv0]
    have hp := pow_pos n
    have hxn := next_limb x n
    have hvn := next_limb v n
    rw [v_top hv] at hvn
    have hs := h.sum
    have h1 : x / B ^ n + 1 ≤ g * (v / B ^ n) := by
      rw [hxn, hvn, ← hs, Nat.mul_add, Nat.add_mul]
      have : g * (dg v (n + 1) * 1000000000) = g * dg v (n + 1) * 1000000000 := by rw [Nat.mul_assoc]
      omega
    have h2 := lt_high x n
    have h3 : (x / B ^ n + 1) * B ^ n ≤ g * (v / B ^ n) * B ^ n := Nat.mul_le_mul_right _ h1
    have h4 : g * (v / B ^ n) * B ^ n ≤ g * v := by rw [Nat.mul_assoc]; exact Nat.mul_le_mul_left _ (div_low v n)
    exact Nat.lt_of_lt_of_le h2 (Nat.le_trans h3 h4)

theorem Gs.next {g r : Nat} (h : Gs x v n g r) (hl : x / v < g) : Gs x v n (g - 1) (r + dg v (n + 1)) := by
  obtain ⟨q, hq⟩ : ∃ q, q = x / v := ⟨_, rfl⟩
  rw [← hq] at hl
  obtain ⟨p, rfl⟩ : ∃ p, g = p + 1 := ⟨g - 1, by omega⟩
  have hs := h.sum
  have hh := h.high
  rw [Nat.add_mul, Nat.one_mul] at hs
  refine ⟨by rw [Nat.add_sub_cancel]; omega, by rw [← hq]; omega, by omega, fun _ => by omega⟩

/-- When the test says no the guess is right or too great by one. -/
theorem Gs.done {g r : Nat} (h : Gs x v n g r) (hv : v < B ^ (n + 2)) (hh : 500000000 ≤ dg v (n + 1)) (hx : x < 1000000000 * v) (hv0 : 0 < v)
    (ht : 1000000000 ≤ r ∨ (g < 1000000000 ∧ g * dg v n ≤ r * 1000000000 + dg x n)) : g < 1000000000 ∧ g ≤ x / v + 1 := by
  have hq := q_lt hx hv0
  have hs := h.sum
  rcases ht with ht | ⟨ht1, ht2⟩
  · have hdl := dg_lt v (n + 1)
    have hg := h.later (by omega)
    have hle : g ≤ x / v := by
      rw [Nat.le_div_iff_mul_le hv0]
      have h1 := lt_high v (n + 1)
      rw [v_top hv] at h1
      have h2 : g * v ≤ g * ((dg v (n + 1) + 1) * B ^ (n + 1)) := Nat.mul_le_mul_left _ (Nat.le_of_lt h1)
      have h3 : g * ((dg v (n + 1) + 1) * B ^ (n + 1)) = (g * dg v (n + 1) + g) * B ^ (n + 1) := by rw [← Nat.mul_assoc, Nat.mul_add, Nat.mul_one]
      have h4 : (g * dg v (n + 1) + g) * B ^ (n + 1) ≤ x / B ^ (n + 1) * B ^ (n + 1) := Nat.mul_le_mul_right _ (by omega)
      have h5 := div_low x (n + 1)
      omega
    omega
  · refine ⟨ht1, ?_⟩
    by_cases hg0 : g = 0
    · rw [hg0]; exact Nat.zero_le _
    · obtain ⟨p, rfl⟩ : ∃ p, g = p + 1 := ⟨g - 1, by omega⟩
      have hle : p ≤ x / v := by
        rw [Nat.le_div_iff_mul_le hv0]
        have hxn := next_limb x n
        have hvn := next_limb v n
        rw [v_top hv] at hvn
        have h1 : (p + 1) * (v / B ^ n) ≤ x / B ^ n := by
          rw [hxn, hvn, ← hs, Nat.mul_add, Nat.add_mul _ r]
          have : (p + 1) * (dg v (n + 1) * 1000000000) = (p + 1) * dg v (n + 1) * 1000000000 := by rw [Nat.mul_assoc]
          omega
        have h2 := lt_high v n
        have h3 : p * v ≤ p * ((v / B ^ n + 1) * B ^ n) := Nat.mul_le_mul_left _ (Nat.le_of_lt h2)
        have h4 : p * ((v / B ^ n + 1) * B ^ n) = (p * (v / B ^ n) + p) * B ^ n := by rw [← Nat.mul_assoc, Nat.mul_add, Nat.mul_one]
        have h5 : (p * (v / B ^ n) + p) * B ^ n ≤ x / B ^ n * B ^ n := by
          refine Nat.mul_le_mul_right _ ?_
          rw [Nat.add_mul, Nat.one_mul] at h1
          omega
        have h6 := div_low x n
        omega
      exact Nat.succ_le_succ hle
end

/-! ### Taking a multiple away -/

/-- One place: what is left, what is borrowed. -/
theorem take_step {x v f k D br P low x' br' : Nat} (hD : D < B ^ k) (he : x % B ^ k + B ^ k * br = D + (v % B ^ k) * f) (hP : P = dg v k * f + br)
    (hlow : low = P % 1000000000) (hx' : x' + low = dg x k + (if dg x k < low then 1000000000 else 0)) (hbr : br' = P / 1000000000 + (if dg x k < low then 1 else 0)) :
    D + B ^ k * x' < B ^ (k + 1) ∧ x % B ^ (k + 1) + B ^ (k + 1) * br' = (D + B ^ k * x') + (v % B ^ (k + 1)) * f := by
  have hdx := dg_lt x k
  have hlt : low < 1000000000 := by omega
  have hx1 : x' < 1000000000 := by split at hx' <;> omega
  constructor
  · have h1 : B ^ k * (x' + 1) ≤ B ^ k * 1000000000 := Nat.mul_le_mul_left _ hx1
    rw [pow_succ, B_eq]
    rw [B_eq] at h1 hD
    rw [Nat.mul_add] at h1
    omega
  · have e1 : x' + P = dg x k + 1000000000 * br' := by
      have := Nat.mod_add_div P 1000000000
      split at hx' <;> rename_i hc
      · rw [if_pos hc] at hbr; omega
      · rw [if_neg hc] at hbr; omega
    have e2 : B ^ k * (x' + P) = B ^ k * (dg x k + 1000000000 * br') := by rw [e1]
    rw [mod_succ, mod_succ, Nat.add_mul, pow_succ, B_eq, Nat.mul_assoc, Nat.mul_assoc]
    rw [hP, Nat.mul_add, Nat.mul_add, Nat.mul_add] at e2
    rw [B_eq] at e2 he
    omega

/-- What is left behind the last place. -/
theorem take_end {x v f n D br : Nat} (hv : v < B ^ n) (hx : x < B ^ (n + 1)) (hv0 : 0 < v) (hD : D < B ^ n) (he : x % B ^ n + B ^ n * br = D + (v % B ^ n) * f) (h1 : x / v ≤ f) (h2 : f ≤ x / v + 1) :
    (br ≤ dg x n → f = x / v ∧ D = x % v) ∧ (¬ br ≤ dg x n → f = x / v + 1 ∧ D + v = x % v + B ^ n) := by
  rw [Nat.mod_eq_of_lt hv] at he
  have hx2 := mod_succ x n
  rw [Nat.mod_eq_of_lt hx] at hx2
  have hm := Nat.mod_add_div x v
  have hml := Nat.mod_lt x hv0
  constructor
  · intro hb
    have hfx : v * f ≤ x := by
      have h3 : B ^ n * br ≤ B ^ n * dg x n := Nat.mul_le_mul_left _ hb
      rw [Nat.mul_comm v f]; rw [Nat.mul_comm v f] at he
      omega
    have hf : f = x / v := by
      have : f ≤ x / v := (Nat.le_div_iff_mul_le hv0).2 (by rw [Nat.mul_comm]; exact hfx)
      omega
    refine ⟨hf, ?_⟩
    subst hf
    obtain ⟨c, hc⟩ : ∃ c, dg x n = br + c := ⟨dg x n - br, by omega⟩
    rw [hc, Nat.mul_add] at hx2
    have hc0 : c = 0 := by
      by_cases h : c = 0
      · exact h
      · have : B ^ n * 1 ≤ B ^ n * c := Nat.mul_le_mul_left _ (by omega)
        omega
    subst hc0
    omega
  · intro hb
    obtain ⟨c, hc⟩ : ∃ c, br = dg x n + (c + 1) := ⟨br - dg x n - 1, by omega⟩
    rw [hc, Nat.mul_add, Nat.mul_add] at he
    have hfx : ¬ v * f ≤ x := by
      intro h3
      have h4 : 0 ≤ B ^ n * c := Nat.zero_le _
      omega
    have hf : f = x / v + 1 := by
      by_cases h : f = x / v
      · exact absurd (by rw [h]; exact Nat.mul_div_le x v) hfx
      · omega
    refine ⟨hf, ?_⟩
    subst hf
    rw [Nat.mul_add] at he
    have hc0 : c = 0 := by
      by_cases h : c = 0
      · exact h
      · have : B ^ n * 1 ≤ B ^ n * c := Nat.mul_le_mul_left _ (by omega)
        omega
    subst hc0
    omega

/-! ### The whole division -/

/-- What is left when the limbs from k on have been taken out. -/
theorem left_step (u v k : Nat) (_hv : 0 < v) : (u % (v * B ^ (k + 1))) / B ^ k % v = u / B ^ k % v ∧
    u % (v * B ^ (k + 1)) / B ^ k / v = dg (u / v) k ∧
    u % (v * B ^ k) = u % (v * B ^ (k + 1)) % B ^ k + B ^ k * (u % (v * B ^ (k + 1)) / B ^ k % v) := by
  have e0 : v * B ^ (k + 1) = B ^ k * (v * B) := by rw [pow_succ]; ac_rfl
  have e1 : u % (v * B ^ (k + 1)) / B ^ k = u / B ^ k % (v * B) := by rw [e0, Nat.mod_mul_right_div_self]
  have e2 : u / B ^ k % (v * B) % v = u / B ^ k % v := Nat.mod_mul_right_mod _ _ _
  refine ⟨by rw [e1, e2], ?_, ?_⟩
  · rw [e1, Nat.mod_mul_right_div_self, dg, Nat.div_div_eq_div_mul, Nat.div_div_eq_div_mul, Nat.mul_comm]
  · rw [e1, e2, e0, Nat.mod_mul_right_mod, Nat.mul_comm v, Nat.mod_mul]

end Go.Proofs.YtiocehlefpbbhaaGreatDoor.NV
