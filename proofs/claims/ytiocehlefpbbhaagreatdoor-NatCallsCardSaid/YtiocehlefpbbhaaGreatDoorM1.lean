/-
  Plain mathematics: the limbs of a natural number in base 1000000000, how many there are, and how sums and differences carry.
-/
import Derived.WalkKit
namespace Go.Proofs.YtiocehlefpbbhaaGreatDoor.NV

/-- The base of the limbs. -/
def B : Nat := 1000000000
theorem B_eq : B = 1000000000 := rfl
theorem B_pos : 0 < B := by rw [B_eq]; omega
theorem pow_pos (k : Nat) : 0 < B ^ k := Nat.pow_pos B_pos
theorem pow_succ (k : Nat) : B ^ (k + 1) = B ^ k * B := by rw [Nat.pow_succ]

/-- Limb i of n. -/
def dg (n i : Nat) : Nat := n / B ^ i % B

theorem dg_lt (n i : Nat) : dg n i < 1000000000 := by rw [← B_eq]; exact Nat.mod_lt _ B_pos
theorem dg_zero (i : Nat) : dg 0 i = 0 := by simp [dg]

/-- What lies below limb k and limb k make what lies below limb k + 1. -/
theorem mod_succ (n k : Nat) : n % B ^ (k + 1) = n % B ^ k + B ^ k * dg n k := by
  rw [pow_succ, Nat.mod_mul, dg]

/-- How many limbs n has. -/
def ln (n : Nat) : Nat :=
  if h : n = 0 then 0 else ln (n / B) + 1
termination_by n
decreasing_by exact Nat.div_lt_self (by omega) (by rw [B_eq]; omega)

theorem ln_zero : ln 0 = 0 := by rw [ln, dif_pos rfl]
theorem ln_succ {n : Nat} (h : n ≠ 0) : ln n = ln (n / B) + 1 := by rw [ln, dif_neg h]
theorem ln_pos {n : Nat} (h : n ≠ 0) : 0 < ln n := by rw [ln_succ h]; omega
theorem ln_eq_zero {n : Nat} (h : ln n = 0) : n = 0 := by
  by_cases hn : n = 0
  · exact hn
  · have := ln_pos hn; omega

theorem lt_pow_ln (n : Nat) : n < B ^ ln n := by
  induction n using Nat.strongRecOn with
  | _ n ih =>
    by_cases h : n = 0
    · subst h; rw [ln_zero]; simp
    · have hlt : n / B < n := Nat.div_lt_self (by omega) (by rw [B_eq]; omega)
      have := ih (n / B) hlt
      rw [ln_succ h, pow_succ]
      exact (Nat.div_lt_iff_lt_mul B_pos).1 this

theorem pow_le_of_ln {n k : Nat} (h : ln n = k + 1) : B ^ k ≤ n := by
  induction k generalizing n with
  | zero =>
    have : n ≠ 0 := by intro e; subst e; rw [ln_zero] at h; omega
    simp; omega
  | succ k ih =>
    have hn : n ≠ 0 := by intro e; subst e; rw [ln_zero] at h; omega
    rw [ln_succ hn] at h
    have := ih (n := n / B) (by omega)
    rw [pow_succ]
    exact (Nat.le_div_iff_mul_le B_pos).1 this

theorem ln_le {n k : Nat} (h : n < B ^ k) : ln n ≤ k := by
  by_cases hk : ln n ≤ k
  · exact hk
  · obtain ⟨m, hm⟩ : ∃ m, ln n = m + 1 := ⟨ln n - 1, by omega⟩
    have h1 := pow_le_of_ln hm
    have h2 : B ^ k ≤ B ^ m := Nat.pow_le_pow_right B_pos (by omega)
    omega

theorem ln_unique {n k : Nat} (h1 : B ^ k ≤ n) (h2 : n < B ^ (k + 1)) : ln n = k + 1 := by
  have h3 := ln_le h2
  by_cases h : ln n ≤ k
  · have h4 := lt_pow_ln n
    have h5 : B ^ ln n ≤ B ^ k := Nat.pow_le_pow_right B_pos h
    omega
  · omega

theorem ln_mono {a b : Nat} (h : a ≤ b) : ln a ≤ ln b := ln_le (Nat.lt_of_le_of_lt h (lt_pow_ln b))

theorem lt_of_ln_lt {a b : Nat} (h : ln a < ln b) : a < b := by
  by_cases hab : a < b
  · exact hab
  · have := ln_mono (show b ≤ a by omega); omega

theorem dg_big {n k : Nat} (h : n < B ^ k) : dg n k = 0 := by rw [dg, Nat.div_eq_of_lt h, Nat.zero_mod]
theorem dg_past {n k : Nat} (h : ln n ≤ k) : dg n k = 0 :=
  dg_big (Nat.lt_of_lt_of_le (lt_pow_ln n) (Nat.pow_le_pow_right B_pos h))

/-- The last limb is not 0. -/
theorem dg_top {n k : Nat} (h : ln n = k + 1) : dg n k ≠ 0 := by
  have h1 := pow_le_of_ln h
  have h2 := lt_pow_ln n
  rw [h, pow_succ] at h2
  have h3 : n / B ^ k < B := (Nat.div_lt_iff_lt_mul (pow_pos k)).2 (by rw [Nat.mul_comm]; exact h2)
  have h4 : 0 < n / B ^ k := Nat.div_pos h1 (pow_pos k)
  rw [dg, Nat.mod_eq_of_lt h3]
  omega

/-- A number below the next power whose limb there is 0 is below this power. -/
theorem lt_of_dg_zero {n k : Nat} (h : n < B ^ (k + 1)) (hz : dg n k = 0) : n < B ^ k := by
  have h1 := mod_succ n k
  rw [Nat.mod_eq_of_lt h, hz, Nat.mul_zero, Nat.add_zero] at h1
  rw [h1]
  exact Nat.mod_lt _ (pow_pos k)

theorem ln_of_top {n k : Nat} (h : n < B ^ (k + 1)) (hz : dg n k ≠ 0) : ln n = k + 1 := by
  by_cases h1 : n < B ^ k
  · exact absurd (dg_big h1) hz
  · exact ln_unique (by omega) h

/-- Numbers with the same lowest k limbs agree below limb k. -/
theorem mod_eq_of_dg {a b k : Nat} (h : ∀ j, j < k → dg a j = dg b j) : a % B ^ k = b % B ^ k := by
  induction k with
  | zero => simp [Nat.mod_one]
  | succ k ih => rw [mod_succ, mod_succ, ih (fun j hj => h j (by omega)), h k (by omega)]

theorem dg_mod {n k j : Nat} (h : j < k) : dg (n % B ^ k) j = dg n j := by
  obtain ⟨d, rfl⟩ : ∃ d, k = j + (d + 1) := ⟨k - j - 1, by omega⟩
  rw [dg, dg, Nat.pow_add, Nat.mod_mul_right_div_self, Nat.pow_succ, Nat.mul_comm (B ^ d) B, Nat.mod_mul_right_mod]

theorem dg_add_mul {a b k j : Nat} (h : j < k) : dg (a + B ^ k * b) j = dg a j := by
  rw [← dg_mod h, Nat.add_mul_mod_self_left, dg_mod h]

/-- Limb k of 'low + B^k * high' with low below B^k. -/
theorem dg_at {a b k : Nat} (h : a < B ^ k) : dg (a + B ^ k * b) k = b % B := by
  rw [dg, Nat.add_mul_div_left _ _ (pow_pos k), Nat.div_eq_of_lt h, Nat.zero_add]

theorem dg_shift (a k j : Nat) : dg (a / B ^ k) j = dg a (k + j) := by
  rw [dg, dg, Nat.div_div_eq_div_mul, Nat.pow_add]

/-! ### Sums -/

/-- The carry into limb k of a sum. -/
def ca (a b k : Nat) : Nat := (a % B ^ k + b % B ^ k) / B ^ k

theorem ca_zero (a b : Nat) : ca a b 0 = 0 := by simp [ca, Nat.mod_one]
theorem ca_le (a b k : Nat) : ca a b k ≤ 1 := by
  have h1 := Nat.mod_lt a (pow_pos k)
  have h2 := Nat.mod_lt b (pow_pos k)
  have : ca a b k < 2 := (Nat.div_lt_iff_lt_mul (pow_pos k)).2 (by omega)
  omega

theorem add_step (a b k : Nat) : a % B ^ (k + 1) + b % B ^ (k + 1) = (a % B ^ k + b % B ^ k) % B ^ k + B ^ k * (dg a k + dg b k + ca a b k) := by
  rw [mod_succ, mod_succ, Nat.mul_add, Nat.mul_add, ca]
  have := Nat.mod_add_div (a % B ^ k + b % B ^ k) (B ^ k)
  omega

theorem ca_succ (a b k : Nat) : ca a b (k + 1) = (dg a k + dg b k + ca a b k) / 1000000000 := by
  rw [ca, add_step, pow_succ, ← Nat.div_div_eq_div_mul, Nat.add_mul_div_left _ _ (pow_pos k), Nat.div_eq_of_lt (Nat.mod_lt _ (pow_pos k)), Nat.zero_add, B_eq]

theorem dg_add (a b k : Nat) : dg (a + b) k = (dg a k + dg b k + ca a b k) % 1000000000 := by
  have h0 : dg (a + b) k = dg (a % B ^ (k + 1) + b % B ^ (k + 1)) k := by
    rw [← dg_mod (Nat.lt_succ_self k), Nat.add_mod, dg_mod (Nat.lt_succ_self k)]
  rw [h0, add_step, dg_at (Nat.mod_lt _ (pow_pos k)), B_eq]

/-! ### Differences -/

/-- The borrow from limb k of a difference: the carry with which b and the difference make a. -/
def bo (a b k : Nat) : Nat := ca (a - b) b k

theorem bo_zero (a b : Nat) : bo a b 0 = 0 := ca_zero _ _
theorem bo_le (a b k : Nat) : bo a b k ≤ 1 := ca_le _ _ _

/-- As the program has it: limb k of the difference, and the next borrow. -/
theorem dg_sub {a b : Nat} (h : b ≤ a) (k : Nat) : dg (a - b) k = (dg a k + 1000000000 - dg b k - bo a b k) % 1000000000 ∧ bo a b (k + 1) = 1 - (dg a k + 1000000000 - dg b k - bo a b k) / 1000000000 := by
  have e1 := dg_add (a - b) b k
  have e2 := ca_succ (a - b) b k
  rw [Nat.sub_add_cancel h] at e1
  have h1 := dg_lt (a - b) k
  have h2 := dg_lt b k
  have h3 := ca_le (a - b) b k
  unfold bo
  constructor <;> omega

end Go.Proofs.YtiocehlefpbbhaaGreatDoor.NV
