/-
  Plain mathematics: the columns of a product of two numbers in base 1000000000, added up place by place.
-/
import Derived.Test.YtiocehlefpbbhaaGreatDoorM1
namespace Go.Proofs.YtiocehlefpbbhaaGreatDoor.NV

/-- The first k products of column p. -/
def cs (a b p : Nat) : Nat → Nat
  | 0 => 0
  | k + 1 => cs a b p k + dg a k * dg b (p - k)

/-- The first k rows of the product, each cut off at place p. -/
def rw' (a b p : Nat) : Nat → Nat
  | 0 => 0
  | k + 1 => rw' a b p k + B ^ k * (dg a k * (b % B ^ (p - k)))

/-- All columns below place p. -/
def tot (a b p : Nat) : Nat := rw' a b p p

theorem tot_zero (a b : Nat) : tot a b 0 = 0 := rfl

theorem rw'_next (a b p k : Nat) (h : k ≤ p) : rw' a b (p + 1) k = rw' a b p k + B ^ p * cs a b p k := by
  induction k with
  | zero => simp [rw', cs]
  | succ k ih =>
    have e : p + 1 - k = (p - k) + 1 := by omega
    have e2 : B ^ p = B ^ k * B ^ (p - k) := by rw [← Nat.pow_add]; congr 1; omega
    rw [rw', rw', cs, ih (by omega), e, mod_succ, Nat.mul_add, Nat.mul_add, Nat.mul_add]
    have e3 : B ^ k * (dg a k * (B ^ (p - k) * dg b (p - k))) = B ^ p * (dg a k * dg b (p - k)) := by
      rw [e2]; ac_rfl
    omega

theorem tot_succ (a b p : Nat) : tot a b (p + 1) = tot a b p + B ^ p * cs a b p (p + 1) := by
  have e : p + 1 - p = 1 := by omega
  have e0 : b % B ^ 1 = dg b 0 := by rw [dg]; simp
  rw [tot, rw', rw'_next a b p p (Nat.le_refl _), tot, cs, e, e0, Nat.mul_add, Nat.sub_self]
  omega

theorem rw'_low (a b p k : Nat) (h : k ≤ p) : ∃ z, (a % B ^ k) * b = rw' a b p k + B ^ p * z := by
  induction k with
  | zero => exact ⟨0, by simp [rw', Nat.mod_one]⟩
  | succ k ih =>
    obtain ⟨z, hz⟩ := ih (by omega)
    have e2 : B ^ p = B ^ k * B ^ (p - k) := by rw [← Nat.pow_add]; congr 1; omega
    refine ⟨z + dg a k * (b / B ^ (p - k)), ?_⟩
    have e3 : B ^ k * dg a k * b = B ^ k * (dg a k * (b % B ^ (p - k))) + B ^ p * (dg a k * (b / B ^ (p - k))) := by
      have e5 : b = b % B ^ (p - k) + B ^ (p - k) * (b / B ^ (p - k)) := (Nat.mod_add_div b (B ^ (p - k))).symm
      generalize hq : b / B ^ (p - k) = q at *
      generalize hr : b % B ^ (p - k) = r at *
      rw [e2, e5, Nat.mul_add]
      congr 1
      · ac_rfl
      · ac_rfl
    rw [mod_succ, Nat.add_mul, hz, e3, rw', Nat.mul_add]
    omega

/-- The lowest p limbs of the columns below place p are those of the product. -/
theorem tot_mod (a b p : Nat) : tot a b p % B ^ p = a * b % B ^ p := by
  obtain ⟨z, hz⟩ := rw'_low a b p p (Nat.le_refl _)
  rw [tot, ← Nat.add_mul_mod_self_left (rw' a b p p) (B ^ p) z, ← hz, Nat.mul_mod, Nat.mod_mod, ← Nat.mul_mod]

/-- The carry into place p. -/
def cy (a b p : Nat) : Nat := tot a b p / B ^ p

theorem cy_zero (a b : Nat) : cy a b 0 = 0 := by simp [cy, tot_zero]
theorem tot_step (a b p : Nat) : tot a b (p + 1) = tot a b p % B ^ p + B ^ p * (cy a b p + cs a b p (p + 1)) := by
  rw [tot_succ, Nat.mul_add, cy]
  have := Nat.mod_add_div (tot a b p) (B ^ p)
  omega

theorem cy_succ (a b p : Nat) : cy a b (p + 1) = (cy a b p + cs a b p (p + 1)) / 1000000000 := by
  rw [cy, tot_step, pow_succ, ← Nat.div_div_eq_div_mul, Nat.add_mul_div_left _ _ (pow_pos p), Nat.div_eq_of_lt (Nat.mod_lt _ (pow_pos p)), Nat.zero_add, B_eq]

theorem dg_mul (a b p : Nat) : dg (a * b) p = (cy a b p + cs a b p (p + 1)) % 1000000000 := by
  rw [← dg_mod (Nat.lt_succ_self p), ← tot_mod, dg_mod (Nat.lt_succ_self p), tot_step, dg_at (Nat.mod_lt _ (pow_pos p)), B_eq]

/-- A product of two limbs. -/
theorem dg_prod (a b i j : Nat) : dg a i * dg b j ≤ 999999998000000001 := by
  have h1 := dg_lt a i
  have h2 := dg_lt b j
  have : dg a i * dg b j ≤ 999999999 * 999999999 := Nat.mul_le_mul (by omega) (by omega)
  omega

theorem cs_le (a b p k : Nat) : cs a b p k ≤ k * 999999998000000001 := by
  induction k with
  | zero => simp [cs]
  | succ k ih => rw [cs, Nat.add_mul, Nat.one_mul]; exact Nat.add_le_add ih (dg_prod _ _ _ _)

/-- Ahead of the first limb that counts all products are 0. -/
theorem cs_first (a b p k lb : Nat) (hb : ln b ≤ lb) (h : k + lb ≤ p + 1) : cs a b p k = 0 := by
  induction k with
  | zero => rfl
  | succ k ih => rw [cs, ih (by omega), dg_past (n := b) (by omega), Nat.mul_zero]

/-- Behind the last limb that counts all products are 0. -/
theorem cs_last (a b p k d la : Nat) (ha : ln a ≤ la) (h : la ≤ k) : cs a b p (k + d) = cs a b p k := by
  induction d with
  | zero => rfl
  | succ d ih => rw [← Nat.add_assoc, cs, ih, dg_past (n := a) (k := k + d) (by omega), Nat.zero_mul, Nat.add_zero]

theorem cs_end (a b p la : Nat) (ha : ln a ≤ la) (h : la ≤ p + 1) : cs a b p la = cs a b p (p + 1) := by
  obtain ⟨d, e⟩ : ∃ d, p + 1 = la + d := ⟨p + 1 - la, by omega⟩
  rw [e, cs_last a b p la d la ha (Nat.le_refl _)]

/-- No carry passes 10^9 for each product of a column and one more. -/
theorem cy_le (a b p la : Nat) (ha : ln a ≤ la) : cy a b p ≤ (la + 1) * 1000000000 := by
  induction p with
  | zero => rw [cy_zero]; omega
  | succ p ih =>
    rw [cy_succ]
    have h1 : cs a b p (p + 1) ≤ la * 999999998000000001 := by
      by_cases h : la ≤ p + 1
      · rw [← cs_end a b p la ha h]; exact cs_le _ _ _ _
      · exact Nat.le_trans (cs_le _ _ _ _) (Nat.mul_le_mul_right _ (by omega))
    omega

theorem mul_lt_pow {a b la lb : Nat} (ha : a < B ^ la) (hb : b < B ^ lb) : a * b < B ^ (la + lb) := by
  rw [Nat.pow_add]; exact Nat.mul_lt_mul'' ha hb

end Go.Proofs.YtiocehlefpbbhaaGreatDoor.NV
