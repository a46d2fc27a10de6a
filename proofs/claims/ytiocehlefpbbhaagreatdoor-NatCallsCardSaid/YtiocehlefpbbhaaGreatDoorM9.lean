/-
  Plain mathematics: the first digits of a number.
-/
import Derived.Test.YtiocehlefpbbhaaGreatDoorM8
namespace Go.Proofs.YtiocehlefpbbhaaGreatDoor.NV

theorem lead_div {a n sh rs : Nat} (hn : 3 ≤ n) (ha : a < B ^ n) (h : sh * rs = 1000000000) (hr : 0 < rs) : (dg a (n - 1) * 1000000000 + dg a (n - 2)) * sh + dg a (n - 3) / rs = a / (B ^ (n - 3) * rs) := by
  obtain ⟨m, rfl⟩ : ∃ m, n = m + 3 := ⟨n - 3, by omega⟩
  rw [show m + 3 - 1 = m + 2 by omega, show m + 3 - 2 = m + 1 by omega, show m + 3 - 3 = m by omega]
  have h1 := next_limb a m
  have h2 := next_limb a (m + 1)
  have h3 := next_limb a (m + 2)
  rw [show m + 1 + 1 = m + 2 by omega] at h2
  rw [show m + 2 + 1 = m + 3 by omega, Nat.div_eq_of_lt ha] at h3
  have hU : a / B ^ (m + 1) = dg a (m + 2) * 1000000000 + dg a (m + 1) := by rw [h2, h3, Nat.zero_mul, Nat.zero_add]
  rw [← hU, ← Nat.div_div_eq_div_mul, h1, ← h]
  have e : a / B ^ (m + 1) * (sh * rs) + dg a m = dg a m + rs * (a / B ^ (m + 1) * sh) := by
    have : a / B ^ (m + 1) * (sh * rs) = rs * (a / B ^ (m + 1) * sh) := by rw [Nat.mul_comm sh rs, Nat.mul_left_comm]
    omega
  rw [e, Nat.add_mul_div_left _ _ hr]
  omega

theorem lead_lt {a n sh rs : Nat} (hn : 3 ≤ n) (ha : a < B ^ n) (h : sh * rs = 1000000000) (hr : 0 < rs) (ht : dg a (n - 1) * sh < 1000000000) : a / (B ^ (n - 3) * rs) < 1000000000000000000 := by
  obtain ⟨m, rfl⟩ : ∃ m, n = m + 3 := ⟨n - 3, by omega⟩
  rw [show m + 3 - 1 = m + 2 by omega] at ht
  rw [show m + 3 - 3 = m by omega]
  have h1 := next_limb a m
  have h2 := next_limb a (m + 1)
  have h3 := next_limb a (m + 2)
  rw [show m + 1 + 1 = m + 2 by omega] at h2
  rw [show m + 2 + 1 = m + 3 by omega, Nat.div_eq_of_lt ha] at h3
  have b1 := dg_lt a m
  have b2 := dg_lt a (m + 1)
  have h4 : dg a (m + 2) < rs := by
    rw [← h, Nat.mul_comm] at ht
    exact Nat.lt_of_mul_lt_mul_left ht
  have h5 : a / B ^ m < rs * 1000000000000000000 := by omega
  rw [← Nat.div_div_eq_div_mul, Nat.div_lt_iff_lt_mul hr]
  omega

/-- The parts of the sum are as small as the sum. -/
theorem lead_parts {A1 A2 A3 sh rs V : Nat} (h : (A1 * 1000000000 + A2) * sh + A3 / rs = V) (hV : V < 1000000000000000000) :
    0 ≤ ((A1 : Int) * 1000000000 + A2) * (sh : Int) ∧ ((A1 : Int) * 1000000000 + A2) * (sh : Int) ≤ 1000000000000000000 ∧ 0 ≤ (A3 : Int) / (rs : Int) ∧ (A3 : Int) / (rs : Int) ≤ 1000000000000000000 ∧ ((A1 : Int) * 1000000000 + A2) * (sh : Int) + (A3 : Int) / (rs : Int) = (V : Int) := by
  have e1 : ((A1 : Int) * 1000000000 + A2) * (sh : Int) = (((A1 * 1000000000 + A2) * sh : Nat) : Int) := by simp
  have e2 : (A3 : Int) / (rs : Int) = ((A3 / rs : Nat) : Int) := by simp
  rw [e1, e2]
  generalize (A1 * 1000000000 + A2) * sh = u at *
  generalize A3 / rs = v at *
  omega

/-- One round of the search for the first digits. -/
theorem lead_step {t sh rs : Nat} (ht : 1 ≤ t) (h : sh * rs = 1000000000) (hp : ∃ k, k ≤ 8 ∧ sh = 10 ^ k ∧ rs = 10 ^ (9 - k)) (hlt : t * sh < 100000000) : (sh * 10) * (rs / 10) = 1000000000 ∧ (∃ k, k ≤ 8 ∧ sh * 10 = 10 ^ k ∧ rs / 10 = 10 ^ (9 - k)) ∧ t * (sh * 10) < 1000000000 ∧ sh < 100000000 := by
  obtain ⟨k, hk, rfl, rfl⟩ := hp
  have h8 : 10 ^ k < 100000000 := by
    have : 1 * 10 ^ k ≤ t * 10 ^ k := Nat.mul_le_mul_right _ ht
    omega
  have hk8 : k ≤ 7 := by
    by_cases e : k ≤ 7
    · exact e
    · have : 10 ^ 8 ≤ 10 ^ k := Nat.pow_le_pow_right (by omega) (by omega)
      omega
  have e : 10 ^ (9 - k) = 10 ^ (9 - (k + 1)) * 10 := by rw [← Nat.pow_succ]; congr 1; omega
  have e2 : 10 ^ (9 - k) / 10 = 10 ^ (9 - (k + 1)) := by rw [e]; exact Nat.mul_div_cancel _ (by omega)
  refine ⟨?_, ⟨k + 1, by omega, by rw [Nat.pow_succ], e2⟩, ?_, h8⟩
  · rw [e2, Nat.mul_assoc, Nat.mul_comm 10, ← e]; exact h
  · rw [← Nat.mul_assoc]; omega

end Go.Proofs.YtiocehlefpbbhaaGreatDoor.NV
