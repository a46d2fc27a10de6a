/-
  The number of binary digits.
-/
import Derived.Test.YtiocehlefpbbhaaGreatDoorM5
import Derived.Lib.BitFns
namespace Go.Proofs.YtiocehlefpbbhaaGreatDoor

def bl (n : Nat) : Nat := if h : n = 0 then 0 else bl (n / 2) + 1
termination_by n
decreasing_by omega

theorem bl_zero : bl 0 = 0 := by rw [bl, dif_pos rfl]
theorem bl_half {n : Nat} (h : n ≠ 0) : bl n = bl (n / 2) + 1 := by rw [bl, dif_neg h]
theorem bl_shift : ∀ (k n : Nat), n / 2 ^ k ≠ 0 → bl n = k + bl (n / 2 ^ k)
  | 0, n, _ => by simp
  | k + 1, n, h => by
    have hn : n ≠ 0 := by rintro rfl; simp at h
    have e : n / 2 / 2 ^ k = n / 2 ^ (k + 1) := by rw [Nat.div_div_eq_div_mul, Nat.pow_succ, Nat.mul_comm]
    rw [bl_half hn, bl_shift k (n / 2) (by rw [e]; exact h), e]; omega

theorem bl_lib : ∀ (k x : Nat), x < k → x < 2 ^ 64 → Lib.bitLen x = bl x
  | 0, x, h, _ => by omega
  | k + 1, x, h, hx => by
    by_cases h0 : x = 0
    · subst h0; rw [bl_zero]; rfl
    · rw [Lib.bitLen_half x h0 hx, bl_half h0, bl_lib k (x / 2) (by omega) (by omega)]; omega

theorem bl_le : ∀ (k n : Nat), n < 2 ^ k → bl n ≤ k
  | 0, n, h => by
    have : n = 0 := by simpa using h
    subst this; rw [bl_zero]; omega
  | k + 1, n, h => by
    by_cases h0 : n = 0
    · subst h0; rw [bl_zero]; omega
    · rw [bl_half h0]
      have := bl_le k (n / 2) (by rw [Nat.pow_succ] at h; omega)
      omega

end Go.Proofs.YtiocehlefpbbhaaGreatDoor
