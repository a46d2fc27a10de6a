/-
  A product row by row, each added in place.
-/
import Derived.Test.YtiocehlefpbbhaaDoorM4
namespace Go.Proofs.YtiocehlefpbbhaaDoor.NV

/-- The carry below limb k of H + b*d. -/
def tc (H b d k : Nat) : Nat := (H % B ^ k + b % B ^ k * d) / B ^ k
theorem tc_zero (H b d : Nat) : tc H b d 0 = 0 := by simp [tc, Nat.mod_one]

theorem tc_lt (H b d k : Nat) (hd : d < 1000000000) : tc H b d k < 1000000000 := by
  rw [tc, Nat.div_lt_iff_lt_mul (pow_pos k)]
  have h1 : H % B ^ k < B ^ k := Nat.mod_lt _ (pow_pos k)
  have h2 : b % B ^ k ≤ B ^ k := Nat.le_of_lt (Nat.mod_lt _ (pow_pos k))
  have h3 : b % B ^ k * d ≤ B ^ k * 999999999 := Nat.mul_le_mul h2 (by omega)
  generalize B ^ k = P at *
  omega

theorem tc_step (H b d k : Nat) : H % B ^ (k + 1) + b % B ^ (k + 1) * d = (H % B ^ k + b % B ^ k * d) % B ^ k + B ^ k * (dg H k + dg b k * d + tc H b d k) := by
  rw [mod_succ, mod_succ, tc]
  have h := Nat.mod_add_div (H % B ^ k + b % B ^ k * d) (B ^ k)
  rw [Nat.add_mul, Nat.mul_add, Nat.mul_add, Nat.mul_assoc]
  omega

theorem tc_succ (H b d k : Nat) : tc H b d (k + 1) = (dg H k + dg b k * d + tc H b d k) / 1000000000 := by
  rw [tc, tc_step, pow_succ, ← Nat.div_div_eq_div_mul, Nat.add_mul_div_left _ _ (pow_pos k), Nat.div_eq_of_lt (Nat.mod_lt _ (pow_pos k)), Nat.zero_add, B_eq]

theorem dg_row (H b d k : Nat) : dg (H + b * d) k = (dg H k + dg b k * d + tc H b d k) % 1000000000 := by
  have h1 : (H + b * d) % B ^ (k + 1) = (H % B ^ (k + 1) + b % B ^ (k + 1) * d) % B ^ (k + 1) := by
    simp [Nat.add_mod, Nat.mul_mod]
  rw [← dg_mod (n := H + b * d) (k := k + 1) (by omega), h1, dg_mod (by omega), tc_step, dg_at (Nat.mod_lt _ (pow_pos k)), B_eq]

theorem dg_row_top {H b d L : Nat} (hH : H < B ^ L) (hb : b < B ^ L) (hd : d < 1000000000) : dg (H + b * d) L = tc H b d L := by
  have h := tc_lt H b d L hd
  rw [dg, ← B_eq] at *
  rw [tc, Nat.mod_eq_of_lt hH, Nat.mod_eq_of_lt hb] at h ⊢
  rw [Nat.mod_eq_of_lt h]

/-- What the rows below i give. -/
def rowsTo (a b i : Nat) : Nat := a % B ^ i * b
theorem rowsTo_zero (a b : Nat) : rowsTo a b 0 = 0 := by simp [rowsTo, Nat.mod_one]
theorem rowsTo_lt {a b L : Nat} (hb : b < B ^ L) (i : Nat) : rowsTo a b i < B ^ (i + L) := by
  rw [rowsTo, Nat.pow_add]
  exact Nat.mul_lt_mul'' (Nat.mod_lt _ (pow_pos i)) hb
theorem rowsTo_succ (a b i : Nat) : rowsTo a b (i + 1) = rowsTo a b i % B ^ i + B ^ i * (rowsTo a b i / B ^ i + b * dg a i) := by
  have h := Nat.mod_add_div (rowsTo a b i) (B ^ i)
  have e : rowsTo a b (i + 1) = rowsTo a b i + B ^ i * (b * dg a i) := by
    rw [rowsTo, rowsTo, mod_succ, Nat.add_mul, Nat.mul_assoc, Nat.mul_comm (dg a i) b]
  rw [e, Nat.mul_add]
  omega
theorem rowsTo_low (a b i j : Nat) (h : j < i) : dg (rowsTo a b (i + 1)) j = dg (rowsTo a b i) j := by
  rw [rowsTo_succ, dg_add_mul h, dg_mod h]
theorem rowsTo_high (a b i k : Nat) : dg (rowsTo a b (i + 1)) (i + k) = dg (rowsTo a b i / B ^ i + b * dg a i) k := by
  rw [← dg_shift]
  congr 1
  rw [rowsTo_succ, Nat.add_mul_div_left _ _ (pow_pos i), Nat.div_eq_of_lt (Nat.mod_lt _ (pow_pos i)), Nat.zero_add]
theorem rowsTo_end {a b L : Nat} (ha : a < B ^ L) : rowsTo a b L = a * b := by rw [rowsTo, Nat.mod_eq_of_lt ha]

/-- The limbs in the midst of row i, k of them done. -/
def rowsAt (a b i k j : Nat) : Nat := if j < i + k then dg (rowsTo a b (i + 1)) j else dg (rowsTo a b i) j
theorem rowsAt_zero (a b i j : Nat) : rowsAt a b i 0 j = dg (rowsTo a b i) j := by
  rw [rowsAt]
  split
  · exact rowsTo_low a b i j (by omega)
  · rfl
theorem rowsAt_done {a b i L : Nat} (hb : b < B ^ L) (j : Nat) : rowsAt a b i (L + 1) j = dg (rowsTo a b (i + 1)) j := by
  rw [rowsAt]
  split
  · rfl
  · rw [dg_big, dg_big]
    · exact Nat.lt_of_lt_of_le (rowsTo_lt hb (i + 1)) (Nat.pow_le_pow_right B_pos (by omega))
    · exact Nat.lt_of_lt_of_le (rowsTo_lt hb i) (Nat.pow_le_pow_right B_pos (by omega))
theorem rowsAt_here (a b i k : Nat) : rowsAt a b i k (i + k) = dg (rowsTo a b i / B ^ i) k := by
  rw [rowsAt, if_neg (by omega), dg_shift]

theorem high_lt {a b L : Nat} (hb : b < B ^ L) (i : Nat) : rowsTo a b i / B ^ i < B ^ L := by
  rw [Nat.div_lt_iff_lt_mul (pow_pos i), Nat.mul_comm, ← Nat.pow_add]
  exact rowsTo_lt hb i

end Go.Proofs.YtiocehlefpbbhaaDoor.NV
