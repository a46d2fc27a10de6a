/-
  Plain mathematics: what the scaled numbers of a long division are.
-/
import Derived.Test.YtiocehlefpbbhaaGreatDoorM4
namespace Go.Proofs.YtiocehlefpbbhaaGreatDoor.NV

theorem dg_high {low hi k j : Nat} (h : low < B ^ k) : dg (low + B ^ k * hi) (k + j) = dg hi j := by
  rw [← dg_shift, Nat.add_mul_div_left _ _ (pow_pos k), Nat.div_eq_of_lt h, Nat.zero_add]

structure Sets (a b n d Q : Nat) : Prop where
  d1 : 1 ≤ d
  d2 : d ≤ 500000000
  lnv : ln (b * d) = n + 2
  half : 500000000 ≤ dg (b * d) (n + 1)
  start : a * d < (b * d) * B ^ Q
  quo : a * d / (b * d) = a / b
  rest : a * d % (b * d) / d = a % b
  small : a / b < B ^ Q
  wide : a * d < B ^ (ln a + 1)

theorem sets {a b n d Q : Nat} (hb : ln b = n + 2) (_hab : b ≤ a) (hd : d = 1000000000 / (dg b (n + 1) + 1)) (hQ : Q + (n + 1) = ln a) : Sets a b n d Q := by
  have ht0 := dg_top hb
  have htl := dg_lt b (n + 1)
  obtain ⟨h1, h2, h3⟩ := scale_half (t := dg b (n + 1)) (by omega) hd htl
  have htop : b / B ^ (n + 1) = dg b (n + 1) := by
    have := lt_pow_ln b
    rw [hb] at this
    exact v_top this
  have hblo : dg b (n + 1) * B ^ (n + 1) ≤ b := by rw [← htop]; exact div_low b (n + 1)
  have hbhi : b < (dg b (n + 1) + 1) * B ^ (n + 1) := by rw [← htop]; exact lt_high b (n + 1)
  have hp := pow_pos (n + 1)
  have hdpos : 0 < d := h3
  have hvlt : b * d < B ^ (n + 2) := by
    have e1 : b * d < (dg b (n + 1) + 1) * B ^ (n + 1) * d := Nat.mul_lt_mul_of_pos_right hbhi hdpos
    have e2 : (dg b (n + 1) + 1) * B ^ (n + 1) * d = (dg b (n + 1) + 1) * d * B ^ (n + 1) := by ac_rfl
    have e3 : (dg b (n + 1) + 1) * d * B ^ (n + 1) ≤ 1000000000 * B ^ (n + 1) := Nat.mul_le_mul_right _ h2
    have hB : B ^ (n + 2) = 1000000000 * B ^ (n + 1) := by
      rw [show n + 2 = n + 1 + 1 by omega, pow_succ (n + 1), Nat.mul_comm]
      exact congrArg (fun z => z * B ^ (n + 1)) B_eq
    omega
  have hvge : 500000000 * B ^ (n + 1) ≤ b * d := by
    have e1 : dg b (n + 1) * B ^ (n + 1) * d ≤ b * d := Nat.mul_le_mul_right _ hblo
    have e2 : dg b (n + 1) * B ^ (n + 1) * d = dg b (n + 1) * d * B ^ (n + 1) := by ac_rfl
    have e3 : 500000000 * B ^ (n + 1) ≤ dg b (n + 1) * d * B ^ (n + 1) := Nat.mul_le_mul_right _ h1
    omega
  have hhalf : 500000000 ≤ dg (b * d) (n + 1) := by
    rw [← v_top hvlt, Nat.le_div_iff_mul_le hp]; exact hvge
  have hb0 : 0 < b := by
    have : 0 < dg b (n + 1) * B ^ (n + 1) := Nat.mul_pos (by omega) hp
    omega
  have hbge : B ^ (n + 1) ≤ b := by
    have : 1 * B ^ (n + 1) ≤ dg b (n + 1) * B ^ (n + 1) := Nat.mul_le_mul_right _ (by omega)
    omega
  have hal := lt_pow_ln a
  have hmain : B ^ ln a ≤ b * B ^ Q := by
    rw [← hQ, Nat.add_comm, Nat.pow_add]
    exact Nat.mul_le_mul_right _ hbge
  refine ⟨h3, ?_, ?_, hhalf, ?_, Nat.mul_div_mul_right a b hdpos, ?_, ?_, ?_⟩
  · rw [hd]
    have := Nat.div_le_div_left (a := 1000000000) (show 2 ≤ dg b (n + 1) + 1 by omega) (by omega)
    omega
  · exact ln_of_top (n := b * d) (k := n + 1) hvlt (by omega)
  · have e1 : a * d < b * B ^ Q * d := Nat.mul_lt_mul_of_pos_right (Nat.lt_of_lt_of_le hal hmain) hdpos
    have e2 : b * B ^ Q * d = b * d * B ^ Q := by ac_rfl
    omega
  · rw [Nat.mul_mod_mul_right, Nat.mul_div_cancel _ hdpos]
  · rw [Nat.div_lt_iff_lt_mul hb0, Nat.mul_comm]
    exact Nat.lt_of_lt_of_le hal hmain
  · have hd5 : d ≤ 1000000000 := by
      rw [hd]; exact Nat.div_le_self _ _
    rw [pow_succ, B_eq]
    rw [B_eq] at hal
    exact Nat.lt_of_lt_of_le (Nat.mul_lt_mul_of_pos_right hal hdpos) (Nat.mul_le_mul_left _ hd5)

/-- What one round does to the row. -/
theorem row_round {u v k n : Nat} (hv0 : 0 < v) (hv : v < B ^ (n + 2)) (j : Nat) :
    (if k ≤ j ∧ j < k + (n + 3) then dg (u % (v * B ^ (k + 1)) / B ^ k % v) (j - k) else dg (u % (v * B ^ (k + 1))) j) = dg (u % (v * B ^ k)) j := by
  obtain ⟨_, _, h3⟩ := left_step u v k hv0
  rw [h3]
  generalize hR : u % (v * B ^ (k + 1)) = R
  have hRlt : R < B ^ (k + (n + 3)) := by
    rw [← hR]
    have h1 : u % (v * B ^ (k + 1)) < v * B ^ (k + 1) := Nat.mod_lt _ (Nat.mul_pos hv0 (pow_pos _))
    have h2 : v * B ^ (k + 1) ≤ B ^ (n + 2) * B ^ (k + 1) := Nat.mul_le_mul_right _ (Nat.le_of_lt hv)
    rw [← Nat.pow_add] at h2
    rw [show k + (n + 3) = n + 2 + (k + 1) by omega]
    omega
  by_cases h1 : k ≤ j ∧ j < k + (n + 3)
  · rw [if_pos h1]
    obtain ⟨t, rfl⟩ : ∃ t, j = k + t := ⟨j - k, by omega⟩
    rw [dg_high (Nat.mod_lt _ (pow_pos k)), Nat.add_sub_cancel_left]
  · rw [if_neg h1]
    by_cases h2 : j < k
    · rw [dg_add_mul h2, dg_mod h2]
    · obtain ⟨t, rfl⟩ : ∃ t, j = k + t := ⟨j - k, by omega⟩
      rw [dg_high (Nat.mod_lt _ (pow_pos k))]
      have hm : R / B ^ k % v < B ^ (n + 2) := Nat.lt_trans (Nat.mod_lt _ hv0) hv
      rw [dg_big (Nat.lt_of_lt_of_le hRlt (Nat.pow_le_pow_right B_pos (by omega))), dg_big (Nat.lt_of_lt_of_le hm (Nat.pow_le_pow_right B_pos (by omega)))]

theorem left_lt {u v k : Nat} (hv0 : 0 < v) : u % (v * B ^ (k + 1)) / B ^ k < 1000000000 * v := by
  rw [Nat.div_lt_iff_lt_mul (pow_pos k)]
  have h1 : u % (v * B ^ (k + 1)) < v * B ^ (k + 1) := Nat.mod_lt _ (Nat.mul_pos hv0 (pow_pos _))
  have h2 : v * B ^ (k + 1) = 1000000000 * v * B ^ k := by rw [pow_succ, B_eq]; ac_rfl
  omega

end Go.Proofs.YtiocehlefpbbhaaGreatDoor.NV
