/-
  Plain mathematics: the limbs of a natural number in base 1000000000, how many there are, and how sums and differences carry. Plain mathematics: the columns of a product of two numbers in base 1000000000, added up place by place. Plain mathematics: decimal texts and the numbers that they are. Plain mathematics: multiplying and dividing by one limb; long division by several limbs. Plain mathematics: what the scaled numbers of a long division are. Plain mathematics: Lehmer's way to the greatest common divisor. Plain mathematics: the first digits of a number.
-/
import Derived.WalkKit
import Derived.Lib.ItoaNum
namespace Go.Proofs.YtjpepjooefkbkaaGreatDoor
namespace NV
def B : Nat := 1000000000
theorem B_eq : B = 1000000000 := rfl
theorem B_pos : 0 < B := by rw [B_eq]; omega
theorem pow_pos (k : Nat) : 0 < B ^ k := Nat.pow_pos B_pos
theorem pow_succ (k : Nat) : B ^ (k + 1) = B ^ k * B := by rw [Nat.pow_succ]
def dg (n i : Nat) : Nat := n / B ^ i % B
theorem dg_lt (n i : Nat) : dg n i < 1000000000 := by rw [← B_eq]; exact Nat.mod_lt _ B_pos
theorem dg_zero (i : Nat) : dg 0 i = 0 := by simp [dg]
theorem mod_succ (n k : Nat) : n % B ^ (k + 1) = n % B ^ k + B ^ k * dg n k := by
 rw [pow_succ, Nat.mod_mul, dg]
def ln (n : Nat) : Nat :=
 if h : n = 0 then 0 else ln (n / B) + 1
termination_by n
decreasing_by exact Nat.div_lt_self (by omega) (by rw [B_eq]; omega)
theorem ln_zero : ln 0 = 0 := by rw [ln, dif_pos rfl]
theorem ln_succ {n : Nat} (h : n ≠ 0) : ln n = ln (n / B) + 1 := by rw [ln, dif_neg h]
theorem ln_pos {n : Nat} (h : n ≠ 0) : 0 < ln n := by rw [ln_succ h]; omega
theorem ln_eq_zero {n : Nat} (h : ln n = 0) : n = 0 := by
 by_cases hn : n = 0
 ·exact hn
 ·have := ln_pos hn; omega
theorem lt_pow_ln (n : Nat) : n < B ^ ln n := by
 induction n using Nat.strongRecOn with
 | _ n ih =>
  by_cases h : n = 0
  ·subst h; rw [ln_zero]; simp
  ·have hlt : n / B < n := Nat.div_lt_self (by omega) (by rw [B_eq]; omega)
   have := ih (n / B) hlt
   rw [ln_succ h, pow_succ]
   exact (Nat.div_lt_iff_lt_mul B_pos).1 this
theorem pow_le_of_ln {n k : Nat} (h : ln n = k + 1) : B ^ k ≤ n := by
 induction k generalizing n with
 | zero =>
  have : n ≠ 0 := by intro e; subst e; rw [ln_zero] at h; omega
  simp; omega
 | succ k ih =>
  have hn : n ≠ 0 := by intro e; subst e; rw [ln_zero] at h; omega
  rw [ln_succ hn] at h
  have := ih (n := n / B) (by omega)
  rw [pow_succ]
  exact (Nat.le_div_iff_mul_le B_pos).1 this
theorem ln_le {n k : Nat} (h : n < B ^ k) : ln n ≤ k := by
 by_cases hk : ln n ≤ k
 ·exact hk
 ·obtain ⟨m, hm⟩ : ∃ m, ln n = m + 1 := ⟨ln n - 1, by omega⟩
  have h1 := pow_le_of_ln hm
  have h2 : B ^ k ≤ B ^ m := Nat.pow_le_pow_right B_pos (by omega)
  omega
theorem ln_unique {n k : Nat} (h1 : B ^ k ≤ n) (h2 : n < B ^ (k + 1)) : ln n = k + 1 := by
 have h3 := ln_le h2
 by_cases h : ln n ≤ k
 ·have h4 := lt_pow_ln n
  have h5 : B ^ ln n ≤ B ^ k := Nat.pow_le_pow_right B_pos h
  omega
 ·omega
theorem ln_mono {a b : Nat} (h : a ≤ b) : ln a ≤ ln b := ln_le (Nat.lt_of_le_of_lt h (lt_pow_ln b))
theorem lt_of_ln_lt {a b : Nat} (h : ln a < ln b) : a < b := by
 by_cases hab : a < b
 ·exact hab
 ·have := ln_mono (show b ≤ a by omega); omega
theorem dg_big {n k : Nat} (h : n < B ^ k) : dg n k = 0 := by rw [dg, Nat.div_eq_of_lt h, Nat.zero_mod]
theorem dg_past {n k : Nat} (h : ln n ≤ k) : dg n k = 0 :=
 dg_big (Nat.lt_of_lt_of_le (lt_pow_ln n) (Nat.pow_le_pow_right B_pos h))
theorem dg_top {n k : Nat} (h : ln n = k + 1) : dg n k ≠ 0 := by
 have h1 := pow_le_of_ln h
 have h2 := lt_pow_ln n
 rw [h, pow_succ] at h2
 have h3 : n / B ^ k < B := (Nat.div_lt_iff_lt_mul (pow_pos k)).2 (by rw [Nat.mul_comm]; exact h2)
 have h4 : 0 < n / B ^ k := Nat.div_pos h1 (pow_pos k)
 rw [dg, Nat.mod_eq_of_lt h3]
 omega
theorem lt_of_dg_zero {n k : Nat} (h : n < B ^ (k + 1)) (hz : dg n k = 0) : n < B ^ k := by
 have h1 := mod_succ n k
 rw [Nat.mod_eq_of_lt h, hz, Nat.mul_zero, Nat.add_zero] at h1
 rw [h1]
 exact Nat.mod_lt _ (pow_pos k)
theorem ln_of_top {n k : Nat} (h : n < B ^ (k + 1)) (hz : dg n k ≠ 0) : ln n = k + 1 := by
 by_cases h1 : n < B ^ k
 ·exact absurd (dg_big h1) hz
 ·exact ln_unique (by omega) h
theorem dg_mod {n k j : Nat} (h : j < k) : dg (n % B ^ k) j = dg n j := by
 obtain ⟨d, rfl⟩ : ∃ d, k = j + (d + 1) := ⟨k - j - 1, by omega⟩
 rw [dg, dg, Nat.pow_add, Nat.mod_mul_right_div_self, Nat.pow_succ, Nat.mul_comm (B ^ d) B, Nat.mod_mul_right_mod]
theorem dg_add_mul {a b k j : Nat} (h : j < k) : dg (a + B ^ k * b) j = dg a j := by
 rw [← dg_mod h, Nat.add_mul_mod_self_left, dg_mod h]
theorem dg_at {a b k : Nat} (h : a < B ^ k) : dg (a + B ^ k * b) k = b % B := by
 rw [dg, Nat.add_mul_div_left _ _ (pow_pos k), Nat.div_eq_of_lt h, Nat.zero_add]
theorem dg_shift (a k j : Nat) : dg (a / B ^ k) j = dg a (k + j) := by
 rw [dg, dg, Nat.div_div_eq_div_mul, Nat.pow_add]
/-! ### Sums -/
def ca (a b k : Nat) : Nat := (a % B ^ k + b % B ^ k) / B ^ k
theorem ca_zero (a b : Nat) : ca a b 0 = 0 := by simp [ca, Nat.mod_one]
theorem ca_le (a b k : Nat) : ca a b k ≤ 1 := by
 have h1 := Nat.mod_lt a (pow_pos k)
 have h2 := Nat.mod_lt b (pow_pos k)
 have : ca a b k < 2 := (Nat.div_lt_iff_lt_mul (pow_pos k)).2 (by omega)
 omega
theorem add_step (a b k : Nat) : a % B ^ (k + 1) + b % B ^ (k + 1) = (a % B ^ k + b % B ^ k) % B ^ k + B ^ k * (dg a k + dg b k + ca a b k) := by
 rw [mod_succ, mod_succ, Nat.mul_add, Nat.mul_add, ca]
 have := Nat.mod_add_div (a % B ^ k + b % B ^ k) (B ^ k)
 omega
theorem ca_succ (a b k : Nat) : ca a b (k + 1) = (dg a k + dg b k + ca a b k) / 1000000000 := by
 rw [ca, add_step, pow_succ, ← Nat.div_div_eq_div_mul, Nat.add_mul_div_left _ _ (pow_pos k), Nat.div_eq_of_lt (Nat.mod_lt _ (pow_pos k)), Nat.zero_add, B_eq]
theorem dg_add (a b k : Nat) : dg (a + b) k = (dg a k + dg b k + ca a b k) % 1000000000 := by
 have h0 : dg (a + b) k = dg (a % B ^ (k + 1) + b % B ^ (k + 1)) k := by
  rw [← dg_mod (Nat.lt_succ_self k), Nat.add_mod, dg_mod (Nat.lt_succ_self k)]
 rw [h0, add_step, dg_at (Nat.mod_lt _ (pow_pos k)), B_eq]
/-! ### Differences -/
def bo (a b k : Nat) : Nat := ca (a - b) b k
theorem bo_zero (a b : Nat) : bo a b 0 = 0 := ca_zero _ _
theorem bo_le (a b k : Nat) : bo a b k ≤ 1 := ca_le _ _ _
theorem dg_sub {a b : Nat} (h : b ≤ a) (k : Nat) : dg (a - b) k = (dg a k + 1000000000 - dg b k - bo a b k) % 1000000000 ∧ bo a b (k + 1) = 1 - (dg a k + 1000000000 - dg b k - bo a b k) / 1000000000 := by
 have e1 := dg_add (a - b) b k
 have e2 := ca_succ (a - b) b k
 rw [Nat.sub_add_cancel h] at e1
 have h1 := dg_lt (a - b) k
 have h2 := dg_lt b k
 have h3 := ca_le (a - b) b k
 unfold bo
 constructor <;> omega
end NV
namespace NV
def cs (a b p : Nat) : Nat → Nat
 | 0 => 0
 | k + 1 => cs a b p k + dg a k * dg b (p - k)
def rw' (a b p : Nat) : Nat → Nat
 | 0 => 0
 | k + 1 => rw' a b p k + B ^ k * (dg a k * (b % B ^ (p - k)))
def tot (a b p : Nat) : Nat := rw' a b p p
theorem tot_zero (a b : Nat) : tot a b 0 = 0 := rfl
theorem rw'_next (a b p k : Nat) (h : k ≤ p) : rw' a b (p + 1) k = rw' a b p k + B ^ p * cs a b p k := by
 induction k with
 | zero => simp [rw', cs]
 | succ k ih =>
  have e : p + 1 - k = (p - k) + 1 := by omega
  have e2 : B ^ p = B ^ k * B ^ (p - k) := by rw [← Nat.pow_add]; congr 1; omega
  rw [rw', rw', cs, ih (by omega), e, mod_succ, Nat.mul_add, Nat.mul_add, Nat.mul_add]
  have e3 : B ^ k * (dg a k * (B ^ (p - k) * dg b (p - k))) = B ^ p * (dg a k * dg b (p - k)) := by
   rw [e2]; ac_rfl
  omega
theorem tot_succ (a b p : Nat) : tot a b (p + 1) = tot a b p + B ^ p * cs a b p (p + 1) := by
 have e : p + 1 - p = 1 := by omega
 have e0 : b % B ^ 1 = dg b 0 := by rw [dg]; simp
 rw [tot, rw', rw'_next a b p p (Nat.le_refl _), tot, cs, e, e0, Nat.mul_add, Nat.sub_self]
 omega
theorem rw'_low (a b p k : Nat) (h : k ≤ p) : ∃ z, (a % B ^ k) * b = rw' a b p k + B ^ p * z := by
 induction k with
 | zero => exact ⟨0, by simp [rw', Nat.mod_one]⟩
 | succ k ih =>
  obtain ⟨z, hz⟩ := ih (by omega)
  have e2 : B ^ p = B ^ k * B ^ (p - k) := by rw [← Nat.pow_add]; congr 1; omega
  refine ⟨z + dg a k * (b / B ^ (p - k)), ?_⟩
  have e3 : B ^ k * dg a k * b = B ^ k * (dg a k * (b % B ^ (p - k))) + B ^ p * (dg a k * (b / B ^ (p - k))) := by
   have e5 : b = b % B ^ (p - k) + B ^ (p - k) * (b / B ^ (p - k)) := (Nat.mod_add_div b (B ^ (p - k))).symm
   generalize hq : b / B ^ (p - k) = q at *
   generalize hr : b % B ^ (p - k) = r at *
   rw [e2, e5, Nat.mul_add]
   congr 1
   ·ac_rfl
   ·ac_rfl
  rw [mod_succ, Nat.add_mul, hz, e3, rw', Nat.mul_add]
  omega
theorem tot_mod (a b p : Nat) : tot a b p % B ^ p = a * b % B ^ p := by
 obtain ⟨z, hz⟩ := rw'_low a b p p (Nat.le_refl _)
 rw [tot, ← Nat.add_mul_mod_self_left (rw' a b p p) (B ^ p) z, ← hz, Nat.mul_mod, Nat.mod_mod, ← Nat.mul_mod]
def cy (a b p : Nat) : Nat := tot a b p / B ^ p
theorem cy_zero (a b : Nat) : cy a b 0 = 0 := by simp [cy, tot_zero]
theorem tot_step (a b p : Nat) : tot a b (p + 1) = tot a b p % B ^ p + B ^ p * (cy a b p + cs a b p (p + 1)) := by
 rw [tot_succ, Nat.mul_add, cy]
 have := Nat.mod_add_div (tot a b p) (B ^ p)
 omega
theorem cy_succ (a b p : Nat) : cy a b (p + 1) = (cy a b p + cs a b p (p + 1)) / 1000000000 := by
 rw [cy, tot_step, pow_succ, ← Nat.div_div_eq_div_mul, Nat.add_mul_div_left _ _ (pow_pos p), Nat.div_eq_of_lt (Nat.mod_lt _ (pow_pos p)), Nat.zero_add, B_eq]
theorem dg_mul (a b p : Nat) : dg (a * b) p = (cy a b p + cs a b p (p + 1)) % 1000000000 := by
 rw [← dg_mod (Nat.lt_succ_self p), ← tot_mod, dg_mod (Nat.lt_succ_self p), tot_step, dg_at (Nat.mod_lt _ (pow_pos p)), B_eq]
theorem dg_prod (a b i j : Nat) : dg a i * dg b j ≤ 999999998000000001 := by
 have h1 := dg_lt a i
 have h2 := dg_lt b j
 have : dg a i * dg b j ≤ 999999999 * 999999999 := Nat.mul_le_mul (by omega) (by omega)
 omega
theorem cs_le (a b p k : Nat) : cs a b p k ≤ k * 999999998000000001 := by
 induction k with
 | zero => simp [cs]
 | succ k ih => rw [cs, Nat.add_mul, Nat.one_mul]; exact Nat.add_le_add ih (dg_prod _ _ _ _)
theorem cs_first (a b p k lb : Nat) (hb : ln b ≤ lb) (h : k + lb ≤ p + 1) : cs a b p k = 0 := by
 induction k with
 | zero => rfl
 | succ k ih => rw [cs, ih (by omega), dg_past (n := b) (by omega), Nat.mul_zero]
theorem cs_last (a b p k d la : Nat) (ha : ln a ≤ la) (h : la ≤ k) : cs a b p (k + d) = cs a b p k := by
 induction d with
 | zero => rfl
 | succ d ih => rw [← Nat.add_assoc, cs, ih, dg_past (n := a) (k := k + d) (by omega), Nat.zero_mul, Nat.add_zero]
theorem cs_end (a b p la : Nat) (ha : ln a ≤ la) (h : la ≤ p + 1) : cs a b p la = cs a b p (p + 1) := by
 obtain ⟨d, e⟩ : ∃ d, p + 1 = la + d := ⟨p + 1 - la, by omega⟩
 rw [e, cs_last a b p la d la ha (Nat.le_refl _)]
theorem cy_le (a b p la : Nat) (ha : ln a ≤ la) : cy a b p ≤ (la + 1) * 1000000000 := by
 induction p with
 | zero => rw [cy_zero]; omega
 | succ p ih =>
  rw [cy_succ]
  have h1 : cs a b p (p + 1) ≤ la * 999999998000000001 := by
   by_cases h : la ≤ p + 1
   ·rw [← cs_end a b p la ha h]; exact cs_le _ _ _ _
   ·exact Nat.le_trans (cs_le _ _ _ _) (Nat.mul_le_mul_right _ (by omega))
  omega
theorem mul_lt_pow {a b la lb : Nat} (ha : a < B ^ la) (hb : b < B ^ lb) : a * b < B ^ (la + lb) := by
 rw [Nat.pow_add]; exact Nat.mul_lt_mul'' ha hb
end NV
namespace NV
open Go.Lib (decDigits)
theorem snoc_ind (P : List UInt8 → Prop) (nil : P []) (snoc : ∀ l c, P l → P (l ++ [c])) (l : List UInt8) : P l := by
 have h : ∀ m : List UInt8, P m.reverse := by
  intro m
  induction m with
  | nil => exact nil
  | cons c m ih => rw [List.reverse_cons]; exact snoc _ _ ih
 simpa using h l.reverse
def dv (l : List UInt8) : Nat := l.foldl (fun n c => 10 * n + (c.toNat - 48)) 0
def Digs (l : List UInt8) : Prop := ∀ c ∈ l, 48 ≤ c.toNat ∧ c.toNat ≤ 57
theorem dv_nil : dv [] = 0 := rfl
theorem dv_snoc (l : List UInt8) (c : UInt8) : dv (l ++ [c]) = 10 * dv l + (c.toNat - 48) := by simp [dv]
theorem dv_append (l m : List UInt8) : dv (l ++ m) = dv l * 10 ^ m.length + dv m := by
 induction m using snoc_ind with
 | nil => simp [dv_nil]
 | snoc m c ih =>
  rw [← List.append_assoc, dv_snoc, ih, dv_snoc, List.length_append, List.length_singleton, Nat.pow_succ, Nat.mul_add]
  have : 10 * (dv l * 10 ^ m.length) = dv l * (10 ^ m.length * 10) := by ac_rfl
  omega
theorem dv_lt {l : List UInt8} (h : Digs l) : dv l < 10 ^ l.length := by
 induction l using snoc_ind with
 | nil => simp [dv_nil]
 | snoc l c ih =>
  have h1 := ih (fun x hx => h x (by simp [hx]))
  have h2 := h c (by simp)
  rw [dv_snoc, List.length_append, List.length_singleton, Nat.pow_succ]
  omega
theorem Digs.take {l : List UInt8} (h : Digs l) (k : Nat) : Digs (l.take k) := fun c hc => h c (List.mem_of_mem_take hc)
theorem Digs.drop {l : List UInt8} (h : Digs l) (k : Nat) : Digs (l.drop k) := fun c hc => h c (List.mem_of_mem_drop hc)
theorem B_pow (k : Nat) : B ^ k = 10 ^ (9 * k) := by rw [Nat.pow_mul, B_eq]
theorem dv_take {l : List UInt8} (h : Digs l) {e : Nat} (_he : e ≤ l.length) : dv (l.take e) = dv l / 10 ^ (l.length - e) := by
 have h1 : dv l = dv (l.take e) * 10 ^ (l.length - e) + dv (l.drop e) := by
  conv => lhs; rw [← List.take_append_drop e l]
  rw [dv_append, List.length_drop]
 have h2 := dv_lt (h.drop e)
 rw [List.length_drop] at h2
 rw [h1, Nat.mul_comm, Nat.mul_add_div (Nat.pow_pos (by omega)), Nat.div_eq_of_lt h2, Nat.add_zero]
theorem dv_piece {l : List UInt8} (h : Digs l) {e lo k : Nat} (he : e + 9 * k = l.length) (hlo : lo = e - 9) : dv ((l.take e).drop lo) = dg (dv l) k := by
 have h1 := dv_take h (e := e) (by omega)
 rw [show l.length - e = 9 * k by omega, ← B_pow] at h1
 have hl : (l.take e).length = e := by simp; omega
 have h3 : dv (l.take e) = dv ((l.take e).take lo) * 10 ^ (e - lo) + dv ((l.take e).drop lo) := by
  conv => lhs; rw [← List.take_append_drop lo (l.take e)]
  rw [dv_append, List.length_drop, hl]
 have h4 := dv_lt ((h.take e).drop lo)
 rw [List.length_drop, hl] at h4
 by_cases h9 : 9 ≤ e
 ·have e9 : e - lo = 9 := by omega
  rw [e9] at h3 h4
  rw [dg, ← h1, h3, B_eq, Nat.mul_comm, Nat.mul_add_mod, Nat.mod_eq_of_lt h4]
 ·have e0 : lo = 0 := by omega
  subst e0
  simp only [List.drop_zero, Nat.sub_zero] at h4 ⊢
  have h5 : 10 ^ e ≤ 10 ^ 9 := Nat.pow_le_pow_right (by omega) (by omega)
  rw [dg, ← h1, B_eq, Nat.mod_eq_of_lt (by omega)]
theorem dv_lt_pow {l : List UInt8} (h : Digs l) {k : Nat} (hk : l.length ≤ 9 * k) : dv l < B ^ k := by
 rw [B_pow]
 exact Nat.lt_of_lt_of_le (dv_lt h) (Nat.pow_le_pow_right (by omega) hk)
/-! ### The numeral of a number -/
theorem dec_small {n : Nat} (h : n < 10) : decDigits n = [UInt8.ofNat (48 + n)] := by rw [decDigits, dif_pos h]
theorem dec_big {n : Nat} (h : ¬ n < 10) : decDigits n = decDigits (n / 10) ++ [UInt8.ofNat (48 + n % 10)] := by rw [decDigits, dif_neg h]
theorem byte_toNat {d : Nat} (h : d < 10) : (UInt8.ofNat (48 + d)).toNat = 48 + d := by
 rw [UInt8.toNat_ofNat']; omega
theorem dec_ind (P : Nat → Prop) (h1 : ∀ n, n < 10 → P n) (h2 : ∀ n, ¬ n < 10 → P (n / 10) → P n) (n : Nat) : P n := by
 induction n using Nat.strongRecOn with
 | _ n ih =>
  by_cases h : n < 10
  ·exact h1 n h
  ·exact h2 n h (ih (n / 10) (by omega))
theorem dv_dec (n : Nat) : dv (decDigits n) = n := by
 induction n using dec_ind with
 | h1 n h => rw [dec_small h]; show 10 * 0 + ((UInt8.ofNat (48 + n)).toNat - 48) = n; rw [byte_toNat h]; omega
 | h2 n h ih => rw [dec_big h, dv_snoc, ih, byte_toNat (by omega)]; omega
theorem digs_dec (n : Nat) : Digs (decDigits n) := by
 induction n using dec_ind with
 | h1 n h => rw [dec_small h]; intro c hc; rw [List.mem_singleton] at hc; subst hc; rw [byte_toNat h]; omega
 | h2 n h ih =>
  rw [dec_big h]; intro c hc
  rcases List.mem_append.1 hc with hc | hc
  ·exact ih c hc
  ·rw [List.mem_singleton] at hc; subst hc; rw [byte_toNat (by omega)]; omega
theorem dec_ne_nil (n : Nat) : decDigits n ≠ [] := by
 by_cases h : n < 10
 ·rw [dec_small h]; simp
 ·rw [dec_big h]; simp
theorem dec_len_pos (n : Nat) : 0 < (decDigits n).length := List.length_pos_iff.2 (dec_ne_nil n)
def pad : Nat → Nat → List UInt8
 | 0, _ => []
 | k + 1, r => pad k (r / 10) ++ [UInt8.ofNat (48 + r % 10)]
theorem pad_length (k r : Nat) : (pad k r).length = k := by
 induction k generalizing r with
 | zero => rfl
 | succ k ih => simp [pad, ih]
theorem dec_pad {q : Nat} (hq : 0 < q) (k : Nat) : ∀ {r : Nat}, r < 10 ^ k → decDigits (q * 10 ^ k + r) = decDigits q ++ pad k r := by
 induction k with
 | zero => intro r hr; simp at hr; subst hr; simp [pad]
 | succ k ih =>
  intro r hr
  have h1 : ¬ q * 10 ^ (k + 1) + r < 10 := by
   have : 1 * 10 ≤ q * 10 ^ (k + 1) := Nat.mul_le_mul hq (by rw [Nat.pow_succ]; have := Nat.one_le_pow k 10 (by omega); omega)
   omega
  have h2 : (q * 10 ^ (k + 1) + r) / 10 = q * 10 ^ k + r / 10 := by rw [Nat.pow_succ, ← Nat.mul_assoc]; omega
  have h3 : (q * 10 ^ (k + 1) + r) % 10 = r % 10 := by rw [Nat.pow_succ, ← Nat.mul_assoc]; omega
  rw [dec_big h1, h2, h3, ih (by rw [Nat.pow_succ] at hr; omega), pad, List.append_assoc]
theorem dec_one : decDigits 1 = [49] := by rw [dec_small (by omega)]; rfl
theorem dec_base {r : Nat} (h : r < 1000000000) : decDigits (1000000000 + r) = 49 :: pad 9 r := by
 have := dec_pad (q := 1) (by omega) 9 (r := r) (by omega)
 rw [dec_one] at this
 rw [show 1000000000 + r = 1 * 10 ^ 9 + r by omega, this]
 rfl
theorem dec_limb {n k : Nat} (h : 0 < n / B ^ (k + 1)) : decDigits (n / B ^ k) = decDigits (n / B ^ (k + 1)) ++ pad 9 (dg n k) := by
 have e : n / B ^ k = n / B ^ (k + 1) * 10 ^ 9 + dg n k := by
  rw [dg, pow_succ, ← Nat.div_div_eq_div_mul]
  have := Nat.mod_add_div (n / B ^ k) B
  rw [B_eq] at this ⊢
  omega
 rw [e, dec_pad h 9 (dg_lt n k)]
theorem div_pos_of_ln {n k m : Nat} (h : ln n = m + 1) (hk : k ≤ m) : 0 < n / B ^ k :=
 Nat.div_pos (Nat.le_trans (Nat.pow_le_pow_right B_pos hk) (pow_le_of_ln h)) (pow_pos k)
theorem top_eq {n m : Nat} (h : ln n = m + 1) : n / B ^ m = dg n m := by
 have h2 := lt_pow_ln n
 rw [h, pow_succ] at h2
 rw [dg, Nat.mod_eq_of_lt ((Nat.div_lt_iff_lt_mul (pow_pos m)).2 (by rw [Nat.mul_comm]; exact h2))]
theorem dec_length {n m : Nat} (h : ln n = m + 1) : (decDigits n).length = 9 * m + (decDigits (dg n m)).length := by
 have e : n = n / B ^ m * 10 ^ (9 * m) + n % B ^ m := by
  rw [← B_pow, Nat.mul_comm]; have := Nat.mod_add_div n (B ^ m); omega
 conv => lhs; rw [e]
 rw [dec_pad (div_pos_of_ln h (Nat.le_refl _)) (9 * m) (by rw [← B_pow]; exact Nat.mod_lt _ (pow_pos m)), List.length_append, pad_length, top_eq h]
 omega
theorem dec_len_le {n k : Nat} (h : 0 < k) : (decDigits n).length ≤ k ↔ n < 10 ^ k := by
 constructor
 ·intro hl
  have := dv_lt (digs_dec n)
  rw [dv_dec] at this
  exact Nat.lt_of_lt_of_le this (Nat.pow_le_pow_right (by omega) hl)
 ·intro hn
  rw [Go.Lib.decDigits_length]
  induction k generalizing n with
  | zero => omega
  | succ k ih =>
   by_cases h10 : n < 10
   ·rw [Go.Lib.nDigits_small h10]; omega
   ·rw [Go.Lib.nDigits_big h10]
    have hk : 0 < k := by
     by_cases h0 : k = 0
     ·subst h0; simp at hn; omega
     ·omega
    have := ih (n := n / 10) hk (by rw [Nat.pow_succ] at hn; omega)
    omega
theorem dec_len_mono {a b : Nat} (h : a ≤ b) : (decDigits a).length ≤ (decDigits b).length := by
 rw [dec_len_le (dec_len_pos b)]
 have := dv_lt (digs_dec b)
 rw [dv_dec] at this
 omega
theorem ln_of_len {n k : Nat} (h : (decDigits n).length ≤ 9 * k) : ln n ≤ k := by
 refine ln_le ?_
 have := dv_lt_pow (digs_dec n) h
 rwa [dv_dec] at this
/-! ### What is a natural number's text -/
def badB (l : List UInt8) : Bool := l.isEmpty || (l.headD 0 == 48 && decide (1 < l.length)) || !(l.all fun c => decide (48 ≤ c.toNat ∧ c.toNat ≤ 57))
def chk (l : List UInt8) : Nat := if badB l then 3 else if 4000 < l.length then 5 else 0
theorem head_dec (n : Nat) : (decDigits n).headD 0 = 48 → n = 0 := by
 induction n using dec_ind with
 | h1 n h =>
  rw [dec_small h]; intro e
  have : (UInt8.ofNat (48 + n)).toNat = 48 := by simpa using congrArg UInt8.toNat e
  rw [byte_toNat h] at this; omega
 | h2 n h ih =>
  rw [dec_big h]; intro e
  have : (decDigits (n / 10)).headD 0 = 48 := by
   cases hd : decDigits (n / 10) with
   | nil => exact absurd hd (dec_ne_nil _)
   | cons x xs => rw [hd] at e; simpa using e
  have := ih this
  omega
theorem bad_dec (n : Nat) : badB (decDigits n) = false := by
 unfold badB
 have h1 : (decDigits n).isEmpty = false := by simpa using dec_ne_nil n
 have h3 : ((decDigits n).all fun c => decide (48 ≤ c.toNat ∧ c.toNat ≤ 57)) = true := by
  rw [List.all_eq_true]; intro c hc; simpa using digs_dec n c hc
 rw [h1, h3]
 by_cases h2 : (decDigits n).headD 0 = 48
 ·have h0 := head_dec n h2
  subst h0
  have : decDigits 0 = [48] := by rw [dec_small (by omega)]; rfl
  rw [this]; rfl
 ·have : ((decDigits n).headD 0 == 48) = false := by simpa using h2
  rw [this]; rfl
theorem chk_dec (n : Nat) : chk (decDigits n) = if 4000 < (decDigits n).length then 5 else 0 := by
 unfold chk; rw [bad_dec]; rfl
theorem dec_of_digs : ∀ {l : List UInt8}, l ≠ [] → Digs l → (l.headD 0 = 48 → l.length ≤ 1) → decDigits (dv l) = l := by
 intro l
 induction l using snoc_ind with
 | nil => intro h; exact absurd rfl h
 | snoc l c ih =>
  intro _ hd hz
  have hc := hd c (by simp)
  by_cases hl : l = []
  ·subst hl
   have e : dv [c] = c.toNat - 48 := by simp [dv]
   rw [List.nil_append, e, dec_small (by omega), show 48 + (c.toNat - 48) = c.toNat by omega, UInt8.ofNat_toNat]
  ·have hdl : Digs l := fun x hx => hd x (by simp [hx])
   have hhd : (l ++ [c]).headD 0 = l.headD 0 := by
    cases l with
    | nil => exact absurd rfl hl
    | cons x xs => rfl
   have hnz : l.headD 0 ≠ 48 := by
    intro e
    have := hz (by rw [hhd]; exact e)
    simp at this; exact hl this
   have ih' := ih hl hdl (fun e => absurd e hnz)
   have hpos : dv l ≠ 0 := by
    intro e
    rw [e, dec_small (by omega)] at ih'
    exact hnz (by rw [← ih']; rfl)
   rw [dv_snoc, dec_big (by omega), show (10 * dv l + (c.toNat - 48)) / 10 = dv l by omega, ih', show (10 * dv l + (c.toNat - 48)) % 10 = c.toNat - 48 by omega, show 48 + (c.toNat - 48) = c.toNat by omega, UInt8.ofNat_toNat]
theorem good_parts {l : List UInt8} (h : badB l = false) : l ≠ [] ∧ Digs l ∧ (l.headD 0 = 48 → l.length ≤ 1) := by
 unfold badB at h
 simp only [Bool.or_eq_false_iff, Bool.and_eq_false_iff, Bool.not_eq_false'] at h
 obtain ⟨⟨h1, h2⟩, h3⟩ := h
 refine ⟨by intro e; subst e; simp at h1, fun c hc => by simpa using List.all_eq_true.1 h3 c hc, fun e => ?_⟩
 rcases h2 with h2 | h2
 ·rw [e] at h2; simp at h2
 ·simpa using h2
end NV
namespace NV
/-! ### One limb -/
def sc (a d k : Nat) : Nat := (a % B ^ k) * d / B ^ k
theorem sc_zero (a d : Nat) : sc a d 0 = 0 := by simp [sc, Nat.mod_one]
theorem sc_le (a d k : Nat) : sc a d k ≤ d := by
 have h := Nat.mod_lt a (pow_pos k)
 have h2 : (a % B ^ k) * d ≤ B ^ k * d := Nat.mul_le_mul_right _ (Nat.le_of_lt h)
 have h3 := Nat.div_le_div_right (c := B ^ k) h2
 rwa [Nat.mul_div_cancel_left _ (pow_pos k)] at h3
theorem sc_step (a d k : Nat) : (a % B ^ (k + 1)) * d = (a % B ^ k) * d % B ^ k + B ^ k * (dg a k * d + sc a d k) := by
 rw [mod_succ, Nat.add_mul, Nat.mul_add, sc, Nat.mul_assoc]
 have := Nat.mod_add_div ((a % B ^ k) * d) (B ^ k)
 omega
theorem sc_succ (a d k : Nat) : sc a d (k + 1) = (dg a k * d + sc a d k) / 1000000000 := by
 rw [sc, sc_step, pow_succ, ← Nat.div_div_eq_div_mul, Nat.add_mul_div_left _ _ (pow_pos k), Nat.div_eq_of_lt (Nat.mod_lt _ (pow_pos k)), Nat.zero_add, B_eq]
theorem dg_scaled (a d k : Nat) : dg (a * d) k = (dg a k * d + sc a d k) % 1000000000 := by
 have h0 : dg (a * d) k = dg ((a % B ^ (k + 1)) * d) k := by
  rw [← dg_mod (Nat.lt_succ_self k), Nat.mul_mod, ← dg_mod (n := (a % B ^ (k + 1)) * d) (Nat.lt_succ_self k)]
  congr 1
  conv => rhs; rw [Nat.mul_mod, Nat.mod_mod]
 rw [h0, sc_step, dg_at (Nat.mod_lt _ (pow_pos k)), B_eq]
theorem dg_scaled_top {a d L : Nat} (ha : a < B ^ L) (_hd : d ≤ 1000000000) (_hd2 : d < 1000000000 ∨ a = 0 ∨ True) : dg (a * d) L = sc a d L % 1000000000 := by
 rw [dg_scaled, dg_big ha, Nat.zero_mul, Nat.zero_add]
theorem div_rest (a y i : Nat) : a / B ^ i % y = (a / B ^ (i + 1) % y * 1000000000 + dg a i) % y := by
 have e : a / B ^ i = a / B ^ (i + 1) * 1000000000 + dg a i := by
  rw [dg, pow_succ, ← Nat.div_div_eq_div_mul]
  have := Nat.mod_add_div (a / B ^ i) B
  rw [B_eq] at this ⊢
  omega
 rw [e, Nat.add_mod, Nat.mul_mod, ← Nat.mul_mod, Nat.add_mod (a / B ^ (i + 1) % y * 1000000000), Nat.mul_mod (a / B ^ (i + 1) % y), Nat.mod_mod, ← Nat.mul_mod]
theorem div_digit (a y i : Nat) (hy : 0 < y) : dg (a / y) i = (a / B ^ (i + 1) % y * 1000000000 + dg a i) / y := by
 have e : a / B ^ i = a / B ^ (i + 1) * 1000000000 + dg a i := by
  rw [dg, pow_succ, ← Nat.div_div_eq_div_mul]
  have := Nat.mod_add_div (a / B ^ i) B
  rw [B_eq] at this ⊢
  omega
 have hd := dg_lt a i
 generalize hX : a / B ^ (i + 1) = X at *
 have h1 : dg (a / y) i = a / B ^ i / y % B := by rw [dg, Nat.div_div_eq_div_mul, Nat.mul_comm y, ← Nat.div_div_eq_div_mul]
 have h2 : a / B ^ i = y * (X / y * 1000000000) + (X % y * 1000000000 + dg a i) := by
  have h3 := Nat.mod_add_div X y
  rw [e]
  conv => lhs; rw [← h3]
  rw [Nat.add_mul, Nat.mul_assoc]
  omega
 have h4 := Nat.mod_lt X hy
 have h5 : (X % y * 1000000000 + dg a i) / y < 1000000000 := (Nat.div_lt_iff_lt_mul hy).2 (by
  have : (X % y + 1) * 1000000000 ≤ y * 1000000000 := Nat.mul_le_mul_right _ h4
  rw [Nat.mul_comm 1000000000 y]
  omega)
 rw [h1, h2, Nat.mul_add_div hy, B_eq, Nat.mul_comm (X / y), Nat.mul_add_mod, Nat.mod_eq_of_lt h5]
/-! ### The scale -/
theorem scale_half {t d : Nat} (ht : 1 ≤ t) (hd : d = 1000000000 / (t + 1)) (ht2 : t < 1000000000) : 500000000 ≤ t * d ∧ (t + 1) * d ≤ 1000000000 ∧ 1 ≤ d := by
 have h1 : (t + 1) * d ≤ 1000000000 := by rw [hd, Nat.mul_comm]; exact Nat.div_mul_le_self _ _
 have h2 : 1 ≤ d := by rw [hd]; exact Nat.div_pos (by omega) (by omega)
 have h3 : 1000000000 < (t + 1) * (d + 1) := by
  have := Nat.lt_mul_div_succ 1000000000 (show 0 < t + 1 by omega)
  rw [hd]; exact this
 have h4 : (t + 1) * (d + 1) = t * d + t + d + 1 := by rw [Nat.add_mul, Nat.mul_add]; omega
 have h5 : t + d ≤ t * d + 1 := by
  obtain ⟨p, rfl⟩ : ∃ p, t = p + 1 := ⟨t - 1, by omega⟩
  obtain ⟨q, rfl⟩ : ∃ q, d = q + 1 := ⟨d - 1, by omega⟩
  rw [Nat.add_mul, Nat.mul_add]; omega
 rw [Nat.add_mul] at h1
 refine ⟨by omega, by rw [Nat.add_mul]; omega, h2⟩
/-! ### One limb of a quotient -/
structure Gs (x v n g r : Nat) : Prop where
 sum : g * dg v (n + 1) + r = x / B ^ (n + 1)
 low : x / v ≤ g
 high : g ≤ 1000000001
 later : dg v (n + 1) ≤ r → g ≤ 1000000000
section
variable {x v n : Nat}
theorem v_top (hv : v < B ^ (n + 2)) : v / B ^ (n + 1) = dg v (n + 1) := by
 rw [dg, Nat.mod_eq_of_lt ((Nat.div_lt_iff_lt_mul (pow_pos _)).2 (by rw [Nat.mul_comm, ← pow_succ]; exact hv))]
theorem div_low (a k : Nat) : a / B ^ k * B ^ k ≤ a := Nat.div_mul_le_self _ _
theorem lt_high (a k : Nat) : a < (a / B ^ k + 1) * B ^ k := by
 have := Nat.lt_mul_div_succ a (pow_pos k)
 rwa [Nat.mul_comm] at this
theorem Gs.start (hv : v < B ^ (n + 2)) (hh : 500000000 ≤ dg v (n + 1)) (hx : x < 1000000000 * v) (_hv0 : 0 < v) :
  Gs x v n (x / B ^ (n + 1) / dg v (n + 1)) (x / B ^ (n + 1) % dg v (n + 1)) := by
 have hp := pow_pos (n + 1)
 have ht := v_top hv
 have hpos : 0 < dg v (n + 1) := by omega
 refine ⟨?_, ?_, ?_, fun h => ?_⟩
 ·rw [Nat.mul_comm]; exact Nat.div_add_mod _ _
 ·rw [Nat.le_div_iff_mul_le hpos, Nat.le_div_iff_mul_le hp, Nat.mul_assoc]
  have h1 : dg v (n + 1) * B ^ (n + 1) ≤ v := by rw [← ht]; exact div_low v (n + 1)
  exact Nat.le_trans (Nat.mul_le_mul_left _ h1) (Nat.div_mul_le_self x v)
 ·have h1 := lt_high v (n + 1)
  rw [ht] at h1
  have h2 : x < (1000000000 * (dg v (n + 1) + 1)) * B ^ (n + 1) := by
   refine Nat.lt_of_lt_of_le hx ?_
   rw [Nat.mul_assoc]
   exact Nat.mul_le_mul_left _ (Nat.le_of_lt h1)
  have h3 : x / B ^ (n + 1) < 1000000000 * (dg v (n + 1) + 1) := (Nat.div_lt_iff_lt_mul hp).2 h2
  have h4 : x / B ^ (n + 1) / dg v (n + 1) < 1000000002 := (Nat.div_lt_iff_lt_mul hpos).2 (by omega)
  omega
 ·have := Nat.mod_lt (x / B ^ (n + 1)) hpos
  omega
theorem q_lt (hx : x < 1000000000 * v) (hv0 : 0 < v) : x / v < 1000000000 := (Nat.div_lt_iff_lt_mul hv0).2 hx
theorem next_limb (a k : Nat) : a / B ^ k = a / B ^ (k + 1) * 1000000000 + dg a k := by
 rw [dg, pow_succ, ← Nat.div_div_eq_div_mul]
 have := Nat.mod_add_div (a / B ^ k) B
 rw [B_eq] at this ⊢
 omega
theorem Gs.less {g r : Nat} (h : Gs x v n g r) (hv : v < B ^ (n + 2)) (hx : x < 1000000000 * v) (hv0 : 0 < v)
  (ht : 1000000000 ≤ g ∨ r * 1000000000 + dg x n < g * dg v n) : x / v < g := by
 rcases ht with ht | ht
 ·have := q_lt hx hv0; omega
 ·rw [Nat.div_lt_iff_lt_mul hv0]
  have hp := pow_pos n
  have hxn := next_limb x n
  have hvn := next_limb v n
  rw [v_top hv] at hvn
  have hs := h.sum
  have h1 : x / B ^ n + 1 ≤ g * (v / B ^ n) := by
   rw [hxn, hvn, ← hs, Nat.mul_add, Nat.add_mul]
   have : g * (dg v (n + 1) * 1000000000) = g * dg v (n + 1) * 1000000000 := by rw [Nat.mul_assoc]
   omega
  have h2 := lt_high x n
  have h3 : (x / B ^ n + 1) * B ^ n ≤ g * (v / B ^ n) * B ^ n := Nat.mul_le_mul_right _ h1
  have h4 : g * (v / B ^ n) * B ^ n ≤ g * v := by rw [Nat.mul_assoc]; exact Nat.mul_le_mul_left _ (div_low v n)
  exact Nat.lt_of_lt_of_le h2 (Nat.le_trans h3 h4)
theorem Gs.next {g r : Nat} (h : Gs x v n g r) (hl : x / v < g) : Gs x v n (g - 1) (r + dg v (n + 1)) := by
 obtain ⟨q, hq⟩ : ∃ q, q = x / v := ⟨_, rfl⟩
 rw [← hq] at hl
 obtain ⟨p, rfl⟩ : ∃ p, g = p + 1 := ⟨g - 1, by omega⟩
 have hs := h.sum
 have hh := h.high
 rw [Nat.add_mul, Nat.one_mul] at hs
 refine ⟨by rw [Nat.add_sub_cancel]; omega, by rw [← hq]; omega, by omega, fun _ => by omega⟩
theorem Gs.done {g r : Nat} (h : Gs x v n g r) (hv : v < B ^ (n + 2)) (hh : 500000000 ≤ dg v (n + 1)) (hx : x < 1000000000 * v) (hv0 : 0 < v)
  (ht : 1000000000 ≤ r ∨ (g < 1000000000 ∧ g * dg v n ≤ r * 1000000000 + dg x n)) : g < 1000000000 ∧ g ≤ x / v + 1 := by
 have hq := q_lt hx hv0
 have hs := h.sum
 rcases ht with ht | ⟨ht1, ht2⟩
 ·have hdl := dg_lt v (n + 1)
  have hg := h.later (by omega)
  have hle : g ≤ x / v := by
   rw [Nat.le_div_iff_mul_le hv0]
   have h1 := lt_high v (n + 1)
   rw [v_top hv] at h1
   have h2 : g * v ≤ g * ((dg v (n + 1) + 1) * B ^ (n + 1)) := Nat.mul_le_mul_left _ (Nat.le_of_lt h1)
   have h3 : g * ((dg v (n + 1) + 1) * B ^ (n + 1)) = (g * dg v (n + 1) + g) * B ^ (n + 1) := by rw [← Nat.mul_assoc, Nat.mul_add, Nat.mul_one]
   have h4 : (g * dg v (n + 1) + g) * B ^ (n + 1) ≤ x / B ^ (n + 1) * B ^ (n + 1) := Nat.mul_le_mul_right _ (by omega)
   have h5 := div_low x (n + 1)
   omega
  omega
 ·refine ⟨ht1, ?_⟩
  by_cases hg0 : g = 0
  ·rw [hg0]; exact Nat.zero_le _
  ·obtain ⟨p, rfl⟩ : ∃ p, g = p + 1 := ⟨g - 1, by omega⟩
   have hle : p ≤ x / v := by
    rw [Nat.le_div_iff_mul_le hv0]
    have hxn := next_limb x n
    have hvn := next_limb v n
    rw [v_top hv] at hvn
    have h1 : (p + 1) * (v / B ^ n) ≤ x / B ^ n := by
     rw [hxn, hvn, ← hs, Nat.mul_add, Nat.add_mul _ r]
     have : (p + 1) * (dg v (n + 1) * 1000000000) = (p + 1) * dg v (n + 1) * 1000000000 := by rw [Nat.mul_assoc]
     omega
    have h2 := lt_high v n
    have h3 : p * v ≤ p * ((v / B ^ n + 1) * B ^ n) := Nat.mul_le_mul_left _ (Nat.le_of_lt h2)
    have h4 : p * ((v / B ^ n + 1) * B ^ n) = (p * (v / B ^ n) + p) * B ^ n := by rw [← Nat.mul_assoc, Nat.mul_add, Nat.mul_one]
    have h5 : (p * (v / B ^ n) + p) * B ^ n ≤ x / B ^ n * B ^ n := by
     refine Nat.mul_le_mul_right _ ?_
     rw [Nat.add_mul, Nat.one_mul] at h1
     omega
    have h6 := div_low x n
    omega
   exact Nat.succ_le_succ hle
end
/-! ### Taking a multiple away -/
theorem take_step {x v f k D br P low x' br' : Nat} (hD : D < B ^ k) (he : x % B ^ k + B ^ k * br = D + (v % B ^ k) * f) (hP : P = dg v k * f + br)
  (hlow : low = P % 1000000000) (hx' : x' + low = dg x k + (if dg x k < low then 1000000000 else 0)) (hbr : br' = P / 1000000000 + (if dg x k < low then 1 else 0)) :
  D + B ^ k * x' < B ^ (k + 1) ∧ x % B ^ (k + 1) + B ^ (k + 1) * br' = (D + B ^ k * x') + (v % B ^ (k + 1)) * f := by
 have hdx := dg_lt x k
 have hlt : low < 1000000000 := by omega
 have hx1 : x' < 1000000000 := by split at hx' <;> omega
 constructor
 ·have h1 : B ^ k * (x' + 1) ≤ B ^ k * 1000000000 := Nat.mul_le_mul_left _ hx1
  rw [pow_succ, B_eq]
  rw [B_eq] at h1 hD
  rw [Nat.mul_add] at h1
  omega
 ·have e1 : x' + P = dg x k + 1000000000 * br' := by
   have := Nat.mod_add_div P 1000000000
   split at hx' <;> rename_i hc
   ·rw [if_pos hc] at hbr; omega
   ·rw [if_neg hc] at hbr; omega
  have e2 : B ^ k * (x' + P) = B ^ k * (dg x k + 1000000000 * br') := by rw [e1]
  rw [mod_succ, mod_succ, Nat.add_mul, pow_succ, B_eq, Nat.mul_assoc, Nat.mul_assoc]
  rw [hP, Nat.mul_add, Nat.mul_add, Nat.mul_add] at e2
  rw [B_eq] at e2 he
  omega
theorem take_end {x v f n D br : Nat} (hv : v < B ^ n) (hx : x < B ^ (n + 1)) (hv0 : 0 < v) (hD : D < B ^ n) (he : x % B ^ n + B ^ n * br = D + (v % B ^ n) * f) (h1 : x / v ≤ f) (h2 : f ≤ x / v + 1) :
  (br ≤ dg x n → f = x / v ∧ D = x % v) ∧ (¬ br ≤ dg x n → f = x / v + 1 ∧ D + v = x % v + B ^ n) := by
 rw [Nat.mod_eq_of_lt hv] at he
 have hx2 := mod_succ x n
 rw [Nat.mod_eq_of_lt hx] at hx2
 have hm := Nat.mod_add_div x v
 have hml := Nat.mod_lt x hv0
 constructor
 ·intro hb
  have hfx : v * f ≤ x := by
   have h3 : B ^ n * br ≤ B ^ n * dg x n := Nat.mul_le_mul_left _ hb
   rw [Nat.mul_comm v f]; rw [Nat.mul_comm v f] at he
   omega
  have hf : f = x / v := by
   have : f ≤ x / v := (Nat.le_div_iff_mul_le hv0).2 (by rw [Nat.mul_comm]; exact hfx)
   omega
  refine ⟨hf, ?_⟩
  subst hf
  obtain ⟨c, hc⟩ : ∃ c, dg x n = br + c := ⟨dg x n - br, by omega⟩
  rw [hc, Nat.mul_add] at hx2
  have hc0 : c = 0 := by
   by_cases h : c = 0
   ·exact h
   ·have : B ^ n * 1 ≤ B ^ n * c := Nat.mul_le_mul_left _ (by omega)
    omega
  subst hc0
  omega
 ·intro hb
  obtain ⟨c, hc⟩ : ∃ c, br = dg x n + (c + 1) := ⟨br - dg x n - 1, by omega⟩
  rw [hc, Nat.mul_add, Nat.mul_add] at he
  have hfx : ¬ v * f ≤ x := by
   intro h3
   have h4 : 0 ≤ B ^ n * c := Nat.zero_le _
   omega
  have hf : f = x / v + 1 := by
   by_cases h : f = x / v
   ·exact absurd (by rw [h]; exact Nat.mul_div_le x v) hfx
   ·omega
  refine ⟨hf, ?_⟩
  subst hf
  rw [Nat.mul_add] at he
  have hc0 : c = 0 := by
   by_cases h : c = 0
   ·exact h
   ·have : B ^ n * 1 ≤ B ^ n * c := Nat.mul_le_mul_left _ (by omega)
    omega
  subst hc0
  omega
/-! ### The whole division -/
theorem left_step (u v k : Nat) (_hv : 0 < v) : (u % (v * B ^ (k + 1))) / B ^ k % v = u / B ^ k % v ∧
  u % (v * B ^ (k + 1)) / B ^ k / v = dg (u / v) k ∧
  u % (v * B ^ k) = u % (v * B ^ (k + 1)) % B ^ k + B ^ k * (u % (v * B ^ (k + 1)) / B ^ k % v) := by
 have e0 : v * B ^ (k + 1) = B ^ k * (v * B) := by rw [pow_succ]; ac_rfl
 have e1 : u % (v * B ^ (k + 1)) / B ^ k = u / B ^ k % (v * B) := by rw [e0, Nat.mod_mul_right_div_self]
 have e2 : u / B ^ k % (v * B) % v = u / B ^ k % v := Nat.mod_mul_right_mod _ _ _
 refine ⟨by rw [e1, e2], ?_, ?_⟩
 ·rw [e1, Nat.mod_mul_right_div_self, dg, Nat.div_div_eq_div_mul, Nat.div_div_eq_div_mul, Nat.mul_comm]
 ·rw [e1, e2, e0, Nat.mod_mul_right_mod, Nat.mul_comm v, Nat.mod_mul]
end NV
namespace NV
theorem dg_high {low hi k j : Nat} (h : low < B ^ k) : dg (low + B ^ k * hi) (k + j) = dg hi j := by
 rw [← dg_shift, Nat.add_mul_div_left _ _ (pow_pos k), Nat.div_eq_of_lt h, Nat.zero_add]
structure Sets (a b n d Q : Nat) : Prop where
 d1 : 1 ≤ d
 d2 : d ≤ 500000000
 lnv : ln (b * d) = n + 2
 half : 500000000 ≤ dg (b * d) (n + 1)
 start : a * d < (b * d) * B ^ Q
 quo : a * d / (b * d) = a / b
 rest : a * d % (b * d) / d = a % b
 small : a / b < B ^ Q
 wide : a * d < B ^ (ln a + 1)
theorem sets {a b n d Q : Nat} (hb : ln b = n + 2) (_hab : b ≤ a) (hd : d = 1000000000 / (dg b (n + 1) + 1)) (hQ : Q + (n + 1) = ln a) : Sets a b n d Q := by
 have ht0 := dg_top hb
 have htl := dg_lt b (n + 1)
 obtain ⟨h1, h2, h3⟩ := scale_half (t := dg b (n + 1)) (by omega) hd htl
 have htop : b / B ^ (n + 1) = dg b (n + 1) := by
  have := lt_pow_ln b
  rw [hb] at this
  exact v_top this
 have hblo : dg b (n + 1) * B ^ (n + 1) ≤ b := by rw [← htop]; exact div_low b (n + 1)
 have hbhi : b < (dg b (n + 1) + 1) * B ^ (n + 1) := by rw [← htop]; exact lt_high b (n + 1)
 have hp := pow_pos (n + 1)
 have hdpos : 0 < d := h3
 have hvlt : b * d < B ^ (n + 2) := by
  have e1 : b * d < (dg b (n + 1) + 1) * B ^ (n + 1) * d := Nat.mul_lt_mul_of_pos_right hbhi hdpos
  have e2 : (dg b (n + 1) + 1) * B ^ (n + 1) * d = (dg b (n + 1) + 1) * d * B ^ (n + 1) := by ac_rfl
  have e3 : (dg b (n + 1) + 1) * d * B ^ (n + 1) ≤ 1000000000 * B ^ (n + 1) := Nat.mul_le_mul_right _ h2
  have hB : B ^ (n + 2) = 1000000000 * B ^ (n + 1) := by
   rw [show n + 2 = n + 1 + 1 by omega, pow_succ (n + 1), Nat.mul_comm]
   exact congrArg (fun z => z * B ^ (n + 1)) B_eq
  omega
 have hvge : 500000000 * B ^ (n + 1) ≤ b * d := by
  have e1 : dg b (n + 1) * B ^ (n + 1) * d ≤ b * d := Nat.mul_le_mul_right _ hblo
  have e2 : dg b (n + 1) * B ^ (n + 1) * d = dg b (n + 1) * d * B ^ (n + 1) := by ac_rfl
  have e3 : 500000000 * B ^ (n + 1) ≤ dg b (n + 1) * d * B ^ (n + 1) := Nat.mul_le_mul_right _ h1
  omega
 have hhalf : 500000000 ≤ dg (b * d) (n + 1) := by
  rw [← v_top hvlt, Nat.le_div_iff_mul_le hp]; exact hvge
 have hb0 : 0 < b := by
  have : 0 < dg b (n + 1) * B ^ (n + 1) := Nat.mul_pos (by omega) hp
  omega
 have hbge : B ^ (n + 1) ≤ b := by
  have : 1 * B ^ (n + 1) ≤ dg b (n + 1) * B ^ (n + 1) := Nat.mul_le_mul_right _ (by omega)
  omega
 have hal := lt_pow_ln a
 have hmain : B ^ ln a ≤ b * B ^ Q := by
  rw [← hQ, Nat.add_comm, Nat.pow_add]
  exact Nat.mul_le_mul_right _ hbge
 refine ⟨h3, ?_, ?_, hhalf, ?_, Nat.mul_div_mul_right a b hdpos, ?_, ?_, ?_⟩
 ·rw [hd]
  have := Nat.div_le_div_left (a := 1000000000) (show 2 ≤ dg b (n + 1) + 1 by omega) (by omega)
  omega
 ·exact ln_of_top (n := b * d) (k := n + 1) hvlt (by omega)
 ·have e1 : a * d < b * B ^ Q * d := Nat.mul_lt_mul_of_pos_right (Nat.lt_of_lt_of_le hal hmain) hdpos
  have e2 : b * B ^ Q * d = b * d * B ^ Q := by ac_rfl
  omega
 ·rw [Nat.mul_mod_mul_right, Nat.mul_div_cancel _ hdpos]
 ·rw [Nat.div_lt_iff_lt_mul hb0, Nat.mul_comm]
  exact Nat.lt_of_lt_of_le hal hmain
 ·have hd5 : d ≤ 1000000000 := by
   rw [hd]; exact Nat.div_le_self _ _
  rw [pow_succ, B_eq]
  rw [B_eq] at hal
  exact Nat.lt_of_lt_of_le (Nat.mul_lt_mul_of_pos_right hal hdpos) (Nat.mul_le_mul_left _ hd5)
theorem row_round {u v k n : Nat} (hv0 : 0 < v) (hv : v < B ^ (n + 2)) (j : Nat) :
  (if k ≤ j ∧ j < k + (n + 3) then dg (u % (v * B ^ (k + 1)) / B ^ k % v) (j - k) else dg (u % (v * B ^ (k + 1))) j) = dg (u % (v * B ^ k)) j := by
 obtain ⟨_, _, h3⟩ := left_step u v k hv0
 rw [h3]
 generalize hR : u % (v * B ^ (k + 1)) = R
 have hRlt : R < B ^ (k + (n + 3)) := by
  rw [← hR]
  have h1 : u % (v * B ^ (k + 1)) < v * B ^ (k + 1) := Nat.mod_lt _ (Nat.mul_pos hv0 (pow_pos _))
  have h2 : v * B ^ (k + 1) ≤ B ^ (n + 2) * B ^ (k + 1) := Nat.mul_le_mul_right _ (Nat.le_of_lt hv)
  rw [← Nat.pow_add] at h2
  rw [show k + (n + 3) = n + 2 + (k + 1) by omega]
  omega
 by_cases h1 : k ≤ j ∧ j < k + (n + 3)
 ·rw [if_pos h1]
  obtain ⟨t, rfl⟩ : ∃ t, j = k + t := ⟨j - k, by omega⟩
  rw [dg_high (Nat.mod_lt _ (pow_pos k)), Nat.add_sub_cancel_left]
 ·rw [if_neg h1]
  by_cases h2 : j < k
  ·rw [dg_add_mul h2, dg_mod h2]
  ·obtain ⟨t, rfl⟩ : ∃ t, j = k + t := ⟨j - k, by omega⟩
   rw [dg_high (Nat.mod_lt _ (pow_pos k))]
   have hm : R / B ^ k % v < B ^ (n + 2) := Nat.lt_trans (Nat.mod_lt _ hv0) hv
   rw [dg_big (Nat.lt_of_lt_of_le hRlt (Nat.pow_le_pow_right B_pos (by omega))), dg_big (Nat.lt_of_lt_of_le hm (Nat.pow_le_pow_right B_pos (by omega)))]
theorem left_lt {u v k : Nat} (hv0 : 0 < v) : u % (v * B ^ (k + 1)) / B ^ k < 1000000000 * v := by
 rw [Nat.div_lt_iff_lt_mul (pow_pos k)]
 have h1 : u % (v * B ^ (k + 1)) < v * B ^ (k + 1) := Nat.mod_lt _ (Nat.mul_pos hv0 (pow_pos _))
 have h2 : v * B ^ (k + 1) = 1000000000 * v * B ^ k := by rw [pow_succ, B_eq]; ac_rfl
 omega
end NV
namespace NV
structure Lh (a0 b0 a b : Nat) (sg : Int) (P Q R T : Nat) : Prop where
 sgn : sg = 1 ∨ sg = -1
 det : (P : Int) * T - Q * R = sg
 ia : T * a + Q * b = a0
 ib : R * a + P * b = b0
 rt : R ≤ T
 qt : Q ≤ T
 pq : (P = 1 ∧ Q = 0 ∧ R = 0 ∧ T = 1 ∧ sg = 1) ∨ (P ≤ Q ∧ 1 ≤ R ∧ 1 ≤ Q)
 tb : T < 1000000000
 ok : (P = 1 ∧ Q = 0 ∧ R = 0 ∧ T = 1 ∧ sg = 1) ∨ (T ≤ b ∧ T + Q + b ≤ a)
theorem Lh.start (a0 b0 : Nat) : Lh a0 b0 a0 b0 1 1 0 0 1 :=
 ⟨.inl rfl, by simp, by simp, by simp, by omega, by omega, .inl ⟨rfl, rfl, rfl, rfl, rfl⟩, by omega, .inl ⟨rfl, rfl, rfl, rfl, rfl⟩⟩
theorem Lh.t_pos {a0 b0 a b : Nat} {sg : Int} {P Q R T : Nat} (h : Lh a0 b0 a b sg P Q R T) : 1 ≤ T := by
 rcases h.pq with ⟨_, _, _, h1, _⟩ | ⟨_, _, h1⟩
 ·omega
 ·have := h.qt; omega
theorem Lh.le {a0 b0 a b : Nat} {sg : Int} {P Q R T : Nat} (h : Lh a0 b0 a b sg P Q R T) (hab : b0 ≤ a0) : b ≤ a := by
 rcases h.ok with ⟨h1, h2, h3, h4, _⟩ | ⟨_, h1⟩
 ·have e1 := h.ia; have e2 := h.ib
  rw [h4, h2] at e1; rw [h3, h1] at e2
  omega
 ·omega
theorem Lh.a_le {a0 b0 a b : Nat} {sg : Int} {P Q R T : Nat} (h : Lh a0 b0 a b sg P Q R T) : a ≤ a0 := by
 have h1 : 1 * a ≤ T * a := Nat.mul_le_mul_right _ h.t_pos
 have := h.ia
 omega
theorem Lh.next_le {a0 b0 a b : Nat} {sg : Int} {P Q R T : Nat} (h : Lh a0 b0 a b sg P Q R T) : (Q + a / b * T) * b + T * (a % b) = a0 := by
 have h1 := Nat.div_add_mod a b
 have h2 := h.ia
 have e : (Q + a / b * T) * b + T * (a % b) = T * (b * (a / b) + a % b) + Q * b := by
  rw [Nat.add_mul, Nat.mul_add]
  have : a / b * T * b = T * (b * (a / b)) := by ac_rfl
  omega
 rw [e, h1]; exact h2
theorem Lh.next_lt {a0 b0 a b : Nat} {sg : Int} {P Q R T : Nat} (h : Lh a0 b0 a b sg P Q R T) (hb : 0 < b) : Q + a / b * T ≤ a0 := by
 have h1 := h.next_le
 have h2 : (Q + a / b * T) * 1 ≤ (Q + a / b * T) * b := Nat.mul_le_mul_left _ hb
 omega
theorem Lh.step {a0 b0 a b : Nat} {sg : Int} {P Q R T : Nat} (h : Lh a0 b0 a b sg P Q R T) (hab : b0 ≤ a0) (ha : a0 < 1000000000000000000) (hb : 0 < b)
  (h1 : Q + a / b * T ≤ a % b) (h2 : Q + a / b * T + T + a % b ≤ b) : Lh a0 b0 b (a % b) (-sg) R T (P + a / b * R) (Q + a / b * T) := by
 have hle := h.le hab
 have hq : 1 ≤ a / b := (Nat.le_div_iff_mul_le hb).2 (by omega)
 have hdm := Nat.div_add_mod a b
 have hT := h.t_pos
 have hnx := h.next_le
 have hmod : a % b < b := Nat.mod_lt _ hb
 generalize a / b = q at *
 have hTq : 1 * T ≤ q * T := Nat.mul_le_mul_right _ hq
 have hRq : 1 * R ≤ q * R := Nat.mul_le_mul_right _ hq
 have hRT : q * R ≤ q * T := Nat.mul_le_mul_left _ h.rt
 have hPR : P + q * R ≤ Q + q * T := by
  rcases h.pq with ⟨e1, e2, e3, e4, _⟩ | ⟨e1, e2, e3⟩
  ·rw [e1, e2, e3, e4]; omega
  ·omega
 refine ⟨?_, ?_, ?_, ?_, hPR, by omega, .inr ⟨h.rt, ?_, hT⟩, ?_, .inr ⟨h1, by omega⟩⟩
 ·rcases h.sgn with e | e <;> rw [e] <;> simp
 ·have hd := h.det
  rw [Int.natCast_add, Int.natCast_add, Int.natCast_mul, Int.natCast_mul, ← hd, Int.mul_add, Int.mul_add, Int.neg_sub]
  have e1 : (R : Int) * ((q : Int) * T) = T * ((q : Int) * R) := by ac_rfl
  have e2 : (R : Int) * Q = Q * R := Int.mul_comm _ _
  have e3 : (T : Int) * P = P * T := Int.mul_comm _ _
  omega
 ·exact hnx
 ·have hi := h.ib
  have e : (P + q * R) * b + R * (a % b) = R * (b * q + a % b) + P * b := by
   rw [Nat.add_mul, Nat.mul_add]
   have : q * R * b = R * (b * q) := by ac_rfl
   omega
  rw [e, hdm]; exact hi
 ·rcases h.pq with ⟨e1, e2, e3, e4, _⟩ | ⟨e1, e2, e3⟩
  ·omega
  ·omega
 ·obtain ⟨t, ht⟩ : ∃ t, t = Q + q * T := ⟨_, rfl⟩
  rw [← ht] at h1 h2 hnx ⊢
  by_cases hlt : t < 1000000000
  ·exact hlt
  ·have h3 : t * 1000000000 ≤ t * b := Nat.mul_le_mul_left _ (by omega)
   have h4 : 1000000000 * 1000000000 ≤ t * 1000000000 := Nat.mul_le_mul_right _ (by omega)
   omega
theorem Lh.apply {a0 b0 a b : Nat} {sg : Int} {P Q R T : Nat} (h : Lh a0 b0 a b sg P Q R T) {x y S : Nat} (hS : 0 < S) (hx : a0 = x / S) (hy : b0 = y / S) (hyx : y ≤ x) :
  ∃ X Y : Nat, (X : Int) = sg * P * x + -sg * Q * y ∧ (Y : Int) = -sg * R * x + sg * T * y ∧ Y ≤ X ∧ x = T * X + Q * Y ∧ y = R * X + P * Y := by
 have hX : (x : Int) = (a0 : Int) * S + ((x % S : Nat) : Int) := by
  have := Nat.div_add_mod x S
  rw [hx, Int.mul_comm, ← Int.natCast_mul, ← Int.natCast_add]; rw [this]
 have hY : (y : Int) = (b0 : Int) * S + ((y % S : Nat) : Int) := by
  have := Nat.div_add_mod y S
  rw [hy, Int.mul_comm, ← Int.natCast_mul, ← Int.natCast_add]; rw [this]
 have hxl : x % S < S := Nat.mod_lt _ hS
 have hyl : y % S < S := Nat.mod_lt _ hS
 generalize x % S = xl at *
 generalize y % S = yl at *
 have hdet := h.det
 have iaZ : (T : Int) * a + Q * b = a0 := by have := h.ia; rw [← this]; simp
 have ibZ : (R : Int) * a + P * b = b0 := by have := h.ib; rw [← this]; simp
 have hsq : sg * sg = 1 := by rcases h.sgn with e | e <;> rw [e] <;> rfl
 -- what X and Y are over the digits that are left
 have eX : sg * P * x + -sg * Q * y = (a : Int) * S + sg * (P * xl - Q * yl) := by
  have e : (P : Int) * a0 - Q * b0 = sg * a := by
   rw [← iaZ, ← ibZ, ← hdet, Int.sub_mul]
   have e1 : (P : Int) * (T * a + Q * b) = P * T * a + P * Q * b := by rw [Int.mul_add]; congr 1 <;> ac_rfl
   have e2 : (Q : Int) * (R * a + P * b) = Q * R * a + P * Q * b := by rw [Int.mul_add]; congr 1 <;> ac_rfl
   rw [e1, e2]; omega
  have e0 : sg * P * x + -sg * Q * y = sg * ((P : Int) * x - Q * y) := by
   rw [Int.mul_sub, Int.neg_mul, Int.neg_mul, Int.mul_assoc, Int.mul_assoc]; omega
  rw [e0, hX, hY, Int.mul_add, Int.mul_add]
  have e3 : (P : Int) * (a0 * S) = (P * a0) * S := by ac_rfl
  have e4 : (Q : Int) * (b0 * S) = (Q * b0) * S := by ac_rfl
  have e5 : (P : Int) * a0 * S - Q * b0 * S = sg * a * S := by rw [← Int.sub_mul, e]
  rw [e3, e4, show (P : Int) * a0 * S + P * xl - (Q * b0 * S + Q * yl) = sg * a * S + (P * xl - Q * yl) by omega, Int.mul_add, ← Int.mul_assoc, ← Int.mul_assoc, hsq, Int.one_mul]
 have eY : -sg * R * x + sg * T * y = (b : Int) * S + sg * (T * yl - R * xl) := by
  have e : (T : Int) * b0 - R * a0 = sg * b := by
   rw [← iaZ, ← ibZ, ← hdet, Int.sub_mul]
   have e1 : (T : Int) * (R * a + P * b) = R * T * a + P * T * b := by rw [Int.mul_add]; congr 1 <;> ac_rfl
   have e2 : (R : Int) * (T * a + Q * b) = R * T * a + Q * R * b := by rw [Int.mul_add]; congr 1 <;> ac_rfl
   rw [e1, e2]; omega
  have e0 : -sg * R * x + sg * T * y = sg * ((T : Int) * y - R * x) := by
   rw [Int.mul_sub, Int.neg_mul, Int.neg_mul, Int.mul_assoc, Int.mul_assoc]; omega
  rw [e0, hX, hY, Int.mul_add, Int.mul_add]
  have e3 : (R : Int) * (a0 * S) = (R * a0) * S := by ac_rfl
  have e4 : (T : Int) * (b0 * S) = (T * b0) * S := by ac_rfl
  have e5 : (T : Int) * b0 * S - R * a0 * S = sg * b * S := by rw [← Int.sub_mul, e]
  rw [e3, e4, show (T : Int) * b0 * S + T * yl - (R * a0 * S + R * xl) = sg * b * S + (T * yl - R * xl) by omega, Int.mul_add, ← Int.mul_assoc, ← Int.mul_assoc, hsq, Int.one_mul]
 -- both are not negative, and the second is not greater
 have hfit : 0 ≤ sg * P * x + -sg * Q * y ∧ 0 ≤ -sg * R * x + sg * T * y ∧ -sg * R * x + sg * T * y ≤ sg * P * x + -sg * Q * y := by
  rcases h.ok with ⟨e1, e2, e3, e4, e5⟩ | ⟨e1, e2⟩
  ·subst e1; subst e2; subst e3; subst e4; subst e5
   simp; exact hyx
  ·rcases h.pq with ⟨p1, p2, p3, p4, p5⟩ | ⟨p1, p2, p3⟩
   ·subst p1; subst p2; subst p3; subst p4; subst p5
    simp; exact hyx
   ·have k1 : R * xl ≤ T * S := Nat.mul_le_mul h.rt (Nat.le_of_lt hxl)
    have k2 : T * yl ≤ T * S := Nat.mul_le_mul_left _ (Nat.le_of_lt hyl)
    have k3 : T * S ≤ b * S := Nat.mul_le_mul_right _ e1
    have k4 : P * xl ≤ Q * S := Nat.mul_le_mul p1 (Nat.le_of_lt hxl)
    have k5 : Q * yl ≤ Q * S := Nat.mul_le_mul_left _ (Nat.le_of_lt hyl)
    have k6 : (T + Q + b) * S ≤ a * S := Nat.mul_le_mul_right _ e2
    rw [Nat.add_mul, Nat.add_mul] at k6
    have z1 : ((R * xl : Nat) : Int) = (R : Int) * xl := by simp
    have z2 : ((T * yl : Nat) : Int) = (T : Int) * yl := by simp
    have z3 : ((b * S : Nat) : Int) = (b : Int) * S := by simp
    have z4 : ((P * xl : Nat) : Int) = (P : Int) * xl := by simp
    have z5 : ((Q * yl : Nat) : Int) = (Q : Int) * yl := by simp
    have z6 : ((a * S : Nat) : Int) = (a : Int) * S := by simp
    rw [eX, eY]
    rcases h.sgn with e | e
    ·rw [e, Int.one_mul, Int.one_mul]; omega
    ·rw [e]; omega
 obtain ⟨f1, f2, f3⟩ := hfit
 refine ⟨(sg * P * x + -sg * Q * y).toNat, (-sg * R * x + sg * T * y).toNat, Int.toNat_of_nonneg f1, Int.toNat_of_nonneg f2, by omega, ?_, ?_⟩
 ·apply Int.ofNat.inj
  show ((x : Nat) : Int) = ((T * (sg * P * x + -sg * Q * y).toNat + Q * (-sg * R * x + sg * T * y).toNat : Nat) : Int)
  rw [Int.natCast_add, Int.natCast_mul, Int.natCast_mul, Int.toNat_of_nonneg f1, Int.toNat_of_nonneg f2]
  have e : (T : Int) * (sg * P * x + -sg * Q * y) + Q * (-sg * R * x + sg * T * y) = sg * (P * T - Q * R) * x := by
   rw [Int.mul_add, Int.mul_add, Int.mul_sub, Int.sub_mul]
   have t1 : (T : Int) * (sg * P * x) = sg * (P * T) * x := by ac_rfl
   have t2 : (T : Int) * (-sg * Q * y) = -(sg * (T * Q) * y) := by rw [Int.neg_mul, Int.neg_mul, Int.mul_neg]; congr 1; ac_rfl
   have t3 : (Q : Int) * (-sg * R * x) = -(sg * (Q * R) * x) := by rw [Int.neg_mul, Int.neg_mul, Int.mul_neg]; congr 1; ac_rfl
   have t4 : (Q : Int) * (sg * T * y) = sg * (T * Q) * y := by ac_rfl
   rw [t1, t2, t3, t4]; omega
  rw [e, hdet, hsq, Int.one_mul]
 ·apply Int.ofNat.inj
  show ((y : Nat) : Int) = ((R * (sg * P * x + -sg * Q * y).toNat + P * (-sg * R * x + sg * T * y).toNat : Nat) : Int)
  rw [Int.natCast_add, Int.natCast_mul, Int.natCast_mul, Int.toNat_of_nonneg f1, Int.toNat_of_nonneg f2]
  have e : (R : Int) * (sg * P * x + -sg * Q * y) + P * (-sg * R * x + sg * T * y) = sg * (P * T - Q * R) * y := by
   rw [Int.mul_add, Int.mul_add, Int.mul_sub, Int.sub_mul]
   have t1 : (R : Int) * (sg * P * x) = sg * (R * P) * x := by ac_rfl
   have t2 : (R : Int) * (-sg * Q * y) = -(sg * (Q * R) * y) := by rw [Int.neg_mul, Int.neg_mul, Int.mul_neg]; congr 1; ac_rfl
   have t3 : (P : Int) * (-sg * R * x) = -(sg * (R * P) * x) := by rw [Int.neg_mul, Int.neg_mul, Int.mul_neg]; congr 1; ac_rfl
   have t4 : (P : Int) * (sg * T * y) = sg * (P * T) * y := by ac_rfl
   rw [t1, t2, t3, t4]; omega
  rw [e, hdet, hsq, Int.one_mul]
theorem gcd_lin {x y X Y P Q R T : Nat} {p q r s : Int} (hx : x = T * X + Q * Y) (hy : y = R * X + P * Y) (hX : (X : Int) = p * x + q * y) (hY : (Y : Int) = r * x + s * y) : Nat.gcd X Y = Nat.gcd x y := by
 apply Nat.dvd_antisymm
 ·apply Nat.dvd_gcd
  ·rw [hx]
   exact Nat.dvd_add (Nat.dvd_trans (Nat.gcd_dvd_left X Y) (Nat.dvd_mul_left _ _)) (Nat.dvd_trans (Nat.gcd_dvd_right X Y) (Nat.dvd_mul_left _ _))
  ·rw [hy]
   exact Nat.dvd_add (Nat.dvd_trans (Nat.gcd_dvd_left X Y) (Nat.dvd_mul_left _ _)) (Nat.dvd_trans (Nat.gcd_dvd_right X Y) (Nat.dvd_mul_left _ _))
 ·have h1 : ((Nat.gcd x y : Nat) : Int) ∣ (x : Int) := Int.natCast_dvd_natCast.2 (Nat.gcd_dvd_left x y)
  have h2 : ((Nat.gcd x y : Nat) : Int) ∣ (y : Int) := Int.natCast_dvd_natCast.2 (Nat.gcd_dvd_right x y)
  apply Nat.dvd_gcd
  ·apply Int.natCast_dvd_natCast.1
   rw [hX]
   exact Int.dvd_add (Int.dvd_mul_of_dvd_right h1) (Int.dvd_mul_of_dvd_right h2)
  ·apply Int.natCast_dvd_natCast.1
   rw [hY]
   exact Int.dvd_add (Int.dvd_mul_of_dvd_right h1) (Int.dvd_mul_of_dvd_right h2)
theorem Lh.less {a0 b0 a b : Nat} {sg : Int} {P Q R T : Nat} (h : Lh a0 b0 a b sg P Q R T) (hne : 1 ≤ R) {x y X Y : Nat} (hx : x = T * X + Q * Y) (hy : y = R * X + P * Y) (hy0 : 0 < y) (_hYX : Y ≤ X) : X + Y < x + y ∧ X ≤ x := by
 have hT := h.t_pos
 rcases h.pq with ⟨_, _, e3, _, _⟩ | ⟨p1, p2, p3⟩
 ·omega
 ·have k1 : 1 * X ≤ T * X := Nat.mul_le_mul_right _ hT
  have k2 : 1 * X ≤ R * X := Nat.mul_le_mul_right _ hne
  have k3 : 1 * Y ≤ Q * Y := Nat.mul_le_mul_right _ p3
  have hX0 : 0 < X := by
   by_cases e : X = 0
   ·have : Y = 0 := by omega
    rw [e, this] at hy; simp at hy; omega
   ·omega
  omega
/-! The row of p*x + q*y, limb by limb. -/
def lc (p q : Int) (x y k : Nat) : Int := (p * ((x % B ^ k : Nat) : Int) + q * ((y % B ^ k : Nat) : Int)) / ((B ^ k : Nat) : Int)
theorem lc_zero (p q : Int) (x y : Nat) : lc p q x y 0 = 0 := by simp [lc, Nat.mod_one]
theorem lc_div (p q : Int) (x y k : Nat) : (p * ((x % B ^ (k + 1) : Nat) : Int) + q * ((y % B ^ (k + 1) : Nat) : Int)) / ((B ^ k : Nat) : Int) = lc p q x y k + (p * ((dg x k : Nat) : Int) + q * ((dg y k : Nat) : Int)) := by
 have hB : ((B ^ k : Nat) : Int) ≠ 0 := by have := pow_pos k; omega
 rw [lc, mod_succ x k, mod_succ y k]
 have e : p * ((x % B ^ k + B ^ k * dg x k : Nat) : Int) + q * ((y % B ^ k + B ^ k * dg y k : Nat) : Int) = (p * ((x % B ^ k : Nat) : Int) + q * ((y % B ^ k : Nat) : Int)) + ((B ^ k : Nat) : Int) * (p * ((dg x k : Nat) : Int) + q * ((dg y k : Nat) : Int)) := by
  rw [Int.natCast_add, Int.natCast_add, Int.natCast_mul, Int.natCast_mul, Int.mul_add, Int.mul_add, Int.mul_add]
  have e1 : p * (((B ^ k : Nat) : Int) * ((dg x k : Nat) : Int)) = ((B ^ k : Nat) : Int) * (p * ((dg x k : Nat) : Int)) := by ac_rfl
  have e2 : q * (((B ^ k : Nat) : Int) * ((dg y k : Nat) : Int)) = ((B ^ k : Nat) : Int) * (q * ((dg y k : Nat) : Int)) := by ac_rfl
  rw [e1, e2]; omega
 rw [e, Int.add_mul_ediv_left _ _ hB]
theorem lc_succ (p q : Int) (x y k : Nat) : lc p q x y (k + 1) = (p * ((dg x k : Nat) : Int) + q * ((dg y k : Nat) : Int) + lc p q x y k) / 1000000000 := by
 have h := lc_div p q x y k
 rw [show p * ((dg x k : Nat) : Int) + q * ((dg y k : Nat) : Int) + lc p q x y k = lc p q x y k + (p * ((dg x k : Nat) : Int) + q * ((dg y k : Nat) : Int)) by omega, ← h]
 rw [Int.ediv_ediv_of_nonneg (by have := pow_pos k; omega)]
 rw [lc, pow_succ, Int.natCast_mul, show ((B : Nat) : Int) = 1000000000 from rfl]
theorem lc_limb {p q : Int} {x y X : Nat} (h : (X : Int) = p * x + q * y) (k : Nat) : ((dg X k : Nat) : Int) = (p * ((dg x k : Nat) : Int) + q * ((dg y k : Nat) : Int) + lc p q x y k) % 1000000000 := by
 have hB : ((B ^ k : Nat) : Int) ≠ 0 := by have := pow_pos k; omega
 have hd := lc_div p q x y k
 rw [show p * ((dg x k : Nat) : Int) + q * ((dg y k : Nat) : Int) + lc p q x y k = lc p q x y k + (p * ((dg x k : Nat) : Int) + q * ((dg y k : Nat) : Int)) by omega, ← hd]
 rw [dg, Int.natCast_emod, Int.natCast_ediv, h, show ((B : Nat) : Int) = 1000000000 from rfl]
 have ex : (x : Int) = ((x % B ^ (k + 1) : Nat) : Int) + ((B ^ (k + 1) : Nat) : Int) * ((x / B ^ (k + 1) : Nat) : Int) := by
  rw [← Int.natCast_mul, ← Int.natCast_add, Nat.mod_add_div]
 have ey : (y : Int) = ((y % B ^ (k + 1) : Nat) : Int) + ((B ^ (k + 1) : Nat) : Int) * ((y / B ^ (k + 1) : Nat) : Int) := by
  rw [← Int.natCast_mul, ← Int.natCast_add, Nat.mod_add_div]
 have e : p * (x : Int) + q * (y : Int) = (p * ((x % B ^ (k + 1) : Nat) : Int) + q * ((y % B ^ (k + 1) : Nat) : Int)) + ((B ^ k : Nat) : Int) * (1000000000 * (p * ((x / B ^ (k + 1) : Nat) : Int) + q * ((y / B ^ (k + 1) : Nat) : Int))) := by
  rw [congrArg (fun z => p * z) ex, congrArg (fun z => q * z) ey, Int.mul_add, Int.mul_add, Int.mul_add, Int.mul_add]
  rw [show ((B ^ (k + 1) : Nat) : Int) = ((B ^ k : Nat) : Int) * 1000000000 by rw [pow_succ, Int.natCast_mul]; rfl]
  generalize ((B ^ k : Nat) : Int) = b
  generalize ((x / B ^ (k + 1) : Nat) : Int) = u
  generalize ((y / B ^ (k + 1) : Nat) : Int) = v
  have e1 : p * (b * 1000000000 * u) = b * (1000000000 * (p * u)) := by ac_rfl
  have e2 : q * (b * 1000000000 * v) = b * (1000000000 * (q * v)) := by ac_rfl
  rw [e1, e2]; omega
 rw [e, Int.add_mul_ediv_left _ _ hB, Int.add_mul_emod_self_left]
theorem lc_bound {p q : Int} (x y k : Nat) (h : (0 ≤ p ∧ p ≤ 1000000000 ∧ q ≤ 0 ∧ -1000000000 ≤ q) ∨ (0 ≤ q ∧ q ≤ 1000000000 ∧ p ≤ 0 ∧ -1000000000 ≤ p)) : -1000000000 ≤ lc p q x y k ∧ lc p q x y k ≤ 1000000000 := by
 have hp := pow_pos k
 have hx : x % B ^ k < B ^ k := Nat.mod_lt _ hp
 have hy : y % B ^ k < B ^ k := Nat.mod_lt _ hp
 unfold lc
 generalize B ^ k = b at *
 generalize x % b = u at *
 generalize y % b = v at *
 have hb : (0 : Int) < (b : Int) := by omega
 have key : ∀ (m : Int) (t : Nat), 0 ≤ m → m ≤ 1000000000 → t < b → 0 ≤ m * (t : Int) ∧ m * (t : Int) ≤ 1000000000 * (b : Int) := by
  intro m t h1 h2 h3
  refine ⟨Int.mul_nonneg h1 (by omega), ?_⟩
  exact Int.le_trans (Int.mul_le_mul_of_nonneg_right h2 (by omega)) (Int.mul_le_mul_of_nonneg_left (by omega) (by omega))
 have hlo : -1000000000 * (b : Int) ≤ p * u + q * v ∧ p * u + q * v ≤ 1000000000 * (b : Int) := by
  rcases h with ⟨h1, h2, h3, h4⟩ | ⟨h1, h2, h3, h4⟩
  ·obtain ⟨a1, a2⟩ := key p u h1 h2 hx
   obtain ⟨a3, a4⟩ := key (-q) v (by omega) (by omega) hy
   rw [Int.neg_mul] at a3 a4
   omega
  ·obtain ⟨a1, a2⟩ := key q v h1 h2 hy
   obtain ⟨a3, a4⟩ := key (-p) u (by omega) (by omega) hx
   rw [Int.neg_mul] at a3 a4
   omega
 constructor
 ·exact Int.le_ediv_of_mul_le hb hlo.1
 ·have := Int.ediv_le_ediv hb hlo.2
  rwa [Int.mul_ediv_cancel _ (by omega)] at this
theorem pq_bound {p q : Int} (x y k : Nat) (h : (0 ≤ p ∧ p ≤ 1000000000 ∧ q ≤ 0 ∧ -1000000000 ≤ q) ∨ (0 ≤ q ∧ q ≤ 1000000000 ∧ p ≤ 0 ∧ -1000000000 ≤ p)) :
  (-1000000000000000000 ≤ p * ((dg x k : Nat) : Int) ∧ p * ((dg x k : Nat) : Int) ≤ 1000000000000000000) ∧ (-1000000000000000000 ≤ q * ((dg y k : Nat) : Int) ∧ q * ((dg y k : Nat) : Int) ≤ 1000000000000000000) ∧ -1000000000000000000 ≤ p * ((dg x k : Nat) : Int) + q * ((dg y k : Nat) : Int) ∧ p * ((dg x k : Nat) : Int) + q * ((dg y k : Nat) : Int) ≤ 1000000000000000000 := by
 have hx := dg_lt x k
 have hy := dg_lt y k
 generalize dg x k = u at *
 generalize dg y k = v at *
 have key : ∀ (m : Int) (t : Nat), 0 ≤ m → m ≤ 1000000000 → t < 1000000000 → 0 ≤ m * (t : Int) ∧ m * (t : Int) ≤ 1000000000 * 1000000000 := by
  intro m t h1 h2 h3
  refine ⟨Int.mul_nonneg h1 (by omega), ?_⟩
  exact Int.le_trans (Int.mul_le_mul_of_nonneg_right h2 (by omega)) (Int.mul_le_mul_of_nonneg_left (by omega) (by omega))
 rcases h with ⟨h1, h2, h3, h4⟩ | ⟨h1, h2, h3, h4⟩
 ·obtain ⟨a1, a2⟩ := key p u h1 h2 hx
  obtain ⟨a3, a4⟩ := key (-q) v (by omega) (by omega) hy
  rw [Int.neg_mul] at a3 a4
  omega
 ·obtain ⟨a1, a2⟩ := key q v h1 h2 hy
  obtain ⟨a3, a4⟩ := key (-p) u (by omega) (by omega) hx
  rw [Int.neg_mul] at a3 a4
  omega
end NV
namespace NV
theorem lead_div {a n sh rs : Nat} (hn : 3 ≤ n) (ha : a < B ^ n) (h : sh * rs = 1000000000) (hr : 0 < rs) : (dg a (n - 1) * 1000000000 + dg a (n - 2)) * sh + dg a (n - 3) / rs = a / (B ^ (n - 3) * rs) := by
 obtain ⟨m, rfl⟩ : ∃ m, n = m + 3 := ⟨n - 3, by omega⟩
 rw [show m + 3 - 1 = m + 2 by omega, show m + 3 - 2 = m + 1 by omega, show m + 3 - 3 = m by omega]
 have h1 := next_limb a m
 have h2 := next_limb a (m + 1)
 have h3 := next_limb a (m + 2)
 rw [show m + 1 + 1 = m + 2 by omega] at h2
 rw [show m + 2 + 1 = m + 3 by omega, Nat.div_eq_of_lt ha] at h3
 have hU : a / B ^ (m + 1) = dg a (m + 2) * 1000000000 + dg a (m + 1) := by rw [h2, h3, Nat.zero_mul, Nat.zero_add]
 rw [← hU, ← Nat.div_div_eq_div_mul, h1, ← h]
 have e : a / B ^ (m + 1) * (sh * rs) + dg a m = dg a m + rs * (a / B ^ (m + 1) * sh) := by
  have : a / B ^ (m + 1) * (sh * rs) = rs * (a / B ^ (m + 1) * sh) := by rw [Nat.mul_comm sh rs, Nat.mul_left_comm]
  omega
 rw [e, Nat.add_mul_div_left _ _ hr]
 omega
theorem lead_lt {a n sh rs : Nat} (hn : 3 ≤ n) (ha : a < B ^ n) (h : sh * rs = 1000000000) (hr : 0 < rs) (ht : dg a (n - 1) * sh < 1000000000) : a / (B ^ (n - 3) * rs) < 1000000000000000000 := by
 obtain ⟨m, rfl⟩ : ∃ m, n = m + 3 := ⟨n - 3, by omega⟩
 rw [show m + 3 - 1 = m + 2 by omega] at ht
 rw [show m + 3 - 3 = m by omega]
 have h1 := next_limb a m
 have h2 := next_limb a (m + 1)
 have h3 := next_limb a (m + 2)
 rw [show m + 1 + 1 = m + 2 by omega] at h2
 rw [show m + 2 + 1 = m + 3 by omega, Nat.div_eq_of_lt ha] at h3
 have b1 := dg_lt a m
 have b2 := dg_lt a (m + 1)
 have h4 : dg a (m + 2) < rs := by
  rw [← h, Nat.mul_comm] at ht
  exact Nat.lt_of_mul_lt_mul_left ht
 have h5 : a / B ^ m < rs * 1000000000000000000 := by omega
 rw [← Nat.div_div_eq_div_mul, Nat.div_lt_iff_lt_mul hr]
 omega
theorem lead_parts {A1 A2 A3 sh rs V : Nat} (h : (A1 * 1000000000 + A2) * sh + A3 / rs = V) (hV : V < 1000000000000000000) :
  0 ≤ ((A1 : Int) * 1000000000 + A2) * (sh : Int) ∧ ((A1 : Int) * 1000000000 + A2) * (sh : Int) ≤ 1000000000000000000 ∧ 0 ≤ (A3 : Int) / (rs : Int) ∧ (A3 : Int) / (rs : Int) ≤ 1000000000000000000 ∧ ((A1 : Int) * 1000000000 + A2) * (sh : Int) + (A3 : Int) / (rs : Int) = (V : Int) := by
 have e1 : ((A1 : Int) * 1000000000 + A2) * (sh : Int) = (((A1 * 1000000000 + A2) * sh : Nat) : Int) := by simp
 have e2 : (A3 : Int) / (rs : Int) = ((A3 / rs : Nat) : Int) := by simp
 rw [e1, e2]
 generalize (A1 * 1000000000 + A2) * sh = u at *
 generalize A3 / rs = v at *
 omega
theorem lead_step {t sh rs : Nat} (ht : 1 ≤ t) (h : sh * rs = 1000000000) (hp : ∃ k, k ≤ 8 ∧ sh = 10 ^ k ∧ rs = 10 ^ (9 - k)) (hlt : t * sh < 100000000) : (sh * 10) * (rs / 10) = 1000000000 ∧ (∃ k, k ≤ 8 ∧ sh * 10 = 10 ^ k ∧ rs / 10 = 10 ^ (9 - k)) ∧ t * (sh * 10) < 1000000000 ∧ sh < 100000000 := by
 obtain ⟨k, hk, rfl, rfl⟩ := hp
 have h8 : 10 ^ k < 100000000 := by
  have : 1 * 10 ^ k ≤ t * 10 ^ k := Nat.mul_le_mul_right _ ht
  omega
 have hk8 : k ≤ 7 := by
  by_cases e : k ≤ 7
  ·exact e
  ·have : 10 ^ 8 ≤ 10 ^ k := Nat.pow_le_pow_right (by omega) (by omega)
   omega
 have e : 10 ^ (9 - k) = 10 ^ (9 - (k + 1)) * 10 := by rw [← Nat.pow_succ]; congr 1; omega
 have e2 : 10 ^ (9 - k) / 10 = 10 ^ (9 - (k + 1)) := by rw [e]; exact Nat.mul_div_cancel _ (by omega)
 refine ⟨?_, ⟨k + 1, by omega, by rw [Nat.pow_succ], e2⟩, ?_, h8⟩
 ·rw [e2, Nat.mul_assoc, Nat.mul_comm 10, ← e]; exact h
 ·rw [← Nat.mul_assoc]; omega
end NV
end Go.Proofs.YtjpepjooefkbkaaGreatDoor
