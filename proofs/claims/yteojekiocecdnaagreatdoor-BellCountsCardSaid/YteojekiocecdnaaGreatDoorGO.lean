/-
  The number of binary digits. How Go's parser reads the digits of a number. The contract of ToInt where the number is an int. The contract of FromInt.
-/
import Derived.Test.YteojekiocecdnaaGreatDoorGA
import Derived.Lib.BitFns
import Derived.Test.YteojekiocecdnaaGreatDoorGN
import Derived.Lib.AtoiAll
import Derived.Lib.AtoiErrMem
namespace Go.Proofs.YteojekiocecdnaaGreatDoor
def bl (n : Nat) : Nat := if h : n = 0 then 0 else bl (n / 2) + 1
termination_by n
decreasing_by omega

theorem bl_zero : bl 0 = 0 := by rw [bl, dif_pos rfl]
theorem bl_half {n : Nat} (h : n ≠ 0) : bl n = bl (n / 2) + 1 := by rw [bl, dif_neg h]
theorem bl_shift : ∀ (k n : Nat), n / 2 ^ k ≠ 0 → bl n = k + bl (n / 2 ^ k)
  | 0, n, _ => by simp
  | k + 1, n, h => by
    have hn : n ≠ 0 := by rintro rfl; simp at h
    have e : n / 2 / 2 ^ k = n / 2 ^ (k + 1) := by rw [Nat.div_div_eq_div_mul, Nat.pow_succ, Nat.mul_comm]
    rw [bl_half hn, bl_shift k (n / 2) (by rw [e]; exact h), e]; omega

theorem bl_lib : ∀ (k x : Nat), x < k → x < 2 ^ 64 → Lib.bitLen x = bl x
  | 0, x, h, _ => by omega
  | k + 1, x, h, hx => by
    by_cases h0 : x = 0
    · subst h0; rw [bl_zero]; rfl
    · rw [Lib.bitLen_half x h0 hx, bl_half h0, bl_lib k (x / 2) (by omega) (by omega)]; omega

theorem bl_le : ∀ (k n : Nat), n < 2 ^ k → bl n ≤ k
  | 0, n, h => by
    have : n = 0 := by simpa using h
    subst this; rw [bl_zero]; omega
  | k + 1, n, h => by
    by_cases h0 : n = 0
    · subst h0; rw [bl_zero]; omega
    · rw [bl_half h0]
      have := bl_le k (n / 2) (by rw [Nat.pow_succ] at h; omega)
      omega

open Go.RowKit NV
open Go.Lib (decDigits)

theorem parseUint_digs : ∀ (l : List UInt8) (acc : Nat), Digs l → acc * 10 ^ l.length + dv l < 9223372036854775808 → Lib.parseUint10 acc l = .ok (acc * 10 ^ l.length + dv l)
  | [], acc, _, _ => by simp [Lib.parseUint10, dv_nil]
  | c :: r, acc, hd, h => by
    have hc := hd c (by simp)
    have hr : Digs r := fun x hx => hd x (by simp [hx])
    have e : acc * 10 ^ (c :: r).length + dv (c :: r) = (acc * 10 + (c.toNat - 48)) * 10 ^ r.length + dv r := by
      rw [dv_cons, List.length_cons, Nat.pow_succ, Nat.add_mul]
      have : acc * (10 ^ r.length * 10) = acc * 10 * 10 ^ r.length := by rw [Nat.mul_comm (10 ^ r.length) 10, Nat.mul_assoc]
      omega
    have hp : 0 < 10 ^ r.length := Nat.pow_pos (by omega)
    rw [e] at h ⊢
    have hX : acc * 10 + (c.toNat - 48) < 9223372036854775808 := Nat.lt_of_le_of_lt (Nat.le_trans (Nat.le_mul_of_pos_right _ hp) (Nat.le_add_right _ _)) h
    rw [Lib.parseUint10, if_pos hc, if_neg (by omega), if_neg (by omega)]
    exact parseUint_digs r _ hr h

theorem atoi_dec (n : Nat) (hn : n ≤ 9223372036854775807) : Lib.atoiAll (decDigits n) = .ok (n : Int) := by
  have hd := digs_dec n
  have hv := dv_dec n
  have hp := parseUint_digs (decDigits n) 0 hd (by rw [hv]; omega)
  rw [hv] at hp
  cases hl : decDigits n with
  | nil => have := dec_len_pos n; rw [hl] at this; simp at this
  | cons c r =>
    rw [hl] at hd hp
    have hc := hd c (by simp)
    have h43 : ¬ (c.toNat = 43 ∨ c.toNat = 45) := by omega
    have h45 : ¬ c.toNat = 45 := by omega
    have hne : ¬ (c :: r = []) := by simp
    simp only [Lib.atoiAll, if_neg h43, Lib.parseMag, if_neg hne, hp]
    simp [h45]
    omega

open Go.RowKit NV
open Go.Lib (decDigits)

open Go.RowKit NV
open Go.Lib (decDigits)

theorem itoa_nat (n : Nat) : (⟨(Lib.itoa (n : Int)).toArray⟩ : ByteArray) = dstr n := by
  rw [Lib.itoa, if_neg (by omega)]; rfl

set_option maxHeartbeats 800000 in
set_option maxRecDepth 100000 in
theorem FromInt_ok (n : Nat) (hn : n ≤ 9223372036854775807) (w : World) (htab : Tab w) :
    Calls Tryz.prog 144 #[.int .i64 (n : Int)] w fun e w' => e = .returned (.tuple #[.string (dstr n), .int .i64 0]) ∧ Below w.heap.size w w' := by
  have H := Tryz.strconv_Itoa (n : Int) (by omega) (by omega) w htab
  rw [itoa_nat] at H
  have HI := Lib.hid H
  clear H htab
  go_enter Tryz.func144, Tryz.ntmps144
  go_wp2_with fail
  refine HI.out.mono ?_
  rintro e w1 ⟨rfl, k, os, rfl⟩
  have HB := Lib.hid (Lib.below_grow w.heap.size w (Nat.le_refl _) k os)
  go_wp2_with fail
  go_ret2
  exact ⟨rfl, HB.out⟩

set_option maxHeartbeats 800000 in
theorem FromInt_neg (m : Int) (h : m < 0) (w : World) :
    Calls Tryz.prog 144 #[.int .i64 m] w fun e w' => e = .returned (.tuple #[.string ⟨#[]⟩, .int .i64 2]) ∧ w = w' := by
  go_enter Tryz.func144, Tryz.ntmps144
  go_wp2_with fail
  go_ret2
  exact ⟨rfl, rfl⟩

end Go.Proofs.YteojekiocecdnaaGreatDoor
