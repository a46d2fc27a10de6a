/-
  How Go's parser reads the digits of a number.
-/
import Derived.Test.YtiocehlefpbbhaaGreatDoorM6
import Derived.Test.YtiocehlefpbbhaaGreatDoorM3
import Derived.Test.YtiocehlefpbbhaaGreatDoorW14
import Derived.Lib.AtoiAll
namespace Go.Proofs.YtiocehlefpbbhaaGreatDoor
open Go.RowKit NV
open Go.Lib (decDigits)

theorem parseUint_digs : ∀ (l : List UInt8) (acc : Nat), Digs l → acc * 10 ^ l.length + dv l < 9223372036854775808 → Lib.parseUint10 acc l = .ok (acc * 10 ^ l.length + dv l)
  | [], acc, _, _ => by simp [Lib.parseUint10, dv_nil]
  | c :: r, acc, hd, h => by
    have hc := hd c (by simp)
    have hr : Digs r := fun x hx => hd x (by simp [hx])
    have e : acc * 10 ^ (c :: r).length + dv (c :: r) = (acc * 10 + (c.toNat - 48)) * 10 ^ r.length + dv r := by
      rw [dv_cons, List.length_cons, Nat.pow_succ, Nat.add_mul]
      have : acc * (10 ^ r.length * 10) = acc * 10 * 10 ^ r.length := by rw [Nat.mul_comm (10 ^ r.length) 10, Nat.mul_assoc]
      omega
    have hp : 0 < 10 ^ r.length := Nat.pow_pos (by omega)
    rw [e] at h ⊢
    have hX : acc * 10 + (c.toNat - 48) < 9223372036854775808 := Nat.lt_of_le_of_lt (Nat.le_trans (Nat.le_mul_of_pos_right _ hp) (Nat.le_add_right _ _)) h
    rw [Lib.parseUint10, if_pos hc, if_neg (by omega), if_neg (by omega)]
    exact parseUint_digs r _ hr h

theorem atoi_dec (n : Nat) (hn : n ≤ 9223372036854775807) : Lib.atoiAll (decDigits n) = .ok (n : Int) := by
  have hd := digs_dec n
  have hv := dv_dec n
  have hp := parseUint_digs (decDigits n) 0 hd (by rw [hv]; omega)
  rw [hv] at hp
  cases hl : decDigits n with
  | nil => have := dec_len_pos n; rw [hl] at this; simp at this
  | cons c r =>
    rw [hl] at hd hp
    have hc := hd c (by simp)
    have h43 : ¬ (c.toNat = 43 ∨ c.toNat = 45) := by omega
    have h45 : ¬ c.toNat = 45 := by omega
    have hne : ¬ (c :: r = []) := by simp
    simp only [Lib.atoiAll, if_neg h43, Lib.parseMag, if_neg hne, hp]
    simp [h45]
    omega

end Go.Proofs.YtiocehlefpbbhaaGreatDoor
