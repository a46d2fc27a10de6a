/-
  Decimal texts of ints, and how they are read.
-/
import Derived.Test.YtgehldadfaonbaaDoorSB
import Derived.Lib.ItoaNum
import Derived.Lib.ItoaMem
import Derived.Lib.AtoiAll
import Derived.Lib.AtoiAllCases
namespace Go.Proofs.YtgehldadfaonbaaDoor
open Go.RowKit
open Go.Lib (decDigits)

theorem snoc_ind (P : List UInt8 → Prop) (nil : P []) (snoc : ∀ l c, P l → P (l ++ [c])) (l : List UInt8) : P l := by
  have h : ∀ m : List UInt8, P m.reverse := by
    intro m
    induction m with
    | nil => exact nil
    | cons c m ih => rw [List.reverse_cons]; exact snoc _ _ ih
  simpa using h l.reverse

/-- The number that a text of digits is. -/
def dv (l : List UInt8) : Nat := l.foldl (fun n c => 10 * n + (c.toNat - 48)) 0

def Digs (l : List UInt8) : Prop := ∀ c ∈ l, 48 ≤ c.toNat ∧ c.toNat ≤ 57

theorem dv_nil : dv [] = 0 := rfl
theorem dv_snoc (l : List UInt8) (c : UInt8) : dv (l ++ [c]) = 10 * dv l + (c.toNat - 48) := by simp [dv]

theorem dv_append (l m : List UInt8) : dv (l ++ m) = dv l * 10 ^ m.length + dv m := by
  induction m using snoc_ind with
  | nil => simp [dv_nil]
  | snoc m c ih =>
    rw [← List.append_assoc, dv_snoc, ih, dv_snoc, List.length_append, List.length_singleton, Nat.pow_succ, Nat.mul_add]
    have : 10 * (dv l * 10 ^ m.length) = dv l * (10 ^ m.length * 10) := by ac_rfl
    omega

theorem dec_small {n : Nat} (h : n < 10) : decDigits n = [UInt8.ofNat (48 + n)] := by rw [decDigits, dif_pos h]
theorem dec_big {n : Nat} (h : ¬ n < 10) : decDigits n = decDigits (n / 10) ++ [UInt8.ofNat (48 + n % 10)] := by rw [decDigits, dif_neg h]

theorem byte_toNat {d : Nat} (h : d < 10) : (UInt8.ofNat (48 + d)).toNat = 48 + d := by
  rw [UInt8.toNat_ofNat']; omega

theorem dec_ind (P : Nat → Prop) (h1 : ∀ n, n < 10 → P n) (h2 : ∀ n, ¬ n < 10 → P (n / 10) → P n) (n : Nat) : P n := by
  induction n using Nat.strongRecOn with
  | _ n ih =>
    by_cases h : n < 10
    · exact h1 n h
    · exact h2 n h (ih (n / 10) (by omega))

theorem dv_dec (n : Nat) : dv (decDigits n) = n := by
  induction n using dec_ind with
  | h1 n h => rw [dec_small h]; show 10 * 0 + ((UInt8.ofNat (48 + n)).toNat - 48) = n; rw [byte_toNat h]; omega
  | h2 n h ih => rw [dec_big h, dv_snoc, ih, byte_toNat (by omega)]; omega

theorem digs_dec (n : Nat) : Digs (decDigits n) := by
  induction n using dec_ind with
  | h1 n h => rw [dec_small h]; intro c hc; rw [List.mem_singleton] at hc; subst hc; rw [byte_toNat h]; omega
  | h2 n h ih =>
    rw [dec_big h]; intro c hc
    rcases List.mem_append.1 hc with hc | hc
    · exact ih c hc
    · rw [List.mem_singleton] at hc; subst hc; rw [byte_toNat (by omega)]; omega

theorem dec_ne_nil (n : Nat) : decDigits n ≠ [] := by
  by_cases h : n < 10
  · rw [dec_small h]; simp
  · rw [dec_big h]; simp

theorem dec_len_pos (n : Nat) : 0 < (decDigits n).length := List.length_pos_iff.2 (dec_ne_nil n)

theorem dec_inj {a b : Nat} (h : decDigits a = decDigits b) : a = b := by rw [← dv_dec a, h, dv_dec]

/-- The last k digits of a number below 10^k, with zeros ahead. -/
theorem dv_cons (c : UInt8) (l : List UInt8) : dv (c :: l) = (c.toNat - 48) * 10 ^ l.length + dv l := by
  have := dv_append [c] l
  rw [List.singleton_append] at this
  rw [this]
  simp [dv]

theorem parseUint_digs : ∀ (l : List UInt8) (acc : Nat), Digs l → acc * 10 ^ l.length + dv l < 9223372036854775808 → Lib.parseUint10 acc l = .ok (acc * 10 ^ l.length + dv l)
  | [], acc, _, _ => by simp [Lib.parseUint10, dv_nil]
  | c :: r, acc, hd, h => by
    have hc := hd c (by simp)
    have hr : Digs r := fun x hx => hd x (by simp [hx])
    have e : acc * 10 ^ (c :: r).length + dv (c :: r) = (acc * 10 + (c.toNat - 48)) * 10 ^ r.length + dv r := by
      rw [dv_cons, List.length_cons, Nat.pow_succ, Nat.add_mul]
      have : acc * (10 ^ r.length * 10) = acc * 10 * 10 ^ r.length := by rw [Nat.mul_comm (10 ^ r.length) 10, Nat.mul_assoc]
      omega
    have hp : 0 < 10 ^ r.length := Nat.pow_pos (by omega)
    rw [e] at h ⊢
    have hX : acc * 10 + (c.toNat - 48) < 9223372036854775808 := Nat.lt_of_le_of_lt (Nat.le_trans (Nat.le_mul_of_pos_right _ hp) (Nat.le_add_right _ _)) h
    rw [Lib.parseUint10, if_pos hc, if_neg (by omega), if_neg (by omega)]
    exact parseUint_digs r _ hr h

theorem mag_dec (n : Nat) (hn : n < 9223372036854775808) : Lib.parseMag (decDigits n) = .ok n := by
  have hd := digs_dec n
  have hv := dv_dec n
  have hp := parseUint_digs (decDigits n) 0 hd (by rw [hv]; omega)
  rw [hv, Nat.zero_mul, Nat.zero_add] at hp
  rw [Lib.parseMag, if_neg (dec_ne_nil n), hp]
theorem atoi_itoa (v : Int) (h0 : -9223372036854775807 ≤ v) (h1 : v ≤ 9223372036854775807) : Lib.atoiAll (Lib.itoa v) = .ok v := by
  rcases (show v < 0 ∨ 0 ≤ v by omega) with h | h
  · obtain ⟨n, rfl⟩ : ∃ n : Nat, v = -(n : Int) := ⟨v.natAbs, by omega⟩
    rw [Lib.itoa_neg n (by omega), Lib.atoiAll_minus, mag_dec n (by omega)]
    show (if 9223372036854775808 < n then _ else _) = _
    rw [if_neg (by omega)]
  · obtain ⟨n, rfl⟩ := Int.eq_ofNat_of_zero_le h
    rw [Lib.itoa_nonneg]
    have hd := digs_dec n
    have hm := mag_dec n (by omega)
    cases hl : decDigits n with
    | nil => exact absurd hl (dec_ne_nil n)
    | cons c r =>
      rw [hl] at hd hm
      have hc := hd c (by simp)
      rw [Lib.atoiAll_plain c r (by omega) (by omega), hm]
      show (if 9223372036854775808 ≤ n then _ else _) = _
      rw [if_neg (by omega)]
/-- The text of an int. -/
def kT (v : Int) : ByteArray := ⟨(Lib.itoa v).toArray⟩
theorem kT_list (v : Int) : (kT v).data.toList = Lib.itoa v := by unfold kT; simp
theorem kT_inj {a b : Int} (ha : -9223372036854775807 ≤ a ∧ a ≤ 9223372036854775807) (hb : -9223372036854775807 ≤ b ∧ b ≤ 9223372036854775807) (h : kT a = kT b) : a = b := by
  have h1 := atoi_itoa a ha.1 ha.2
  have h2 := atoi_itoa b hb.1 hb.2
  have e : Lib.itoa a = Lib.itoa b := by rw [← kT_list, h, kT_list]
  rw [e, h2] at h1
  injection h1 with h1
  exact h1.symm
theorem kT_ne (v : Int) : kT v ≠ ⟨#[]⟩ := by
  intro h
  have h2 : Lib.itoa v = [] := by rw [← kT_list, h]
  rcases (show v < 0 ∨ 0 ≤ v by omega) with h | h
  · obtain ⟨n, rfl⟩ : ∃ n : Nat, v = -(n : Int) := ⟨v.natAbs, by omega⟩
    rw [Lib.itoa_neg n (by omega)] at h2; cases h2
  · obtain ⟨n, rfl⟩ := Int.eq_ofNat_of_zero_le h
    rw [Lib.itoa_nonneg] at h2
    exact dec_ne_nil n h2

end Go.Proofs.YtgehldadfaonbaaDoor
