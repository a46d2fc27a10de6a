/-
  The writer of bits: a strings.Builder within a struct. The last digits of an int, written.
-/
import Derived.Test.YteojekiocecdnaaGreatDoorGC
import Derived.Lib.Builder
import Derived.Test.YteojekiocecdnaaGreatDoorB4
import Derived.Deep.RegionWith
import Derived.Lib.RabinKarpLaws
namespace Go.Proofs.YteojekiocecdnaaGreatDoor
open Go.RowKit NV
open Go.Lib (decDigits)

theorem cells8 : Tryz.prog.cellsOf 5 = 1 := by kernel_rfl

open Go.RowKit NV
open Go.Lib (decDigits)

/-- The digit of k at place i. -/
def bitB (k i : Nat) : UInt8 := UInt8.ofNat (48 + k / 2 ^ i % 2)
/-- The first m of the last n binary digits of k. -/
def topBits (k n : Nat) : Nat → List UInt8
  | 0 => []
  | m + 1 => topBits k n m ++ [bitB k (n - 1 - m)]
/-- The last n binary digits of k. -/
def wbits (k n : Nat) : List UInt8 := topBits k n n

theorem bitB_nat (k i : Nat) : (bitB k i).toNat = 48 + k / 2 ^ i % 2 := by
  unfold bitB
  have : k / 2 ^ i % 2 < 2 := Nat.mod_lt _ (by omega)
  rw [UInt8.toNat_ofNat']
  omega
theorem top_len (k n : Nat) : ∀ m, (topBits k n m).length = m
  | 0 => rfl
  | m + 1 => by rw [topBits, List.length_append, top_len k n m]; rfl
theorem top_bits (k n : Nat) : ∀ m, IsBits (topBits k n m)
  | 0 => fun _ h => by simp [topBits] at h
  | m + 1 => fun c h => by
    rw [topBits] at h
    rcases List.mem_append.1 h with h | h
    · exact top_bits k n m c h
    · rw [List.mem_singleton] at h
      have h2 : k / 2 ^ (n - 1 - m) % 2 < 2 := Nat.mod_lt _ (by omega)
      rw [h, bitB]
      rcases (show k / 2 ^ (n - 1 - m) % 2 = 0 ∨ k / 2 ^ (n - 1 - m) % 2 = 1 by omega) with h3 | h3
      · left; rw [h3]; rfl
      · right; rw [h3]; rfl
theorem top_val {k n : Nat} (hk : k < 2 ^ n) : ∀ m, m ≤ n → bv (topBits k n m) = k / 2 ^ (n - m)
  | 0, _ => by rw [Nat.sub_zero, Nat.div_eq_of_lt hk]; rfl
  | m + 1, h => by
    rw [topBits, bv_append, top_val hk m (by omega)]
    have h1 : bv [bitB k (n - 1 - m)] = k / 2 ^ (n - 1 - m) % 2 := by
      show 2 * 0 + ((bitB k (n - 1 - m)).toNat - 48) = _
      rw [bitB_nat]; omega
    rw [h1, show n - (m + 1) = n - 1 - m by omega, show n - m = (n - 1 - m) + 1 by omega, Nat.pow_succ, ← Nat.div_div_eq_div_mul]
    simp only [List.length_cons, List.length_nil]
    omega
theorem wbits_len (k n : Nat) : (wbits k n).length = n := top_len k n n
theorem wbits_bits (k n : Nat) : IsBits (wbits k n) := top_bits k n n
theorem wbits_val {k n : Nat} (hk : k < 2 ^ n) : bv (wbits k n) = k := by unfold wbits; rw [top_val hk n (Nat.le_refl _), Nat.sub_self, Nat.pow_zero, Nat.div_one]

theorem bit_val (k i : Nat) (hk : k < 9223372036854775808) : IntKind.u8.wrap (48 + IntKind.u8.wrap (bits BinOp.and IntKind.i64 ((k : Int) / 2 ^ i) 1)) = (((bitB k i).toNat : Nat) : Int) := by
  have h1 : ((k : Int) / 2 ^ i) = ((k / 2 ^ i : Nat) : Int) := by simp
  rw [h1, and_one _ (Nat.lt_of_le_of_lt (Nat.div_le_self _ _) hk), bitB_nat]
  have h2 : k / 2 ^ i % 2 < 2 := Nat.mod_lt _ (by omega)
  simp [IntKind.wrap, IntKind.signed, IntKind.bits]
  omega

end Go.Proofs.YteojekiocecdnaaGreatDoor
