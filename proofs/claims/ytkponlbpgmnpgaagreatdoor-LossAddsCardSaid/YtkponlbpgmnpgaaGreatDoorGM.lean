/-
  The reference's number, Power, Pow and FromInt.
-/
import Derived.Test.YtkponlbpgmnpgaaGreatDoorGK
import Derived.Test.YtkponlbpgmnpgaaGreatDoorGC
import Derived.Test.YtkponlbpgmnpgaaGreatDoorGJ
import Derived.Lib.RabinKarpLaws
namespace Go.Proofs.YtkponlbpgmnpgaaGreatDoor
open Go.RowKit NV
open Go.Lib (decDigits)
theorem enc_digit : ∀ d, d < 10 → Utf8.encode (48 + ((d : Nat) : Int)) = ⟨#[UInt8.ofNat (48 + d)]⟩ := by decide +kernel
theorem enc_append (d : Nat) (h : d < 10) (l : List UInt8) : Utf8.encode (48 + ((d : Nat) : Int)) ++ (⟨l.toArray⟩ : ByteArray) = ⟨([UInt8.ofNat (48 + d)] ++ l).toArray⟩ := by
 rw [enc_digit d h]
 apply ByteArray.ext
 rw [ByteArray.data_append]
 simp
attribute [local irreducible] Utf8.encode
def intR (m : Int) : ByteArray × Nat := if m < 0 then (⟨#[]⟩, 2) else (dstr m.toNat, 0)
theorem intR_neg {m : Int} (h : m < 0) : intR m = (⟨#[]⟩, 2) := if_pos h
theorem intR_nat (n : Nat) : intR (n : Int) = (dstr n, 0) := by rw [intR, if_neg (by omega)]; rfl
set_option maxHeartbeats 1600000 in
set_option maxRecDepth 100000 in
theorem iFromInt_any (m : Int) (hm : m ≤ 9223372036854775807) (hm0 : -9223372036854775808 ≤ m) (w : World) :
  Calls Tryz.prog 166 #[.int .i64 m] w fun e w' => e = .returned (.tuple #[.string (intR m).1, .int .i64 ((intR m).2 : Int)]) ∧ Below w.heap.size w w' := by
 by_cases h0 : m < 0
 ·rw [intR_neg h0]
  go_enter Tryz.func166, Tryz.ntmps166
  go_wp2_with fail
  go_ret2
  exact ⟨rfl, Below.refl _ _⟩
 ·obtain ⟨n, rfl⟩ : ∃ n : Nat, m = (n : Int) := ⟨m.toNat, by omega⟩
  rw [intR_nat]
  clear h0 hm0
  go_enter Tryz.func166, Tryz.ntmps166
  go_wp2_with fail
  go_loop [0, 4] (fun i s => ∃ (k : Nat) (l : List UInt8), k ≤ n ∧ i = .int .i64 k ∧ s = .string ⟨l.toArray⟩ ∧ l.length ≤ 19 ∧ (k ≤ 9 ∨ (decDigits k).length + l.length ≤ 19) ∧ Hid (decDigits n = decDigits k ++ l)) (fun i _ => (intOf i).toNat)
  case atStart => exact ⟨n, [], Nat.le_refl _, rfl, rfl, by simp, .inr (by have := (dec_len_le (n := n) (k := 19) (by omega)).2 (by omega); simpa using this), Lib.hid (by simp)⟩
  case round =>
   obtain ⟨k, l, hk, rfl, rfl, hl, hlk, HD⟩ := hrel
   by_cases h9 : 9 < k
   ·have hmod : k % 10 < 10 := Nat.mod_lt _ (by omega)
    have e10 : (k : Int) % 10 = ((k % 10 : Nat) : Int) := by simp
    have hs1 : ¬ 9223372036854775807 < (Utf8.encode (48 + (k : Int) % 10)).size + l.length := by rw [e10, enc_digit _ hmod]; show ¬ 9223372036854775807 < 1 + l.length; omega
    have HE := Lib.hid (show Utf8.encode (48 + (k : Int) % 10) ++ (⟨l.toArray⟩ : ByteArray) = ⟨([UInt8.ofNat (48 + k % 10)] ++ l).toArray⟩ by rw [e10, enc_append _ hmod])
    have HB := Lib.hid (dec_big (n := k) (by omega))
    have hlen : (decDigits k).length = (decDigits (k / 10)).length + 1 := by rw [HB.out, List.length_append]; rfl
    have hpos := dec_len_pos (k / 10)
    have hl19 : l.length + 1 ≤ 19 := by omega
    have HK10 := Lib.hid (show (k : Int) / 10 = ((k / 10 : Nat) : Int) by simp)
    have hll : (decDigits (k / 10)).length + (l.length + 1) ≤ 19 := by omega
    have HL := Lib.hid hll
    clear e10 hlk hlen hll hpos hmod
    go_wp2_with fail
    go_round
    case rel => exact ⟨k / 10, [UInt8.ofNat (48 + k % 10)] ++ l, by omega, by rw [HK10.out], by rw [HE.out], by simp; omega, .inr (by have := HL.out; simp; omega), Lib.hid (by rw [HD.out, HB.out, List.append_assoc])⟩
    case measure => simp [intOf]; omega
   ·have hs1 : ¬ 9223372036854775807 < (Utf8.encode (48 + (k : Int))).size + l.length := by rw [enc_digit _ (by omega)]; show ¬ 9223372036854775807 < 1 + l.length; omega
    have HE := Lib.hid (show Utf8.encode (48 + (k : Int)) ++ (⟨l.toArray⟩ : ByteArray) = dstr n by rw [enc_append _ (by omega), dstr, HD.out, dec_small (by omega)])
    clear hlk
    go_wp2_with fail
    go_ret2
    exact ⟨by rw [HE.out]; rfl, Below.refl _ _⟩
end Go.Proofs.YtkponlbpgmnpgaaGreatDoor
