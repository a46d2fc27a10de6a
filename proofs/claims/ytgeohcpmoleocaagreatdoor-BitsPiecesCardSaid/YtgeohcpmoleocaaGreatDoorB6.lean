/-
  The last digits of an int, written.
-/
import Derived.Test.YtgeohcpmoleocaaGreatDoorB5
import Derived.Test.YtgeohcpmoleocaaGreatDoorB4
import Derived.Deep.RegionWith
import Derived.Lib.RabinKarpLaws
namespace Go.Proofs.YtgeohcpmoleocaaGreatDoor
open Go.RowKit NV
open Go.Lib (decDigits)

/-- The digit of k at place i. -/
def bitB (k i : Nat) : UInt8 := UInt8.ofNat (48 + k / 2 ^ i % 2)
/-- The first m of the last n binary digits of k. -/
def topBits (k n : Nat) : Nat → List UInt8
  | 0 => []
  | m + 1 => topBits k n m ++ [bitB k (n - 1 - m)]
/-- The last n binary digits of k. -/
def wbits (k n : Nat) : List UInt8 := topBits k n n

theorem bitB_nat (k i : Nat) : (bitB k i).toNat = 48 + k / 2 ^ i % 2 := by
  unfold bitB
  have : k / 2 ^ i % 2 < 2 := Nat.mod_lt _ (by omega)
  rw [UInt8.toNat_ofNat']
  omega
theorem top_len (k n : Nat) : ∀ m, (topBits k n m).length = m
  | 0 => rfl
  | m + 1 => by rw [topBits, List.length_append, top_len k n m]; rfl
theorem top_bits (k n : Nat) : ∀ m, IsBits (topBits k n m)
  | 0 => fun _ h => by simp [topBits] at h
  | m + 1 => fun c h => by
    rw [topBits] at h
    rcases List.mem_append.1 h with h | h
    · exact top_bits k n m c h
    · rw [List.mem_singleton] at h
      have h2 : k / 2 ^ (n - 1 - m) % 2 < 2 := Nat.mod_lt _ (by omega)
      rw [h, bitB]
      rcases (show k / 2 ^ (n - 1 - m) % 2 = 0 ∨ k / 2 ^ (n - 1 - m) % 2 = 1 by omega) with h3 | h3
      · left; rw [h3]; rfl
      · right; rw [h3]; rfl
theorem top_val {k n : Nat} (hk : k < 2 ^ n) : ∀ m, m ≤ n → bv (topBits k n m) = k / 2 ^ (n - m)
  | 0, _ => by rw [Nat.sub_zero, Nat.div_eq_of_lt hk]; rfl
  | m + 1, h => by
    rw [topBits, bv_append, top_val hk m (by omega)]
    have h1 : bv [bitB k (n - 1 - m)] = k / 2 ^ (n - 1 - m) % 2 := by
      show 2 * 0 + ((bitB k (n - 1 - m)).toNat - 48) = _
      rw [bitB_nat]; omega
    rw [h1, show n - (m + 1) = n - 1 - m by omega, show n - m = (n - 1 - m) + 1 by omega, Nat.pow_succ, ← Nat.div_div_eq_div_mul]
    simp only [List.length_cons, List.length_nil]
    omega
theorem wbits_len (k n : Nat) : (wbits k n).length = n := top_len k n n
theorem wbits_bits (k n : Nat) : IsBits (wbits k n) := top_bits k n n
theorem wbits_val {k n : Nat} (hk : k < 2 ^ n) : bv (wbits k n) = k := by unfold wbits; rw [top_val hk n (Nat.le_refl _), Nat.sub_self, Nat.pow_zero, Nat.div_one]

theorem Wr.drew {B b : Nat} {bs : List Value} {w : World} (h : Wr B b bs w) : Wr B b bs w.drew := h
theorem bit_val (k i : Nat) (hk : k < 9223372036854775808) : IntKind.u8.wrap (48 + IntKind.u8.wrap (bits BinOp.and IntKind.i64 ((k : Int) / 2 ^ i) 1)) = (((bitB k i).toNat : Nat) : Int) := by
  have h1 : ((k : Int) / 2 ^ i) = ((k / 2 ^ i : Nat) : Int) := by simp
  rw [h1, and_one _ (Nat.lt_of_le_of_lt (Nat.div_le_self _ _) hk), bitB_nat]
  have h2 : k / 2 ^ i % 2 < 2 := Nat.mod_lt _ (by omega)
  simp [IntKind.wrap, IntKind.signed, IntKind.bits]
  omega

set_option maxHeartbeats 3200000 in
set_option maxRecDepth 100000 in
theorem writeLast_any (B b k n : Nat) (l : List UInt8) (w : World) (h : Wr B b (Lib.byteCells l) w) (hk : k < 9223372036854775808) (hn : n ≤ 63) (hl : l.length ≤ 1000000) (hBw : B ≤ w.heap.size) :
    Calls Tryz.prog 115 #[.pointer (some ⟨b, 0, none⟩), .int .i64 (k : Int), .int .i64 (n : Int)] w fun e w' =>
      e = .returned (.tuple #[]) ∧ Wr B b (Lib.byteCells (l ++ wbits k n)) w' ∧ (n = 0 → w' = w) ∧ Below B w w' := by
  have HH := Lib.hid h
  have HB0 := Lib.hid hBw
  clear h
  go_enter Tryz.func115, Tryz.ntmps115
  go_wp2_with fail
  go_loopw [6] (fun i wr => ∃ j : Nat, j ≤ n ∧ i = .int .i64 ((j : Int) - 1) ∧ Wr B b (Lib.byteCells (l ++ topBits k n (n - j))) wr ∧ Hid (j = n → wr = w) ∧ Below B w wr) (fun i _ => (intOf i + 1).toNat)
  case atStart => exact ⟨n, Nat.le_refl _, rfl, by rw [Nat.sub_self]; simpa [topBits] using HH.out, Lib.hid (fun _ => rfl), Below.refl _ _⟩
  case round =>
    obtain ⟨j, hj, rfl, hw, hs, hb⟩ := hrel
    cases j with
    | zero =>
      have HW := Lib.hid hw
      have HB := Lib.hid hb
      clear hw hb
      go_wp2_with fail
      go_end0
      exact ⟨rfl, by rw [Nat.sub_zero] at HW; exact HW.out, fun e => hs.out e.symm, HB.out⟩
    | succ i =>
      have hi : (((i + 1 : Nat) : Int) - 1) = (i : Int) := by omega
      rw [hi]
      have c0 : ∃ p, wr.cell? ⟨b, 0, none⟩ = some p := by rcases hw with h | h <;> exact ⟨_, h.cell0⟩
      have HWB := Lib.hid (fun (W : World) (hW : Wr B b (Lib.byteCells (l ++ topBits k n (n - (i + 1)))) W) (hB : B ≤ W.heap.size) => WriteByte_w B b (Lib.byteCells (l ++ topBits k n (n - (i + 1)))) (((bitB k i).toNat : Nat) : Int) W hW (by rw [Lib.byteCells_length, List.length_append, top_len]; omega) hB)
      have HW := Lib.hid hw
      have HB := Lib.hid hb
      have HI := Lib.hid hi
      have HBW := Lib.hid (show B ≤ wr.drew.heap.size from Nat.le_trans HB0.out hb.size)
      clear hw hb hi
      go_wp2_with fail
      go_region_with (rw [bit_val _ _ hk]; refine (HWB.out _ HW.out.drew HBW.out).mono ?_; rintro e w2 ⟨rfl, hw2, hb2⟩)
      all_goals (
        have HW2 := Lib.hid hw2
        have HB2 := Lib.hid (HB.out.drew.trans hb2)
        clear hw2 hb2
        go_wp2_with fail
        go_roundw
        case rel => exact ⟨i, by omega, rfl, .inr (by
          have h1 := HW2.out
          rw [show n - i = (n - (i + 1)) + 1 by omega, topBits, ← List.append_assoc, show n - 1 - (n - (i + 1)) = i by omega]
          have h2 : Lib.byteCells (l ++ topBits k n (n - (i + 1)) ++ [bitB k i]) = Lib.byteCells (l ++ topBits k n (n - (i + 1))) ++ [.int .u8 (((bitB k i).toNat : Nat) : Int)] := by simp [Lib.byteCells]
          rw [h2]; exact h1), Lib.hid (fun e => by omega), HB2.out⟩
        case measure => simp [intOf])

end Go.Proofs.YtgeohcpmoleocaaGreatDoor
