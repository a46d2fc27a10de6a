/-
  FromBytes.
-/
import Derived.Test.YtpkbppfgmpcpcaaGreatDoorB19
namespace Go.Proofs.YtpkbppfgmpcpcaaGreatDoor
open Go.RowKit NV
open Go.Lib (decDigits)

/-- A slice of N bytes: f. -/
def BRow (w : World) (ao : Option Addr) (N : Nat) (f : Nat → UInt8) : Prop :=
  N = 0 ∨ ∃ a, ao = some a ∧ a.block < w.heap.size ∧ ∀ j, j < N → w.cell? (a.add j) = some (.int .u8 (((f j).toNat : Nat) : Int))
theorem add_block (a : Addr) (j : Nat) : (a.add j).block = a.block := by unfold Addr.add; split <;> rfl
theorem BRow.below {w w' : World} {ao : Option Addr} {N : Nat} {f : Nat → UInt8} (h : BRow w ao N f) (hb : Below w.heap.size w w') : BRow w' ao N f := by
  rcases h with h | ⟨a, h1, h2, h3⟩
  · exact .inl h
  · exact .inr ⟨a, h1, Nat.lt_of_lt_of_le h2 hb.size, fun j hj => (hb.cell (p := a.add j) (by rw [add_block]; exact h2)).trans (h3 j hj)⟩

/-- The bits of k bytes. -/
def byb (f : Nat → UInt8) (k : Nat) : List UInt8 := catL (fun j => wbits (f j).toNat 8) k
theorem byb_len (f : Nat → UInt8) (k : Nat) : (byb f k).length = k * 8 := catL_len (fun _ _ => wbits_len _ _)

set_option maxHeartbeats 3200000 in
set_option maxRecDepth 100000 in
theorem FromBytes_ok {ao : Option Addr} {N cap n : Nat} {f : Nat → UInt8} (w : World) (h : BRow w ao N f) (hc : N ≤ cap) (_hcap : cap ≤ maxLen) (hn : n ≤ 256) (hN : (n + 7) / 8 ≤ N) :
    Calls Tryz.prog 21 #[.slice ao N cap, .int .i64 (n : Int)] w fun e w' => e = .returned (.tuple #[.string ((⟨(byb f ((n + 7) / 8)).toArray⟩ : ByteArray).extract 0 n), .int .i64 0]) ∧ Below w.heap.size w w' := by
  obtain ⟨M, hM⟩ : ∃ M, M = (n + 7) / 8 := ⟨_, rfl⟩
  have hM33 : M ≤ 33 := by omega
  have hMn : n ≤ M * 8 := by omega
  have hMi : ((n : Int) + 7) / 8 = (M : Int) := by omega
  have hMt : Int.tdiv ((n : Int) + 7) 8 = (M : Int) := by rw [Int.tdiv_eq_ediv_of_nonneg (by omega)]; exact hMi
  rw [← hM] at hN
  rw [← hM]
  have hsize : (⟨(byb f M).toArray⟩ : ByteArray).size = M * 8 := by rw [Go.Lib.size_eq]; exact byb_len f M
  have HSZ := Lib.hid hsize
  have HT := Lib.hid h
  generalize hTT : (⟨(byb f M).toArray⟩ : ByteArray) = T at HSZ ⊢
  have HTT := Lib.hid hTT
  have hw1 := writer_new w
  have hz1 := WrZ.new w
  have hb1 : Below w.heap.size w (w.alloc (.cells #[.pointer none, .slice none 0 0] 93)) := (Below.refl _ _).alloc (Nat.le_refl _) _
  have HS := Lib.hid (And.intro hw1 (And.intro hz1 hb1))
  clear h hM hw1 hz1 hb1 hsize hTT

  go_enter Tryz.func21, Tryz.ntmps21
  go_wp2_with fail
  have HN := Lib.hid hN
  rename ¬ N < M => hnm
  clear hN hnm
  go_loopw [27] (fun i wr => ∃ k : Nat, k ≤ M ∧ i = .int .i64 (k : Int) ∧ Wr w.heap.size w.heap.size (Lib.byteCells (byb f k)) wr ∧ WrZ w.heap.size (Lib.byteCells (byb f k)) wr ∧ Below w.heap.size w wr) (fun i _ => M - (intOf i).toNat)
  case atStart => exact ⟨0, Nat.zero_le _, rfl, HS.out.1, HS.out.2.1, HS.out.2.2⟩
  case round =>
    obtain ⟨k, hk, rfl, hw, hz, hb⟩ := hrel
    clear HS
    by_cases hlt : k < M
    · rcases HT.out with h0 | ⟨a, rfl, ha, hcell⟩
      · have := HN.out; omega
      obtain ⟨X, hX⟩ : ∃ X, (f k).toNat = X := ⟨_, rfl⟩
      have c0 : wr.cell? (a.add k) = some (.int .u8 ((X : Nat) : Int)) := hX ▸ (hb.cell (p := a.add k) (by rw [add_block]; exact ha)).trans (hcell k (by have := HN.out; omega))
      have hf8 : X < 256 := hX ▸ (f k).toNat_lt
      have HWS := Lib.hid (writeLast_any w.heap.size w.heap.size X 8 _ wr hw (by omega) (by omega) (by rw [byb_len]; omega) hb.size)
      have HB := Lib.hid hb
      have HLT := Lib.hid hw.lt
      have HX := Lib.hid hX
      clear hw hz hb hcell ha HT hX
      go_wp2_with fail
      refine HWS.out.mono ?_
      rintro e w2 ⟨rfl, hw2, _, hb2⟩
      have HF := Lib.hid (And.intro hw2 (HB.out.trans hb2))
      clear hw2 hb2 HWS
      go_wp2_with fail
      go_roundw
      case rel => exact ⟨k + 1, by omega, by go_num, (by have h := HF.out.1; rw [← HX.out] at h; exact h), fun e => by
        have h1 := byb_len f (k + 1)
        have h2 := Lib.byteCells_length (byb f (k + 1))
        rw [e] at h2
        simp at h2; omega, HF.out.2⟩
      case measure => simp [intOf]; omega
    · obtain rfl : k = M := by omega
      have HTX := Lib.hid (text_z w.heap.size w.heap.size _ wr hw hz)
      have HB := Lib.hid hb
      clear hw hz hb HT
      rw [HTT.out] at HTX
      have hTs : n ≤ T.size := by rw [HSZ.out]; exact hMn
      go_wp2_with fail
      refine HTX.out.mono ?_
      rintro e w2 ⟨rfl, hb2⟩
      have HB2 := Lib.hid (HB.out.trans hb2)
      clear hb2 HTX
      go_wp2_with fail
      go_ret2
      exact ⟨rfl, HB2.out⟩

theorem FromBytes_range {ao : Option Addr} {N cap : Nat} (n : Int) (hn : n < 0 ∨ 256 < n) (w : World) :
    Calls Tryz.prog 21 #[.slice ao N cap, .int .i64 n] w fun e w' => e = .returned (.tuple #[.string ⟨#[]⟩, .int .i64 2]) ∧ w = w' := by
  rcases hn with hn | hn
  · go_enter Tryz.func21, Tryz.ntmps21
    go_wp2_with fail
    go_ret2
    exact ⟨rfl, rfl⟩
  · have h0 : ¬ n < 0 := by omega
    go_enter Tryz.func21, Tryz.ntmps21
    go_wp2_with fail
    go_ret2
    exact ⟨rfl, rfl⟩

theorem FromBytes_short {ao : Option Addr} {N cap n : Nat} (hn : n ≤ 256) (hN : N < (n + 7) / 8) (w : World) :
    Calls Tryz.prog 21 #[.slice ao N cap, .int .i64 (n : Int)] w fun e w' => e = .returned (.tuple #[.string ⟨#[]⟩, .int .i64 16]) ∧ w = w' := by
  obtain ⟨M, hM⟩ : ∃ M, M = (n + 7) / 8 := ⟨_, rfl⟩
  have hM33 : M ≤ 33 := by omega
  have hMi : ((n : Int) + 7) / 8 = (M : Int) := by omega
  have hMt : Int.tdiv ((n : Int) + 7) 8 = (M : Int) := by rw [Int.tdiv_eq_ediv_of_nonneg (by omega)]; exact hMi
  rw [← hM] at hN
  clear hM
  go_enter Tryz.func21, Tryz.ntmps21
  go_wp2_with fail
  go_ret2
  exact ⟨rfl, rfl⟩

end Go.Proofs.YtpkbppfgmpcpcaaGreatDoor
