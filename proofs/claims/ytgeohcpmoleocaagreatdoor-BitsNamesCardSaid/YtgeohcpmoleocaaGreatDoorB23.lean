/-
  BitsNames returns true.
-/
import Derived.Test.YtgeohcpmoleocaaGreatDoorB20
import Derived.Test.YtgeohcpmoleocaaGreatDoorB14
import Derived.Room.AppendFits
import Derived.WalkSmall
namespace Go.Proofs.YtgeohcpmoleocaaGreatDoor
open Go.RowKit NV
open Go.Lib (decDigits)

set_option maxHeartbeats 1600000 in
set_option maxRecDepth 100000 in
/-- Times at a text of one byte. -/
theorem times_one (c : UInt8) (n : Nat) (hn : n ≤ 1000000) (w : World) :
    Calls Tryz.prog 45 #[.string ⟨#[c]⟩, .int .i64 (n : Int)] w fun e w' => e = .returned (.string ⟨(List.replicate n c).toArray⟩) ∧ Below w.heap.size w w' := by
  obtain ⟨i0, hi, hz0, hz1, hz2⟩ := info_parts (show (Tryz.prog.info? 5).map (fun i => (i.zero, i.size, i.bytes)) = some (some (.int .u8 0), 1, 1) by kernel_rfl)
  go_enter Tryz.func45, Tryz.ntmps45
  go_wp2_with (at_make; refine wpList_make_own _ rfl _ _ 45 rfl w.heap.size 5 i0 (.int .u8 0) 1 Tryz.underlying45 hi hz0 hz1 _ _ _ n rfl rfl (by omega) (by rw [hz2]; omega) (by unfold maxLen; omega) (by simp) ?_)
  intro w1 hown1 hgrow1
  have hb1 : Below w.heap.size w w1 := (Below.refl _ _).grown hgrow1 (by simp) (fun k hk => by cases hk)
  clear hgrow1
  go_wp2_with fail
  go_loopw [5, 6] (fun s5 s6 wr => ∃ k : Nat, k ≤ n ∧ s5 = .slice (some ⟨w.heap.size, 0, none⟩) k n ∧ s6 = .int .i64 (k : Int) ∧ wr.ownsRow w.heap.size 5 1 (.slice (some ⟨w.heap.size, 0, none⟩) k n) k (List.replicate k (Value.int .u8 ((c.toNat : Nat) : Int))) ∧ Below w.heap.size w wr) (fun _ s6 _ => n - (intOf s6).toNat)
  case atStart => exact ⟨0, Nat.zero_le _, rfl, rfl, by simpa using hown1, hb1⟩
  case round =>
    obtain ⟨k, hk, rfl, rfl, hown, hbr⟩ := hrel
    clear hown1 hb1
    by_cases hlt : k < n
    · go_wp2_with (at_builtin; refine Go.Lib.wpList_append_fits_string _ rfl _ _ 45 9 rfl w.heap.size 5 i0 Tryz.underlying45 Tryz.underlying9 hi hz1 _ k n _ rfl hown ⟨#[c]⟩ rfl (by omega) (by show k + 1 ≤ n; exact hlt) ?_)
      intro w3 hown3 hgrow3
      have hb3 : Below w.heap.size w w3 := hbr.grown hgrow3 (by have := hbr.size; omega) (fun b hb => by simp [Value.ownBlock] at hb; omega)
      have e3 : w3.ownsRow w.heap.size 5 1 (.slice (some ⟨w.heap.size, 0, none⟩) (k + 1) n) (k + 1) (List.replicate (k + 1) (Value.int .u8 ((c.toNat : Nat) : Int))) := by
        rw [List.replicate_succ']; exact hown3
      have HF := Lib.hid (And.intro e3 hb3)
      clear hown3 hgrow3 hb3 e3 hown hbr
      go_wp2_with fail
      go_roundw
      case rel => exact ⟨k + 1, by omega, rfl, by go_num, HF.out.1, HF.out.2⟩
      case measure => simp [intOf]; omega
    · obtain rfl : k = n := by omega
      have hcv := run_convert_bytes_back (P := Tryz.prog) wr 45 9 5 ⟨w.heap.size, 0, none⟩ k (List.replicate k c) Tryz.underlying45 Tryz.underlying5 Tryz.underlying9 (fun j hj => by
        have hj' : j < k := by simpa using hj
        rw [Lib.add_plain, Nat.zero_add, hown.cellAt j (by omega)]
        simp [hj'])
      rw [List.length_replicate] at hcv
      have HB := Lib.hid hbr
      clear hown hbr
      go_wp2_with fail
      go_ret
      exact ⟨rfl, HB.out⟩

/-- "10" k times. -/
def tenL (k : Nat) : List UInt8 := catL (fun _ => [49, 48]) k
theorem tenL_len (k : Nat) : (tenL k).length = k * 2 := catL_len (fun _ _ => rfl)
theorem tenL_bits : ∀ k, IsBits (tenL k)
  | 0 => fun _ h => by simp [tenL, catL] at h
  | k + 1 => fun c h => by
    rcases List.mem_append.1 (show c ∈ tenL k ++ [49, 48] from h) with h | h
    · exact tenL_bits k c h
    · simp at h; rcases h with rfl | rfl <;> simp
theorem tenL_get {k j : Nat} {u : Value} (h : (Lib.byteCells (tenL k))[j]? = some u) (x : UInt8) (hx : (tenL k)[j]? = some x) : u = .int .u8 ((x.toNat : Nat) : Int) := by
  simp [Lib.byteCells, hx] at h; exact h.symm

set_option maxHeartbeats 1600000 in
set_option maxRecDepth 100000 in
/-- Times at "10". -/
theorem times_ten (w : World) :
    Calls Tryz.prog 45 #[.string ⟨#[49, 48]⟩, .int .i64 300] w fun e w' => e = .returned (.string ⟨(tenL 300).toArray⟩) ∧ Below w.heap.size w w' := by
  obtain ⟨i0, hi, hz0, hz1, hz2⟩ := info_parts (show (Tryz.prog.info? 5).map (fun i => (i.zero, i.size, i.bytes)) = some (some (.int .u8 0), 1, 1) by kernel_rfl)
  obtain ⟨T, hT⟩ : ∃ T, (⟨(tenL 300).toArray⟩ : ByteArray) = T := ⟨_, rfl⟩
  rw [hT]
  have HT := Lib.hid hT
  clear hT
  go_enter Tryz.func45, Tryz.ntmps45
  go_wp2_with (at_make; refine wpList_make_own _ rfl _ _ 45 rfl w.heap.size 5 i0 (.int .u8 0) 1 Tryz.underlying45 hi hz0 hz1 _ _ _ 600 rfl rfl (by omega) (by rw [hz2]; omega) (by unfold maxLen; omega) (by simp) ?_)
  intro w1 hown1 hgrow1
  have hb1 : Below w.heap.size w w1 := (Below.refl _ _).grown hgrow1 (by simp) (fun k hk => by cases hk)
  clear hgrow1
  go_wp2_with fail
  go_loopw [5, 6] (fun s5 s6 wr => ∃ k : Nat, k ≤ 300 ∧ s5 = .slice (some ⟨w.heap.size, 0, none⟩) (k * 2) 600 ∧ s6 = .int .i64 (k : Int) ∧ wr.ownsRow w.heap.size 5 1 (.slice (some ⟨w.heap.size, 0, none⟩) (k * 2) 600) (k * 2) (Lib.byteCells (tenL k)) ∧ Below w.heap.size w wr) (fun _ s6 _ => 300 - (intOf s6).toNat)
  case atStart => exact ⟨0, Nat.zero_le _, rfl, rfl, by simpa [tenL, catL, Lib.byteCells] using hown1, hb1⟩
  case round =>
    obtain ⟨k, hk, rfl, rfl, hown, hbr⟩ := hrel
    clear hown1 hb1
    by_cases hlt : k < 300
    · go_wp2_with (at_builtin; refine Go.Lib.wpList_append_fits_string _ rfl _ _ 45 9 rfl w.heap.size 5 i0 Tryz.underlying45 Tryz.underlying9 hi hz1 _ (k * 2) 600 _ rfl hown ⟨#[49, 48]⟩ rfl (by omega) (by show k * 2 + 2 ≤ 600; omega) ?_)
      intro w3 hown3 hgrow3
      have hb3 : Below w.heap.size w w3 := hbr.grown hgrow3 (by have := hbr.size; omega) (fun b hb => by simp [Value.ownBlock] at hb; omega)
      have e3 : w3.ownsRow w.heap.size 5 1 (.slice (some ⟨w.heap.size, 0, none⟩) ((k + 1) * 2) 600) ((k + 1) * 2) (Lib.byteCells (tenL (k + 1))) := by
        have h1 : Lib.byteCells (tenL (k + 1)) = Lib.byteCells (tenL k) ++ Lib.strCells ⟨#[49, 48]⟩ := by
          rw [show tenL (k + 1) = tenL k ++ [49, 48] from rfl]; simp [Lib.byteCells, Lib.strCells]
        rw [h1, show (k + 1) * 2 = k * 2 + 2 by omega]; exact hown3
      have HF := Lib.hid (And.intro e3 hb3)
      clear hown3 hgrow3 hb3 e3 hown hbr
      go_wp2_with fail
      go_roundw
      case rel => exact ⟨k + 1, by omega, by rw [show (k + 1) * 2 = k * 2 + 2 by omega], by go_num, HF.out.1, HF.out.2⟩
      case measure => simp [intOf]; omega
    · obtain rfl : k = 300 := by omega
      have hcv := run_convert_bytes_back (P := Tryz.prog) wr 45 9 5 ⟨w.heap.size, 0, none⟩ 600 (tenL 300) Tryz.underlying45 Tryz.underlying5 Tryz.underlying9 (fun j hj => by
        rw [Lib.add_plain, Nat.zero_add, hown.cellAt j (by rw [tenL_len] at hj; omega)]
        simp [Lib.byteCells, hj])
      rw [tenL_len, HT.out] at hcv
      have HB := Lib.hid hbr
      clear hown hbr
      go_wp2_with fail
      go_ret
      exact ⟨rfl, HB.out⟩

end Go.Proofs.YtgeohcpmoleocaaGreatDoor
