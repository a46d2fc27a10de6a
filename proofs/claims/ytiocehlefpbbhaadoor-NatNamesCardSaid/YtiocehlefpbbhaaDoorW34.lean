/-
  The errors of nat's functions, and the texts of the kit's Times.
-/
import Derived.Test.YtiocehlefpbbhaaDoorW33
import Derived.Test.YtiocehlefpbbhaaDoorW25
import Derived.Room.AppendFits
import Derived.WalkSmall
namespace Go.Proofs.YtiocehlefpbbhaaDoor
open Go.RowKit NV
open Go.Lib (decDigits)

set_option maxHeartbeats 1600000 in
set_option maxRecDepth 100000 in
/-- Times at "9": n nines. -/
theorem times_nine (n : Nat) (hn : n ≤ 1000000) (w : World) :
    Calls Tryd.prog 30 #[.string ⟨#[57]⟩, .int .i64 (n : Int)] w fun e w' => e = .returned (.string ⟨(List.replicate n (57 : UInt8)).toArray⟩) ∧ Below w.heap.size w w' := by
  obtain ⟨i0, hi, hz0, hz1, hz2⟩ := info_parts (show (Tryd.prog.info? 5).map (fun i => (i.zero, i.size, i.bytes)) = some (some (.int .u8 0), 1, 1) by kernel_rfl)
  go_enter Tryd.func30, Tryd.ntmps30
  go_wp2_with (at_make; refine wpList_make_own _ rfl _ _ 71 rfl w.heap.size 5 i0 (.int .u8 0) 1 Tryd.underlying71 hi hz0 hz1 _ _ _ n rfl rfl (by omega) (by rw [hz2]; omega) (by unfold maxLen; omega) (by simp) ?_)
  intro w1 hown1 hgrow1
  have hb1 : Below w.heap.size w w1 := (Below.refl _ _).grown hgrow1 (by simp) (fun k hk => by cases hk)
  clear hgrow1
  go_wp2_with fail
  go_loopw [5, 6] (fun s5 s6 wr => ∃ k : Nat, k ≤ n ∧ s5 = .slice (some ⟨w.heap.size, 0, none⟩) k n ∧ s6 = .int .i64 (k : Int) ∧ wr.ownsRow w.heap.size 5 1 (.slice (some ⟨w.heap.size, 0, none⟩) k n) k (List.replicate k (Value.int .u8 57)) ∧ Below w.heap.size w wr) (fun _ s6 _ => n - (intOf s6).toNat)
  case atStart => exact ⟨0, Nat.zero_le _, rfl, rfl, by simpa using hown1, hb1⟩
  case round =>
    obtain ⟨k, hk, rfl, rfl, hown, hbr⟩ := hrel
    clear hown1 hb1
    by_cases hlt : k < n
    · go_wp2_with (at_builtin; refine Go.Lib.wpList_append_fits_string _ rfl _ _ 71 9 rfl w.heap.size 5 i0 Tryd.underlying71 Tryd.underlying9 hi hz1 _ k n _ rfl hown ⟨#[57]⟩ rfl (by omega) (by show k + 1 ≤ n; exact hlt) ?_)
      intro w3 hown3 hgrow3
      have hb3 : Below w.heap.size w w3 := hbr.grown hgrow3 (by have := hbr.size; omega) (fun b hb => by simp [Value.ownBlock] at hb; omega)
      have e3 : w3.ownsRow w.heap.size 5 1 (.slice (some ⟨w.heap.size, 0, none⟩) (k + 1) n) (k + 1) (List.replicate (k + 1) (Value.int .u8 57)) := by
        rw [List.replicate_succ']; exact hown3
      have HF := Lib.hid (And.intro e3 hb3)
      clear hown3 hgrow3 hb3 e3 hown hbr
      go_wp2_with fail
      go_roundw
      case rel => exact ⟨k + 1, by omega, rfl, by go_num, HF.out.1, HF.out.2⟩
      case measure => simp [intOf]; omega
    · obtain rfl : k = n := by omega
      have hcv := run_convert_bytes_back (P := Tryd.prog) wr 71 9 5 ⟨w.heap.size, 0, none⟩ k (List.replicate k (57 : UInt8)) Tryd.underlying71 Tryd.underlying5 Tryd.underlying9 (fun j hj => by
        have hj' : j < k := by simpa using hj
        rw [Lib.add_plain, Nat.zero_add, hown.cellAt j (by omega)]
        simp [hj'])
      rw [List.length_replicate] at hcv
      have HB := Lib.hid hbr
      clear hown hbr
      go_wp2_with fail
      go_ret
      exact ⟨rfl, HB.out⟩

/-- n nines are a numeral. -/
theorem dv_nines : ∀ n, dv (List.replicate n (57 : UInt8)) + 1 = 10 ^ n
  | 0 => rfl
  | n + 1 => by
    have h := dv_nines n
    rw [List.replicate_succ', dv_snoc, Nat.pow_succ, ← h]
    show 10 * dv (List.replicate n 57) + 9 + 1 = _
    omega

theorem digs_nines (n : Nat) : Digs (List.replicate n (57 : UInt8)) := by
  intro c hc
  rw [(List.mem_replicate.1 hc).2]
  decide

theorem nines_str {n : Nat} (hn : 0 < n) : (⟨(List.replicate n (57 : UInt8)).toArray⟩ : ByteArray) = dstr (10 ^ n - 1) := by
  have h := dv_nines n
  rw [dstr, show 10 ^ n - 1 = dv (List.replicate n (57 : UInt8)) by omega, dec_of_digs (by cases n with | zero => omega | succ m => simp [List.replicate_succ]) (digs_nines n) (by
    intro h0
    cases n with
    | zero => omega
    | succ m => rw [List.replicate_succ] at h0; simp at h0)]

set_option maxHeartbeats 800000 in
theorem nines_any (n : Nat) (hn0 : 0 < n) (hn : n ≤ 1000000) (w : World) :
    Calls Tryd.prog 11 #[.int .i64 (n : Int)] w fun e w' => e = .returned (.string (dstr (10 ^ n - 1))) ∧ Below w.heap.size w w' := by
  have HT := Lib.hid (times_nine n hn w)
  rw [nines_str hn0] at HT
  go_enter Tryd.func11, Tryd.ntmps11
  go_wp2_with fail
  refine HT.out.mono ?_
  rintro e w1 ⟨rfl, hb1⟩
  have HB := Lib.hid hb1
  clear hb1
  go_wp2_with fail
  go_ret
  exact ⟨rfl, HB.out⟩

end Go.Proofs.YtiocehlefpbbhaaDoor
