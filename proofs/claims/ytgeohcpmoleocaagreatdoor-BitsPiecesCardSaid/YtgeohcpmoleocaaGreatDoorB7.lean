/-
  Check, checkShort and Cell of bits.
-/
import Derived.Test.YtgeohcpmoleocaaGreatDoorB4
import Derived.Test.YtgeohcpmoleocaaGreatDoorGG
import Derived.Test.YtgeohcpmoleocaaGreatDoorHR
namespace Go.Proofs.YtgeohcpmoleocaaGreatDoor
open Go.RowKit NV
open Go.Lib (decDigits)

def bitsB (l : List UInt8) : Bool := l.all (fun c => c == 48 || c == 49)
theorem bitsB_iff {l : List UInt8} : bitsB l = true ↔ IsBits l := by
  unfold bitsB IsBits
  rw [List.all_eq_true]
  constructor
  · intro h c hc
    have := h c hc
    simpa using this
  · intro h c hc
    have := h c hc
    simpa using this
/-- What Check returns. -/
def bchk (l : List UInt8) : Nat := if bitsB l then 0 else 3
theorem bchk_yes {l : List UInt8} (h : IsBits l) : bchk l = 0 := if_pos (bitsB_iff.2 h)
theorem bchk_no {l : List UInt8} (h : ¬ IsBits l) : bchk l = 3 := if_neg (fun e => h (bitsB_iff.1 e))

set_option maxHeartbeats 1600000 in
theorem bCheck_any (s : ByteArray) (w : World) (hs : s.size ≤ 140737488351232) :
    Calls Tryz.prog 48 #[.string s] w fun e w' => e = .returned (.int .i64 ((bchk s.data.toList : Nat) : Int)) ∧ w = w' := by
  have HSZ := Lib.hid (Go.Lib.size_eq s)
  go_enter Tryz.func48, Tryz.ntmps48
  go_wp2_with fail
  go_loop [6] (fun i => ∃ k : Nat, k ≤ s.size ∧ i = .int .i64 (k : Int) ∧ Hid (IsBits (s.data.toList.take k))) (fun i => s.size - (intOf i).toNat)
  case atStart => exact ⟨0, Nat.zero_le _, rfl, Lib.hid (fun c h => by simp at h)⟩
  case round =>
    obtain ⟨k, hk, rfl, HN⟩ := hrel
    by_cases hlt : k < s.size
    · have hb := byte_at s k hlt
      have hlen : k < s.data.toList.length := by rw [← HSZ.out]; exact hlt
      have htk : s.data.toList.take (k + 1) = s.data.toList.take k ++ [s[k]] := by
        rw [List.take_add_one, hb]; rfl
      by_cases hc : s[k] = 48 ∨ s[k] = 49
      · have HN2 := Lib.hid (show IsBits (s.data.toList.take (k + 1)) from fun c h => by
          rw [htk] at h
          rcases List.mem_append.1 h with h | h
          · exact HN.out c h
          · rw [List.mem_singleton] at h; rw [h]; exact hc)
        clear hb htk
        rcases hc with hc | hc
        · have h48 : ((((s[k]).toNat : Nat) : Int) != 48) = false := by rw [hc]; rfl
          clear hc
          go_wp2_with fail
          go_round
          case rel => exact ⟨k + 1, by omega, by go_num, HN2⟩
          case measure => simp [intOf]; omega
        · have h48 : ((((s[k]).toNat : Nat) : Int) != 48) = true := by rw [hc]; rfl
          have h49 : ((((s[k]).toNat : Nat) : Int) != 49) = false := by rw [hc]; rfl
          clear hc
          go_wp2_with fail
          go_round
          case rel => exact ⟨k + 1, by omega, by go_num, HN2⟩
          case measure => simp [intOf]; omega
      · have h48 : ((((s[k]).toNat : Nat) : Int) != 48) = true := by
          rw [bne_iff_ne]; intro e; apply hc; left; apply UInt8.toNat_inj.1; show _ = 48; omega
        have h49 : ((((s[k]).toNat : Nat) : Int) != 49) = true := by
          rw [bne_iff_ne]; intro e; apply hc; right; apply UInt8.toNat_inj.1; show _ = 49; omega
        have HR := Lib.hid (show (3 : Int) = ((bchk s.data.toList : Nat) : Int) by
          rw [bchk_no (fun h => hc (h s[k] (by
            have := List.getElem?_eq_some_iff.1 hb
            obtain ⟨h1, h2⟩ := this
            rw [← h2]; exact List.getElem_mem h1)))]; rfl)
        clear hb htk hc
        go_wp2_with fail
        go_ret
        exact ⟨ret_int HR.out, rfl⟩
    · obtain rfl : k = s.size := by omega
      have HR := Lib.hid (show (0 : Int) = ((bchk s.data.toList : Nat) : Int) by
        rw [bchk_yes (by have := HN.out; rw [HSZ.out, List.take_length] at this; exact this)]; rfl)
      go_wp2_with fail
      go_ret
      exact ⟨ret_int HR.out, rfl⟩

/-- What checkShort returns. -/
def schk (s : ByteArray) : Nat := if bchk s.data.toList ≠ 0 then 3 else if 256 < s.size then 4 else 0

set_option maxHeartbeats 1600000 in
theorem checkShort_any (s : ByteArray) (w : World) (hs : s.size ≤ 140737488351232) :
    Calls Tryz.prog 108 #[.string s] w fun e w' => e = .returned (.int .i64 ((schk s : Nat) : Int)) ∧ w = w' := by
  have HC := Lib.hid (bCheck_any s w hs)
  by_cases hb : IsBits s.data.toList
  · rw [bchk_yes hb] at HC
    by_cases hz : 256 < s.size
    · have HR := Lib.hid (show (4 : Int) = ((schk s : Nat) : Int) by unfold schk; rw [bchk_yes hb, if_neg (by omega), if_pos hz]; rfl)
      clear hb
      go_enter Tryz.func108, Tryz.ntmps108
      go_wp2_with fail
      refine HC.out.mono ?_
      rintro e w1 ⟨rfl, rfl⟩
      clear HC
      go_wp2_with fail
      go_ret
      exact ⟨ret_int HR.out, rfl⟩
    · have HR := Lib.hid (show (0 : Int) = ((schk s : Nat) : Int) by unfold schk; rw [bchk_yes hb, if_neg (by omega), if_neg hz]; rfl)
      clear hb
      go_enter Tryz.func108, Tryz.ntmps108
      go_wp2_with fail
      refine HC.out.mono ?_
      rintro e w1 ⟨rfl, rfl⟩
      clear HC
      go_wp2_with fail
      go_ret
      exact ⟨ret_int HR.out, rfl⟩
  · rw [bchk_no hb] at HC
    have HR := Lib.hid (show (3 : Int) = ((schk s : Nat) : Int) by unfold schk; rw [bchk_no hb, if_pos (by omega)]; rfl)
    clear hb
    go_enter Tryz.func108, Tryz.ntmps108
    go_wp2_with fail
    refine HC.out.mono ?_
    rintro e w1 ⟨rfl, rfl⟩
    clear HC
    go_wp2_with fail
    go_ret
    exact ⟨ret_int HR.out, rfl⟩

theorem schk_ok {s : ByteArray} (hb : IsBits s.data.toList) (hs : s.size ≤ 256) : schk s = 0 := by
  unfold schk; rw [bchk_yes hb, if_neg (by omega), if_neg (by omega)]

end Go.Proofs.YtgeohcpmoleocaaGreatDoor
