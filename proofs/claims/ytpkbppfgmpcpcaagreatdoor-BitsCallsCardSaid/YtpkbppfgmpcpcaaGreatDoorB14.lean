/-
  BitsBack returns true for any texts and any int.
-/
import Derived.Test.YtpkbppfgmpcpcaaGreatDoorB13
import Derived.Test.YtpkbppfgmpcpcaaGreatDoorBC
namespace Go.Proofs.YtpkbppfgmpcpcaaGreatDoor
open Go.RowKit NV
open Go.Lib (decDigits)

theorem wstr_listB (k n : Nat) : (wstr k n).data.toList = wbits k n := by unfold wstr; simp
theorem wstr_sizeB (k n : Nat) : (wstr k n).size = n := by rw [Go.Lib.size_eq, wstr_listB, wbits_len]
theorem wstr_back {b : ByteArray} (hb : IsBits b.data.toList) : wstr (bv b.data.toList) b.size = b := by
  have hlen : b.data.toList.length = b.size := (Go.Lib.size_eq b).symm
  have hlt := bv_lt _ hb
  rw [hlen] at hlt
  apply ByteArray.ext
  apply Array.ext'
  rw [wstr_listB]
  exact bv_inj _ _ (wbits_bits _ _) hb (by rw [wbits_len, hlen]) (wbits_val hlt)

theorem word_cases (s : ByteArray) (n : Int) (hs : s.size ≤ 140737488351232) :
    (∃ a m : Nat, s = dstr a ∧ n = (m : Int) ∧ m ≤ 256 ∧ a < 2 ^ m) ∨
    (∃ c : Int, (c != 0) = true ∧ ∀ W, Tab W → Calls Tryz.prog 19 #[.string s, .int .i64 n] W fun e w' => e = .returned (.tuple #[.string ⟨#[]⟩, .int .i64 c]) ∧ Below W.heap.size W w') := by
  by_cases hc : chk s.data.toList = 0
  · obtain ⟨a, rfl, oa⟩ := text_of_chkB hc
    by_cases hn : n < 0 ∨ 256 < n
    · exact .inr ⟨2, rfl, fun W _ => Word_far oa n hn W⟩
    · obtain ⟨m, rfl⟩ : ∃ m : Nat, n = (m : Int) := ⟨n.toNat, by omega⟩
      by_cases ha : a < 2 ^ m
      · exact .inl ⟨a, m, rfl, rfl, by omega, ha⟩
      · exact .inr ⟨2, rfl, fun W ht => Word_great oa (by omega) ha W ht⟩
  · exact .inr ⟨_, by rw [bne_iff_ne]; omega, fun W _ => Word_form hc hs n W⟩

theorem schk_form3 {s : ByteArray} (h : ¬ IsBits s.data.toList) : schk s = 3 := by unfold schk; rw [bchk_no h, if_pos (by omega)]

end Go.Proofs.YtpkbppfgmpcpcaaGreatDoor
