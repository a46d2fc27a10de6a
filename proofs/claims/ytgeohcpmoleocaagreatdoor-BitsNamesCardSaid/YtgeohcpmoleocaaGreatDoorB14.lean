/-
  BitsBack returns true for any texts and any int.
-/
import Derived.Test.YtgeohcpmoleocaaGreatDoorB13
import Derived.Test.YtgeohcpmoleocaaGreatDoorBC
namespace Go.Proofs.YtgeohcpmoleocaaGreatDoor
open Go.RowKit NV
open Go.Lib (decDigits)

theorem wstr_listB (k n : Nat) : (wstr k n).data.toList = wbits k n := by unfold wstr; simp
theorem wstr_sizeB (k n : Nat) : (wstr k n).size = n := by rw [Go.Lib.size_eq, wstr_listB, wbits_len]
theorem wstr_back {b : ByteArray} (hb : IsBits b.data.toList) : wstr (bv b.data.toList) b.size = b := by
  have hlen : b.data.toList.length = b.size := (Go.Lib.size_eq b).symm
  have hlt := bv_lt _ hb
  rw [hlen] at hlt
  apply ByteArray.ext
  apply Array.ext'
  rw [wstr_listB]
  exact bv_inj _ _ (wbits_bits _ _) hb (by rw [wbits_len, hlen]) (wbits_val hlt)

theorem word_cases (s : ByteArray) (n : Int) (hs : s.size ≤ 140737488351232) :
    (∃ a m : Nat, s = dstr a ∧ n = (m : Int) ∧ m ≤ 256 ∧ a < 2 ^ m) ∨
    (∃ c : Int, (c != 0) = true ∧ ∀ W, Tab W → Calls Tryz.prog 40 #[.string s, .int .i64 n] W fun e w' => e = .returned (.tuple #[.string ⟨#[]⟩, .int .i64 c]) ∧ Below W.heap.size W w') := by
  by_cases hc : chk s.data.toList = 0
  · obtain ⟨a, rfl, oa⟩ := text_of_chkB hc
    by_cases hn : n < 0 ∨ 256 < n
    · exact .inr ⟨2, rfl, fun W _ => Word_far oa n hn W⟩
    · obtain ⟨m, rfl⟩ : ∃ m : Nat, n = (m : Int) := ⟨n.toNat, by omega⟩
      by_cases ha : a < 2 ^ m
      · exact .inl ⟨a, m, rfl, rfl, by omega, ha⟩
      · exact .inr ⟨2, rfl, fun W ht => Word_great oa (by omega) ha W ht⟩
  · exact .inr ⟨_, by rw [bne_iff_ne]; omega, fun W _ => Word_form hc hs n W⟩

theorem schk_form3 {s : ByteArray} (h : ¬ IsBits s.data.toList) : schk s = 3 := by unfold schk; rw [bchk_no h, if_pos (by omega)]

set_option maxHeartbeats 3200000 in
set_option maxRecDepth 100000 in
theorem back_long1 (b k : ByteArray) (n : Int) (hb : 256 < b.size) (w : World) (htab : Tab w) :
    Calls Tryz.prog 8 #[.string b, .string k, .int .i64 n] w fun e w' => e = .returned (.bool true) ∧ Below w.heap.size w w' := by
  have HL := Lib.hid (lives3_any w htab)
  clear htab
  go_enter Tryz.func8, Tryz.ntmps8
  go_wp2_with fail
  refine HL.out.mono ?_
  rintro e w1 ⟨rfl, hb1⟩
  have HB := Lib.hid hb1
  clear hb1 HL
  go_wp2_with fail
  go_ret
  exact ⟨rfl, HB.out⟩

set_option maxHeartbeats 3200000 in
set_option maxRecDepth 100000 in
theorem back_long2 (b k : ByteArray) (n : Int) (hb : ¬ 256 < b.size) (hk : 100 < k.size) (w : World) (htab : Tab w) :
    Calls Tryz.prog 8 #[.string b, .string k, .int .i64 n] w fun e w' => e = .returned (.bool true) ∧ Below w.heap.size w w' := by
  have HL := Lib.hid (lives3_any w htab)
  clear htab
  go_enter Tryz.func8, Tryz.ntmps8
  go_wp2_with fail
  refine HL.out.mono ?_
  rintro e w1 ⟨rfl, hb1⟩
  have HB := Lib.hid hb1
  clear hb1 HL
  go_wp2_with fail
  go_ret
  exact ⟨rfl, HB.out⟩

set_option maxHeartbeats 6400000 in
set_option maxRecDepth 100000 in
theorem back_00 (b k : ByteArray) (n : Int) (hb : ¬ 256 < b.size) (hk : ¬ 100 < k.size) (hf : IsBits b.data.toList) (a m : Nat) (hk2 : k = dstr a) (hn : n = (m : Int)) (hm : m ≤ 256) (ha : a < 2 ^ m) (w : World) (htab : Tab w) :
    Calls Tryz.prog 8 #[.string b, .string k, .int .i64 n] w fun e w' => e = .returned (.bool true) ∧ Below w.heap.size w w' := by
  have HL := Lib.hid (lives3_any w htab)
  have hlen : b.data.toList.length = b.size := (Go.Lib.size_eq b).symm
  have hlt := bv_lt _ hf
  rw [hlen] at hlt
  have HN := Lib.hid (fun W (h : Below w.heap.size w W) => Number_ok hf (by omega) W (htab.below h))
  have hwd := fun W (h : Below w.heap.size w W) => Word_ok (a := bv b.data.toList) (n := b.size) (by omega) hlt W (htab.below h)
  rw [wstr_back hf] at hwd
  have HWD := Lib.hid hwd
  generalize dstr (bv b.data.toList) = t1 at *
  clear hwd hlt hlen
  have h1 := fun W (h : Below w.heap.size w W) => Word_ok (a := a) (n := m) hm ha W (htab.below h)
  have h2 := fun W (h : Below w.heap.size w W) => Number_ok (s := wstr a m) (by rw [wstr_listB]; exact wbits_bits _ _) (by rw [wstr_sizeB]; exact hm) W (htab.below h)
  rw [wstr_listB, wbits_val ha, ← hk2] at h2
  rw [← hk2, ← hn] at h1
  have H1 := Lib.hid h1
  have H2 := Lib.hid h2
  have hsz : (((wstr a m).size : Nat) : Int) = n := by rw [wstr_sizeB, hn]
  generalize wstr a m = t2 at *
  have HSZ := Lib.hid hsz
  clear h1 h2 hk2 ha hsz hn hm
  clear htab hf
  go_enter Tryz.func8, Tryz.ntmps8
  go_wp2_with fail
  refine HL.out.mono ?_
  rintro e w1 ⟨rfl, hb1⟩
  have HB := Lib.hid hb1
  clear hb1 HL
  go_wp2_with fail
  refine (HN.out _ HB.out).mono ?_
  rintro e w2 ⟨rfl, hb2⟩
  replace HB := Lib.hid (HB.out.trans (hb2.mono HB.out.size))
  clear hb2 HN
  go_wp2_with fail
  refine (HWD.out _ HB.out).mono ?_
  rintro e w3 ⟨rfl, hb3⟩
  replace HB := Lib.hid (HB.out.trans (hb3.mono HB.out.size))
  clear hb3 HWD
  go_wp2_with fail
  refine (H1.out _ HB.out).mono ?_
  rintro e w4 ⟨rfl, hb4⟩
  replace HB := Lib.hid (HB.out.trans (hb4.mono HB.out.size))
  clear hb4 H1
  go_wp2_with fail
  refine (H2.out _ HB.out).mono ?_
  rintro e w5 ⟨rfl, hb5⟩
  replace HB := Lib.hid (HB.out.trans (hb5.mono HB.out.size))
  clear hb5 H2
  go_wp2_with fail
  go_ret
  exact ⟨ret_bool (by simp [HSZ.out]), HB.out⟩

set_option maxHeartbeats 6400000 in
set_option maxRecDepth 100000 in
theorem back_01 (b k : ByteArray) (n : Int) (hb : ¬ 256 < b.size) (hk : ¬ 100 < k.size) (hf : IsBits b.data.toList) (c : Int) (hc : (c != 0) = true) (hW : ∀ W, Tab W → Calls Tryz.prog 40 #[.string k, .int .i64 n] W fun e w' => e = .returned (.tuple #[.string ⟨#[]⟩, .int .i64 c]) ∧ Below W.heap.size W w') (w : World) (htab : Tab w) :
    Calls Tryz.prog 8 #[.string b, .string k, .int .i64 n] w fun e w' => e = .returned (.bool true) ∧ Below w.heap.size w w' := by
  have HL := Lib.hid (lives3_any w htab)
  have hlen : b.data.toList.length = b.size := (Go.Lib.size_eq b).symm
  have hlt := bv_lt _ hf
  rw [hlen] at hlt
  have HN := Lib.hid (fun W (h : Below w.heap.size w W) => Number_ok hf (by omega) W (htab.below h))
  have hwd := fun W (h : Below w.heap.size w W) => Word_ok (a := bv b.data.toList) (n := b.size) (by omega) hlt W (htab.below h)
  rw [wstr_back hf] at hwd
  have HWD := Lib.hid hwd
  generalize dstr (bv b.data.toList) = t1 at *
  clear hwd hlt hlen
  have H1 := Lib.hid (fun W (h : Below w.heap.size w W) => hW W (htab.below h))
  clear hW
  clear htab hf
  go_enter Tryz.func8, Tryz.ntmps8
  go_wp2_with fail
  refine HL.out.mono ?_
  rintro e w1 ⟨rfl, hb1⟩
  have HB := Lib.hid hb1
  clear hb1 HL
  go_wp2_with fail
  refine (HN.out _ HB.out).mono ?_
  rintro e w2 ⟨rfl, hb2⟩
  replace HB := Lib.hid (HB.out.trans (hb2.mono HB.out.size))
  clear hb2 HN
  go_wp2_with fail
  refine (HWD.out _ HB.out).mono ?_
  rintro e w3 ⟨rfl, hb3⟩
  replace HB := Lib.hid (HB.out.trans (hb3.mono HB.out.size))
  clear hb3 HWD
  go_wp2_with fail
  refine (H1.out _ HB.out).mono ?_
  rintro e w4 ⟨rfl, hb4⟩
  replace HB := Lib.hid (HB.out.trans (hb4.mono HB.out.size))
  clear hb4 H1
  go_wp2_with fail
  go_ret
  exact ⟨rfl, HB.out⟩

set_option maxHeartbeats 6400000 in
set_option maxRecDepth 100000 in
theorem back_10 (b k : ByteArray) (n : Int) (hb : ¬ 256 < b.size) (hk : ¬ 100 < k.size) (hf : ¬ IsBits b.data.toList) (a m : Nat) (hk2 : k = dstr a) (hn : n = (m : Int)) (hm : m ≤ 256) (ha : a < 2 ^ m) (w : World) (htab : Tab w) :
    Calls Tryz.prog 8 #[.string b, .string k, .int .i64 n] w fun e w' => e = .returned (.bool true) ∧ Below w.heap.size w w' := by
  have HL := Lib.hid (lives3_any w htab)
  have HN := Lib.hid (fun W => Number_err (schk_form3 hf) (by omega) (by omega) W)
  have h1 := fun W (h : Below w.heap.size w W) => Word_ok (a := a) (n := m) hm ha W (htab.below h)
  have h2 := fun W (h : Below w.heap.size w W) => Number_ok (s := wstr a m) (by rw [wstr_listB]; exact wbits_bits _ _) (by rw [wstr_sizeB]; exact hm) W (htab.below h)
  rw [wstr_listB, wbits_val ha, ← hk2] at h2
  rw [← hk2, ← hn] at h1
  have H1 := Lib.hid h1
  have H2 := Lib.hid h2
  have hsz : (((wstr a m).size : Nat) : Int) = n := by rw [wstr_sizeB, hn]
  generalize wstr a m = t2 at *
  have HSZ := Lib.hid hsz
  clear h1 h2 hk2 ha hsz hn hm
  clear htab hf
  go_enter Tryz.func8, Tryz.ntmps8
  go_wp2_with fail
  refine HL.out.mono ?_
  rintro e w1 ⟨rfl, hb1⟩
  have HB := Lib.hid hb1
  clear hb1 HL
  go_wp2_with fail
  refine (HN.out _).mono ?_
  rintro e w2 ⟨rfl, hb2⟩
  replace HB := Lib.hid (HB.out.trans (hb2.mono HB.out.size))
  clear hb2 HN
  go_wp2_with fail
  refine (H1.out _ HB.out).mono ?_
  rintro e w4 ⟨rfl, hb4⟩
  replace HB := Lib.hid (HB.out.trans (hb4.mono HB.out.size))
  clear hb4 H1
  go_wp2_with fail
  refine (H2.out _ HB.out).mono ?_
  rintro e w5 ⟨rfl, hb5⟩
  replace HB := Lib.hid (HB.out.trans (hb5.mono HB.out.size))
  clear hb5 H2
  go_wp2_with fail
  go_ret
  exact ⟨ret_bool (by simp [HSZ.out]), HB.out⟩

set_option maxHeartbeats 6400000 in
set_option maxRecDepth 100000 in
theorem back_11 (b k : ByteArray) (n : Int) (hb : ¬ 256 < b.size) (hk : ¬ 100 < k.size) (hf : ¬ IsBits b.data.toList) (c : Int) (hc : (c != 0) = true) (hW : ∀ W, Tab W → Calls Tryz.prog 40 #[.string k, .int .i64 n] W fun e w' => e = .returned (.tuple #[.string ⟨#[]⟩, .int .i64 c]) ∧ Below W.heap.size W w') (w : World) (htab : Tab w) :
    Calls Tryz.prog 8 #[.string b, .string k, .int .i64 n] w fun e w' => e = .returned (.bool true) ∧ Below w.heap.size w w' := by
  have HL := Lib.hid (lives3_any w htab)
  have HN := Lib.hid (fun W => Number_err (schk_form3 hf) (by omega) (by omega) W)
  have H1 := Lib.hid (fun W (h : Below w.heap.size w W) => hW W (htab.below h))
  clear hW
  clear htab hf
  go_enter Tryz.func8, Tryz.ntmps8
  go_wp2_with fail
  refine HL.out.mono ?_
  rintro e w1 ⟨rfl, hb1⟩
  have HB := Lib.hid hb1
  clear hb1 HL
  go_wp2_with fail
  refine (HN.out _).mono ?_
  rintro e w2 ⟨rfl, hb2⟩
  replace HB := Lib.hid (HB.out.trans (hb2.mono HB.out.size))
  clear hb2 HN
  go_wp2_with fail
  refine (H1.out _ HB.out).mono ?_
  rintro e w4 ⟨rfl, hb4⟩
  replace HB := Lib.hid (HB.out.trans (hb4.mono HB.out.size))
  clear hb4 H1
  go_wp2_with fail
  go_ret
  exact ⟨rfl, HB.out⟩

theorem back_any (b k : ByteArray) (n : Int) (w : World) (htab : Tab w) :
    Calls Tryz.prog 8 #[.string b, .string k, .int .i64 n] w fun e w' => e = .returned (.bool true) ∧ Below w.heap.size w w' := by
  by_cases hb : 256 < b.size
  · exact back_long1 b k n hb w htab
  · by_cases hk : 100 < k.size
    · exact back_long2 b k n hb hk w htab
    · by_cases hf : IsBits b.data.toList
      · rcases word_cases k n (by omega) with ⟨a, m, h1, h2, h3, h4⟩ | ⟨c, h1, h2⟩
        · exact back_00 b k n hb hk hf a m h1 h2 h3 h4 w htab
        · exact back_01 b k n hb hk hf c h1 h2 w htab
      · rcases word_cases k n (by omega) with ⟨a, m, h1, h2, h3, h4⟩ | ⟨c, h1, h2⟩
        · exact back_10 b k n hb hk hf a m h1 h2 h3 h4 w htab
        · exact back_11 b k n hb hk hf c h1 h2 w htab

end Go.Proofs.YtgeohcpmoleocaaGreatDoor
