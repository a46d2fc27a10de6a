/-
  BitsHalves returns true for every text.
-/
import Derived.Test.YtgeohcpmoleocaaGreatDoorB11
namespace Go.Proofs.YtgeohcpmoleocaaGreatDoor
open Go.RowKit NV
open Go.Lib (decDigits)

set_option maxHeartbeats 800000 in
theorem Cell_err {s : ByteArray} {c : Nat} (hc : schk s = c) (h0 : c ≠ 0) (hs : s.size ≤ 140737488351232) (w : World) :
    Calls Tryz.prog 44 #[.string s] w fun e w' => e = .returned (.tuple #[.string ⟨#[]⟩, .string ⟨#[]⟩, .int .i64 ((c : Nat) : Int)]) ∧ Below w.heap.size w w' := by
  have h := checkShort_any s w hs
  rw [hc] at h
  have HC := Lib.hid h
  have hne : (((c : Nat) : Int) != 0) = true := by rw [bne_iff_ne]; omega
  clear h hc h0
  go_enter Tryz.func44, Tryz.ntmps44
  go_wp2_with fail
  refine HC.out.mono ?_
  rintro e w1 ⟨rfl, rfl⟩
  clear HC
  go_wp2_with fail
  go_ret3
  exact ⟨rfl, Below.refl _ _⟩

theorem cQ_half (k n : Nat) : cQ (2 * k) (n + 1) = cQ k n := by
  have hd : (2 ^ n : Nat) ≠ 0 := Nat.pos_iff_ne_zero.1 (Nat.pow_pos (by omega))
  unfold cQ mkQ
  simp only [Bool.false_eq_true, if_false]
  have h := Rat.mkRat_mul_right (n := (k : Int)) (d := 2 ^ n) (a := 2) (by omega)
  rw [← h, Nat.pow_succ]
  congr 1
  rw [Int.natCast_mul, Int.mul_comm]

theorem app_one (b : ByteArray) (c : UInt8) : (b ++ (⟨#[c]⟩ : ByteArray)).data.toList = b.data.toList ++ [c] := by rw [ByteArray.data_append, Array.toList_append]
theorem app_size (b : ByteArray) (c : UInt8) : (b ++ (⟨#[c]⟩ : ByteArray)).size = b.size + 1 := by rw [ByteArray.size_append]; rfl
theorem bits_app {b : ByteArray} {c : UInt8} (hc : c = 48 ∨ c = 49) : IsBits (b ++ (⟨#[c]⟩ : ByteArray)).data.toList ↔ IsBits b.data.toList := by
  rw [app_one]
  constructor
  · intro h x hx; exact h x (List.mem_append.2 (.inl hx))
  · intro h x hx
    rcases List.mem_append.1 hx with hx | hx
    · exact h x hx
    · rw [List.mem_singleton] at hx; rw [hx]; exact hc
theorem schk_form {s : ByteArray} (h : ¬ IsBits s.data.toList) : schk s = 3 := by unfold schk; rw [bchk_no h, if_pos (by omega)]

set_option maxHeartbeats 3200000 in
set_option maxRecDepth 100000 in
theorem halves_long (b : ByteArray) (hb : 256 ≤ b.size) (w : World) (htab : Tab w) :
    Calls Tryz.prog 7 #[.string b] w fun e w' => e = .returned (.bool true) ∧ Below w.heap.size w w' := by
  have HL := Lib.hid (lives3_any w htab)
  clear htab
  go_enter Tryz.func7, Tryz.ntmps7
  go_wp2_with fail
  refine HL.out.mono ?_
  rintro e w1 ⟨rfl, hb1⟩
  have HB := Lib.hid hb1
  clear hb1 HL
  go_wp2_with fail
  go_ret
  exact ⟨rfl, HB.out⟩

set_option maxHeartbeats 3200000 in
set_option maxRecDepth 100000 in
theorem halves_form (b : ByteArray) (hb : b.size < 256) (hf : ¬ IsBits b.data.toList) (w : World) (htab : Tab w) :
    Calls Tryz.prog 7 #[.string b] w fun e w' => e = .returned (.bool true) ∧ Below w.heap.size w w' := by
  have HL := Lib.hid (lives3_any w htab)
  have H0 := Lib.hid (fun W => Cell_err (schk_form hf) (by omega) (by omega) W)
  have H1 := Lib.hid (fun W => Cell_err (s := b ++ (⟨#[48]⟩ : ByteArray)) (schk_form (fun h => hf ((bits_app (.inl rfl)).1 h))) (by omega) (by rw [app_size]; omega) W)
  have H2 := Lib.hid (fun W => Cell_err (s := b ++ (⟨#[49]⟩ : ByteArray)) (schk_form (fun h => hf ((bits_app (.inr rfl)).1 h))) (by omega) (by rw [app_size]; omega) W)
  have hck := fun W => bCheck_any b W (by omega)
  rw [bchk_no hf] at hck
  have HK := Lib.hid hck
  clear htab hf hck
  go_enter Tryz.func7, Tryz.ntmps7
  go_wp2_with fail
  refine HL.out.mono ?_
  rintro e w1 ⟨rfl, hb1⟩
  have HB := Lib.hid hb1
  clear hb1 HL
  go_wp2_with fail
  refine (H0.out _).mono ?_
  rintro e w2 ⟨rfl, hb2⟩
  replace HB := Lib.hid (HB.out.trans (hb2.mono HB.out.size))
  clear hb2 H0
  go_wp2_with fail
  refine (H1.out _).mono ?_
  rintro e w3 ⟨rfl, hb3⟩
  replace HB := Lib.hid (HB.out.trans (hb3.mono HB.out.size))
  clear hb3 H1
  go_wp2_with fail
  refine (H2.out _).mono ?_
  rintro e w4 ⟨rfl, hb4⟩
  replace HB := Lib.hid (HB.out.trans (hb4.mono HB.out.size))
  clear hb4 H2
  go_wp2_with fail
  refine (HK.out _).mono ?_
  rintro e w5 ⟨rfl, rfl⟩
  clear HK
  go_wp2_with fail
  go_ret
  exact ⟨rfl, HB.out⟩

set_option maxHeartbeats 3200000 in
set_option maxRecDepth 100000 in
theorem halves_bits (b : ByteArray) (hb : b.size < 256) (hf : IsBits b.data.toList) (w : World) (htab : Tab w) :
    Calls Tryz.prog 7 #[.string b] w fun e w' => e = .returned (.bool true) ∧ Below w.heap.size w w' := by
  have HL := Lib.hid (lives3_any w htab)
  obtain ⟨k, hk⟩ : ∃ k, k = bv b.data.toList := ⟨_, rfl⟩
  obtain ⟨n, hn⟩ : ∃ n, n = b.size := ⟨_, rfl⟩
  have hlt : k < 2 ^ n := by rw [hk, hn, Go.Lib.size_eq]; exact bv_lt _ hf
  have hp : (2 : Nat) ^ (n + 1) = 2 * 2 ^ n := by rw [Nat.pow_succ]; omega
  have h0 := fun W (h : Below w.heap.size w W) => Cell_ok hf (by omega) W (htab.below h)
  have h1 := fun W (h : Below w.heap.size w W) => Cell_ok (s := b ++ (⟨#[48]⟩ : ByteArray)) ((bits_app (.inl rfl)).2 hf) (by rw [app_size]; omega) W (htab.below h)
  have h2 := fun W (h : Below w.heap.size w W) => Cell_ok (s := b ++ (⟨#[49]⟩ : ByteArray)) ((bits_app (.inr rfl)).2 hf) (by rw [app_size]; omega) W (htab.below h)
  rw [← hk, ← hn] at h0
  rw [app_one, app_size, bv_append, ← hk, ← hn, show bv [48] = 0 from rfl, show k * 2 ^ [(48 : UInt8)].length + 0 = 2 * k by simp; omega, cQ_half] at h1
  rw [app_one, app_size, bv_append, ← hk, ← hn, show bv [49] = 1 from rfl, show k * 2 ^ [(49 : UInt8)].length + 1 = 2 * k + 1 by simp; omega] at h2
  have a1 := fun W => rq_done (rAdd_q W (cQ_ok (k := 1) (n := n + 1) (by omega) Nat.one_le_two_pow) (cQ_ok (k := 1) (n := n + 1) (by omega) Nat.one_le_two_pow)) (show cQ 1 (n + 1) + cQ 1 (n + 1) = cQ 1 n by rw [cQ_add, cQ_half 1 n]) (cQ_ok (by omega) Nat.one_le_two_pow)
  have a2 := fun W => rq_done (rAdd_q W (cQ_ok (k := k) (n := n) (by omega) (by omega)) (cQ_ok (k := 1) (n := n + 1) (by omega) Nat.one_le_two_pow)) (show cQ k n + cQ 1 (n + 1) = cQ (2 * k + 1) (n + 1) by rw [← cQ_half k n, cQ_add]) (cQ_ok (by omega) (by omega))
  have H0 := Lib.hid h0
  have H1 := Lib.hid h1
  have H2 := Lib.hid h2
  have A1 := Lib.hid a1
  have A2 := Lib.hid a2
  generalize qstr (cQ k n) = t1 at *
  generalize qstr (cQ 1 n) = t2 at *
  generalize qstr (cQ 1 (n + 1)) = t3 at *
  generalize qstr (cQ (2 * k + 1) (n + 1)) = t4 at *
  clear htab hf h0 h1 h2 a1 a2 hk hlt hp hn
  go_enter Tryz.func7, Tryz.ntmps7
  go_wp2_with fail
  refine HL.out.mono ?_
  rintro e w1 ⟨rfl, hb1⟩
  have HB := Lib.hid hb1
  clear hb1 HL
  go_wp2_with fail
  refine (H0.out _ HB.out).mono ?_
  rintro e w2 ⟨rfl, hb2⟩
  replace HB := Lib.hid (HB.out.trans (hb2.mono HB.out.size))
  clear hb2 H0
  go_wp2_with fail
  refine (H1.out _ HB.out).mono ?_
  rintro e w3 ⟨rfl, hb3⟩
  replace HB := Lib.hid (HB.out.trans (hb3.mono HB.out.size))
  clear hb3 H1
  go_wp2_with fail
  refine (H2.out _ HB.out).mono ?_
  rintro e w4 ⟨rfl, hb4⟩
  replace HB := Lib.hid (HB.out.trans (hb4.mono HB.out.size))
  clear hb4 H2
  go_wp2_with fail
  refine (A1.out _).mono ?_
  rintro e w5 ⟨rfl, hb5⟩
  replace HB := Lib.hid (HB.out.trans (hb5.mono HB.out.size))
  clear hb5 A1
  go_wp2_with fail
  refine (A2.out _).mono ?_
  rintro e w6 ⟨rfl, hb6⟩
  replace HB := Lib.hid (HB.out.trans (hb6.mono HB.out.size))
  clear hb6 A2
  go_wp2_with fail
  go_ret
  exact ⟨ret_bool (by simp), HB.out⟩

theorem halves_any (b : ByteArray) (w : World) (htab : Tab w) :
    Calls Tryz.prog 7 #[.string b] w fun e w' => e = .returned (.bool true) ∧ Below w.heap.size w w' := by
  by_cases h : 256 ≤ b.size
  · exact halves_long b h w htab
  · by_cases hf : IsBits b.data.toList
    · exact halves_bits b (by omega) hf w htab
    · exact halves_form b (by omega) hf w htab

end Go.Proofs.YtgeohcpmoleocaaGreatDoor
