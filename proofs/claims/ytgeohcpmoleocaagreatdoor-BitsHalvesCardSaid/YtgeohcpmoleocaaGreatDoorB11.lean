/-
  BitsAll returns true for every int.
-/
import Derived.Test.YtgeohcpmoleocaaGreatDoorB10
import Derived.Test.YtgeohcpmoleocaaGreatDoorHD
namespace Go.Proofs.YtgeohcpmoleocaaGreatDoor
open Go.RowKit NV
open Go.Lib (decDigits)

theorem cQ_add (k n : Nat) : cQ k n + cQ 1 n = cQ (k + 1) n := by
  have hd : (2 ^ n : Nat) ≠ 0 := Nat.pos_iff_ne_zero.1 (Nat.pow_pos (by omega))
  unfold cQ mkQ
  simp only [Bool.false_eq_true, if_false]
  rw [Rat.mkRat_add_mkRat _ _ hd hd, ← Int.add_mul, Rat.mkRat_mul_right hd]
  rfl
theorem cQ_zero (n : Nat) : cQ 0 n = 0 := by unfold cQ; exact mkQ_zero _ _
theorem cQ_full (n : Nat) : cQ (2 ^ n) n = 1 := by
  have hd : (2 ^ n : Nat) ≠ 0 := Nat.pos_iff_ne_zero.1 (Nat.pow_pos (by omega))
  unfold cQ mkQ
  simp only [Bool.false_eq_true, if_false]
  have h := Rat.mkRat_mul_right (n := 1) (d := 1) hd
  rw [Int.one_mul, Nat.one_mul] at h
  rw [h]; rfl

theorem wstr_list (k n : Nat) : (wstr k n).data.toList = wbits k n := by unfold wstr; simp
theorem wstr_size (k n : Nat) : (wstr k n).size = n := by rw [Go.Lib.size_eq, wstr_list, wbits_len]

theorem cells_lt {w : World} {p : Addr} {v : Value} (h : w.cell? p = some v) : p.block < w.heap.size := by
  obtain ⟨o, ho, _⟩ := cells_of_cell h
  exact (Array.getElem?_eq_some_iff.1 ho).1

set_option maxHeartbeats 3200000 in
theorem all_out (n : Int) (hn : n < 0 ∨ 12 < n) (w : World) (htab : Tab w) :
    Calls Tryz.prog 6 #[.int .i64 n] w fun e w' => e = .returned (.bool true) ∧ Below w.heap.size w w' := by
  have HL := Lib.hid (lives3_any w htab)
  have HA := Lib.hid (fun W => All_no n hn W)
  clear htab
  rcases hn with hn | hn
  · go_enter Tryz.func6, Tryz.ntmps6
    go_wp2_with fail
    refine HL.out.mono ?_
    rintro e w1 ⟨rfl, hb1⟩
    have HB := Lib.hid hb1
    clear hb1 HL
    go_wp2_with fail
    refine (HA.out _).mono ?_
    rintro e w2 ⟨rfl, rfl⟩
    clear HA
    go_wp2_with fail
    go_ret
    exact ⟨rfl, HB.out⟩
  · have h0 : ¬ n < 0 := by omega
    go_enter Tryz.func6, Tryz.ntmps6
    go_wp2_with fail
    refine HL.out.mono ?_
    rintro e w1 ⟨rfl, hb1⟩
    have HB := Lib.hid hb1
    clear hb1 HL
    go_wp2_with fail
    refine (HA.out _).mono ?_
    rintro e w2 ⟨rfl, rfl⟩
    clear HA
    go_wp2_with fail
    go_ret
    exact ⟨rfl, HB.out⟩

set_option maxHeartbeats 6400000 in
set_option maxRecDepth 100000 in
theorem all_in (n : Nat) (hn : n ≤ 12) (w : World) (htab : Tab w) :
    Calls Tryz.prog 6 #[.int .i64 (n : Int)] w fun e w' => e = .returned (.bool true) ∧ Below w.heap.size w w' := by
  have HL := Lib.hid (lives3_any w htab)
  have HA := Lib.hid (fun W => All_any n hn W)
  obtain ⟨N, hN⟩ : ∃ N, N = 2 ^ n := ⟨_, rfl⟩
  have hN2 : N ≤ 4096 := by rw [hN]; exact Nat.pow_le_pow_right (n := 2) (by omega) hn
  have HSH := Lib.hid (show wrap64 ((2 : Int) ^ n) = ((N : Nat) : Int) by
    have h : ((2 : Int) ^ n) = ((N : Nat) : Int) := by rw [hN]; simp
    rw [h]; unfold wrap64; omega)
  have HCE := Lib.hid (fun (k : Nat) (hk : k < N) W (h : Below w.heap.size w W) => by
    have hb : IsBits (wstr k n).data.toList := by rw [wstr_list]; exact wbits_bits k n
    have h1 := Cell_ok hb (by rw [wstr_size]; omega) W (htab.below h)
    rw [wstr_list, wbits_val (by rw [← hN]; exact hk), wstr_size] at h1
    exact h1)
  have HCK := Lib.hid (fun (k : Nat) W => by
    have h1 := bCheck_any (wstr k n) W (by rw [wstr_size]; omega)
    rw [bchk_yes (by rw [wstr_list]; exact wbits_bits k n)] at h1
    exact h1)
  have HAD := Lib.hid (fun (k : Nat) (hk : k < N) W => rq_done (rAdd_q W (cQ_ok (k := k) (n := n) (by omega) (by omega)) (cQ_ok (k := 1) (n := n) (by omega) Nat.one_le_two_pow)) (cQ_add k n) (cQ_ok (by omega) (by omega)))
  have HSZ := Lib.hid (fun k => wstr_size k n)
  have hz : qstr (cQ 0 n) = ⟨#[48]⟩ := by rw [cQ_zero]; exact qstr_zero
  have ho : qstr (cQ N n) = ⟨#[49]⟩ := by rw [hN, cQ_full]; exact qstr_one
  have HZ := Lib.hid hz
  have HO := Lib.hid ho
  rw [← hN] at HA
  clear hN hz ho htab
  go_enter Tryz.func6, Tryz.ntmps6
  go_wp2_with fail
  refine HL.out.mono ?_
  rintro e w1 ⟨rfl, hb1⟩
  have HB := Lib.hid hb1
  clear hb1 HL
  go_wp2_with fail
  refine (HA.out _).mono ?_
  rintro e w2 ⟨g, rfl, hg, har, hb2⟩
  have HAR := Lib.hid har
  replace HB := Lib.hid (HB.out.trans (hb2.mono HB.out.size))
  clear hg har hb2 HA
  have hsh := HSH.out
  go_wp2_with fail
  clear hsh
  go_loopw [5, 6, 7] (fun e s i wr => ∃ (k : Nat) (z : ByteArray), k ≤ N ∧ i = .int .i64 (k : Int) ∧ e = .string (qstr (cQ k n)) ∧ s = .string z ∧ Hid (k ≠ 0 → z = qstr (cQ 1 n)) ∧ Below w2.heap.size w2 wr) (fun _ _ i _ => N - (intOf i).toNat)
  case atStart => exact ⟨0, _, Nat.zero_le _, rfl, by rw [HZ.out], rfl, Lib.hid (fun h => absurd rfl h), Below.refl _ _⟩
  case round =>
    obtain ⟨k, z, hk, rfl, rfl, rfl, hzz, hbr⟩ := hrel
    by_cases hlt : k < N
    · have hbw := HB.out.trans (hbr.mono HB.out.size)
      have c1 := (HAR.out.below hbr HAR.out.lt).cell hlt
      have HC1 := Lib.hid (HCE.out k hlt _ hbw)
      have HK1 := Lib.hid (HCK.out k)
      have HA1 := Lib.hid (HAD.out k hlt)
      have HBR := Lib.hid hbr
      have hsz := HSZ.out k
      have HNX := Lib.hid (show Hid (k + 1 ≠ 0 → qstr (cQ 1 n) = qstr (cQ 1 n)) from Lib.hid (fun _ => rfl))
      clear hbr hbw HCE HCK HAD HSZ
      have hkz : k = 0 ∨ k ≠ 0 := by omega
      obtain ⟨t3, ht3⟩ : ∃ t3, t3 = qstr (cQ (k + 1) n) := ⟨_, rfl⟩
      have HT3 := Lib.hid ht3
      rw [← ht3] at HA1
      clear ht3
      generalize qstr (cQ k n) = t1 at *
      obtain ⟨t2, ht2⟩ : ∃ t2, t2 = qstr (cQ 1 n) := ⟨_, rfl⟩
      have HT2 := Lib.hid ht2
      rw [← ht2] at HA1 HC1 hzz
      clear ht2 HNX
      obtain ⟨s, hs⟩ : ∃ s, s = wstr k n := ⟨_, rfl⟩
      rw [← hs] at c1 HC1 HK1 hsz
      clear hs
      rcases hkz with hk0 | hk0
      · have hpos : ¬ ((0 : Int) < (k : Int)) := by omega
        have HKK := Lib.hid hk0
        clear hk0 hzz
        go_wp2_with fail
        refine HC1.out.mono ?_
        rintro e w3 ⟨rfl, hb3⟩
        have HB3 := Lib.hid (HBR.out.trans (hb3.mono HBR.out.size))
        have c2 := (hb3.cell (p := ⟨g, k, none⟩) (cells_lt c1)).trans c1
        clear hb3 c1 HC1
        go_wp2_with fail
        refine (HK1.out _).mono ?_
        rintro e w4 ⟨rfl, rfl⟩
        clear HK1
        go_wp2_with fail
        refine (HA1.out _).mono ?_
        rintro e w5 ⟨rfl, hb5⟩
        have HB5 := Lib.hid (HB3.out.trans (hb5.mono HB3.out.size))
        clear hb5 HA1
        go_wp2_with fail
        go_roundw
        case rel => exact ⟨k + 1, t2, by omega, by go_num, by rw [HT3.out], rfl, Lib.hid (fun _ => HT2.out), HB5.out⟩
        case measure => simp [intOf]; omega
      · obtain rfl := hzz.out hk0
        have hpos : ((0 : Int) < (k : Int)) := by omega
        clear hk0 hzz
        go_wp2_with fail
        refine HC1.out.mono ?_
        rintro e w3 ⟨rfl, hb3⟩
        have HB3 := Lib.hid (HBR.out.trans (hb3.mono HBR.out.size))
        have c2 := (hb3.cell (p := ⟨g, k, none⟩) (cells_lt c1)).trans c1
        clear hb3 c1 HC1
        go_wp2_with fail
        refine (HK1.out _).mono ?_
        rintro e w4 ⟨rfl, rfl⟩
        clear HK1
        go_wp2_with fail
        refine (HA1.out _).mono ?_
        rintro e w5 ⟨rfl, hb5⟩
        have HB5 := Lib.hid (HB3.out.trans (hb5.mono HB3.out.size))
        clear hb5 HA1
        go_wp2_with fail
        go_roundw
        case rel => exact ⟨k + 1, z, by omega, by go_num, by rw [HT3.out], rfl, Lib.hid (fun _ => HT2.out), HB5.out⟩
        case measure => simp [intOf]; omega
    · obtain rfl : k = N := by omega
      have ho := lit_eq [49] (qstr (cQ k n)) (by rw [HO.out])
      have HBR := Lib.hid hbr
      clear hbr hzz
      generalize qstr (cQ k n) = t1 at *
      go_wp2_with fail
      go_ret
      exact ⟨rfl, HB.out.trans (HBR.out.mono HB.out.size)⟩

theorem bitsAll_any (n : Int) (w : World) (htab : Tab w) :
    Calls Tryz.prog 6 #[.int .i64 n] w fun e w' => e = .returned (.bool true) ∧ Below w.heap.size w w' := by
  by_cases h : 0 ≤ n ∧ n ≤ 12
  · obtain ⟨k, rfl⟩ : ∃ k : Nat, n = (k : Int) := ⟨n.toNat, by omega⟩
    exact all_in k (by omega) w htab
  · exact all_out n (by omega) w htab

end Go.Proofs.YtgeohcpmoleocaaGreatDoor
