/-
  NatNames returns true.
-/
import Derived.Test.YtiocehlefpbbhaaDoorR5
import Derived.Test.YtiocehlefpbbhaaDoorW35
namespace Go.Proofs.YtiocehlefpbbhaaDoor
open Go.RowKit NV
open Go.Lib (decDigits)

theorem lit1 : (⟨#[49]⟩ : ByteArray) = dstr 1 := dstr_lit (l := [49]) (by decide +kernel) (by decide +kernel)
theorem ok1 : Ok 1 := lit_ok (l := [49]) (by decide +kernel) (by decide +kernel) (by simp)
theorem is1 : ((dstr 1).toList == [49]) = true := by rw [lit_list (l := [49]) (by decide +kernel) (by decide +kernel)]; rfl
theorem lit2 : (⟨#[50]⟩ : ByteArray) = dstr 2 := dstr_lit (l := [50]) (by decide +kernel) (by decide +kernel)
theorem ok2 : Ok 2 := lit_ok (l := [50]) (by decide +kernel) (by decide +kernel) (by simp)
theorem is2 : ((dstr 2).toList == [50]) = true := by rw [lit_list (l := [50]) (by decide +kernel) (by decide +kernel)]; rfl
theorem lit0 : (⟨#[48]⟩ : ByteArray) = dstr 0 := dstr_lit (l := [48]) (by decide +kernel) (by decide +kernel)
theorem ok0 : Ok 0 := lit_ok (l := [48]) (by decide +kernel) (by decide +kernel) (by simp)
theorem is0 : ((dstr 0).toList == [48]) = true := by rw [lit_list (l := [48]) (by decide +kernel) (by decide +kernel)]; rfl
theorem lit5 : (⟨#[53]⟩ : ByteArray) = dstr 5 := dstr_lit (l := [53]) (by decide +kernel) (by decide +kernel)
theorem ok5 : Ok 5 := lit_ok (l := [53]) (by decide +kernel) (by decide +kernel) (by simp)
theorem is5 : ((dstr 5).toList == [53]) = true := by rw [lit_list (l := [53]) (by decide +kernel) (by decide +kernel)]; rfl
theorem lit8 : (⟨#[56]⟩ : ByteArray) = dstr 8 := dstr_lit (l := [56]) (by decide +kernel) (by decide +kernel)
theorem ok8 : Ok 8 := lit_ok (l := [56]) (by decide +kernel) (by decide +kernel) (by simp)
theorem is8 : ((dstr 8).toList == [56]) = true := by rw [lit_list (l := [56]) (by decide +kernel) (by decide +kernel)]; rfl
theorem lit10 : (⟨#[49, 48]⟩ : ByteArray) = dstr 10 := dstr_lit (l := [49, 48]) (by decide +kernel) (by decide +kernel)
theorem ok10 : Ok 10 := lit_ok (l := [49, 48]) (by decide +kernel) (by decide +kernel) (by simp)
theorem is10 : ((dstr 10).toList == [49, 48]) = true := by rw [lit_list (l := [49, 48]) (by decide +kernel) (by decide +kernel)]; rfl
theorem lit21 : (⟨#[50, 49]⟩ : ByteArray) = dstr 21 := dstr_lit (l := [50, 49]) (by decide +kernel) (by decide +kernel)
theorem ok21 : Ok 21 := lit_ok (l := [50, 49]) (by decide +kernel) (by decide +kernel) (by simp)
theorem is21 : ((dstr 21).toList == [50, 49]) = true := by rw [lit_list (l := [50, 49]) (by decide +kernel) (by decide +kernel)]; rfl
theorem lit462 : (⟨#[52, 54, 50]⟩ : ByteArray) = dstr 462 := dstr_lit (l := [52, 54, 50]) (by decide +kernel) (by decide +kernel)
theorem ok462 : Ok 462 := lit_ok (l := [52, 54, 50]) (by decide +kernel) (by decide +kernel) (by simp)
theorem is462 : ((dstr 462).toList == [52, 54, 50]) = true := by rw [lit_list (l := [52, 54, 50]) (by decide +kernel) (by decide +kernel)]; rfl
theorem lit1071 : (⟨#[49, 48, 55, 49]⟩ : ByteArray) = dstr 1071 := dstr_lit (l := [49, 48, 55, 49]) (by decide +kernel) (by decide +kernel)
theorem ok1071 : Ok 1071 := lit_ok (l := [49, 48, 55, 49]) (by decide +kernel) (by decide +kernel) (by simp)
theorem is1071 : ((dstr 1071).toList == [49, 48, 55, 49]) = true := by rw [lit_list (l := [49, 48, 55, 49]) (by decide +kernel) (by decide +kernel)]; rfl
theorem lit999999999 : (⟨#[57, 57, 57, 57, 57, 57, 57, 57, 57]⟩ : ByteArray) = dstr 999999999 := dstr_lit (l := [57, 57, 57, 57, 57, 57, 57, 57, 57]) (by decide +kernel) (by decide +kernel)
theorem ok999999999 : Ok 999999999 := lit_ok (l := [57, 57, 57, 57, 57, 57, 57, 57, 57]) (by decide +kernel) (by decide +kernel) (by simp)
theorem is999999999 : ((dstr 999999999).toList == [57, 57, 57, 57, 57, 57, 57, 57, 57]) = true := by rw [lit_list (l := [57, 57, 57, 57, 57, 57, 57, 57, 57]) (by decide +kernel) (by decide +kernel)]; rfl
theorem lit1000000000 : (⟨#[49, 48, 48, 48, 48, 48, 48, 48, 48, 48]⟩ : ByteArray) = dstr 1000000000 := dstr_lit (l := [49, 48, 48, 48, 48, 48, 48, 48, 48, 48]) (by decide +kernel) (by decide +kernel)
theorem ok1000000000 : Ok 1000000000 := lit_ok (l := [49, 48, 48, 48, 48, 48, 48, 48, 48, 48]) (by decide +kernel) (by decide +kernel) (by simp)
theorem is1000000000 : ((dstr 1000000000).toList == [49, 48, 48, 48, 48, 48, 48, 48, 48, 48]) = true := by rw [lit_list (l := [49, 48, 48, 48, 48, 48, 48, 48, 48, 48]) (by decide +kernel) (by decide +kernel)]; rfl
theorem lit9223372036854775807 : (⟨#[57, 50, 50, 51, 51, 55, 50, 48, 51, 54, 56, 53, 52, 55, 55, 53, 56, 48, 55]⟩ : ByteArray) = dstr 9223372036854775807 := dstr_lit (l := [57, 50, 50, 51, 51, 55, 50, 48, 51, 54, 56, 53, 52, 55, 55, 53, 56, 48, 55]) (by decide +kernel) (by decide +kernel)
theorem ok9223372036854775807 : Ok 9223372036854775807 := lit_ok (l := [57, 50, 50, 51, 51, 55, 50, 48, 51, 54, 56, 53, 52, 55, 55, 53, 56, 48, 55]) (by decide +kernel) (by decide +kernel) (by simp)
theorem is9223372036854775807 : ((dstr 9223372036854775807).toList == [57, 50, 50, 51, 51, 55, 50, 48, 51, 54, 56, 53, 52, 55, 55, 53, 56, 48, 55]) = true := by rw [lit_list (l := [57, 50, 50, 51, 51, 55, 50, 48, 51, 54, 56, 53, 52, 55, 55, 53, 56, 48, 55]) (by decide +kernel) (by decide +kernel)]; rfl
theorem lit9223372036854775808 : (⟨#[57, 50, 50, 51, 51, 55, 50, 48, 51, 54, 56, 53, 52, 55, 55, 53, 56, 48, 56]⟩ : ByteArray) = dstr 9223372036854775808 := dstr_lit (l := [57, 50, 50, 51, 51, 55, 50, 48, 51, 54, 56, 53, 52, 55, 55, 53, 56, 48, 56]) (by decide +kernel) (by decide +kernel)
theorem ok9223372036854775808 : Ok 9223372036854775808 := lit_ok (l := [57, 50, 50, 51, 51, 55, 50, 48, 51, 54, 56, 53, 52, 55, 55, 53, 56, 48, 56]) (by decide +kernel) (by decide +kernel) (by simp)
theorem is9223372036854775808 : ((dstr 9223372036854775808).toList == [57, 50, 50, 51, 51, 55, 50, 48, 51, 54, 56, 53, 52, 55, 55, 53, 56, 48, 56]) = true := by rw [lit_list (l := [57, 50, 50, 51, 51, 55, 50, 48, 51, 54, 56, 53, 52, 55, 55, 53, 56, 48, 56]) (by decide +kernel) (by decide +kernel)]; rfl

theorem range_lit : Lib.atoiAll (decDigits 9223372036854775808) = .range := by
  have h := lit_list (n := 9223372036854775808) (l := [57, 50, 50, 51, 51, 55, 50, 48, 51, 54, 56, 53, 52, 55, 55, 53, 56, 48, 56]) (by decide +kernel) (by decide +kernel)
  rw [Go.Lib.toList_data, dstr_list] at h
  rw [h]
  decide +kernel

theorem ten_pos (k : Nat) : 0 < 10 ^ k := Nat.pow_pos (by omega)

theorem ok_iffk {k : Nat} (hk : k = 4000) (n : Nat) : Ok n ↔ n < 10 ^ k := by subst hk; exact ok_iff n

theorem big_ok {k : Nat} (hk : k = 4000) : Ok (10 ^ k - 1) := (ok_iffk hk _).2 (Nat.sub_lt (ten_pos k) Nat.one_pos)

theorem ten_over {k : Nat} (hk : k = 4000) : ¬ Ok (10 ^ k) := fun h => Nat.lt_irrefl _ ((ok_iffk hk _).1 h)

theorem big_over {k : Nat} (hk : k = 4000) : ¬ Ok (10 ^ k - 1 + 1) := by
  rw [Nat.sub_add_cancel (ten_pos k)]; exact ten_over hk

theorem ten_ok {k j : Nat} (hk : k = 4000) (hj : j < k) : Ok (10 ^ j) := (ok_iffk hk _).2 (Nat.pow_lt_pow_right (by omega) hj)

theorem ten_len {j : Nat} (hj : j = 3999) : (dstr (10 ^ j)).size = 4000 := by
  have h1 := (dec_len_le (n := 10 ^ j) (k := j + 1) (by omega)).2 (Nat.pow_lt_pow_right (by omega) (by omega))
  have h2 : ¬ (decDigits (10 ^ j)).length ≤ j := fun h => absurd ((dec_len_le (n := 10 ^ j) (k := j) (by omega)).1 h) (Nat.lt_irrefl _)
  rw [dstr_size]
  generalize (decDigits (10 ^ j)).length = l at *
  omega

theorem two_over {k m : Nat} (hk : k = 4000) (hm : 4 * k ≤ m) : ¬ Ok (2 ^ m) := by
  rw [ok_iffk hk]
  have h1 : 10 ^ k ≤ 16 ^ k := Nat.pow_le_pow_left (by omega) _
  have h2 : (16 : Nat) ^ k = 2 ^ (4 * k) := by rw [show (16 : Nat) = 2 ^ 4 by rfl, ← Nat.pow_mul]
  have h3 : 2 ^ (4 * k) ≤ 2 ^ m := Nat.pow_le_pow_right (by omega) hm
  rw [h2] at h1
  exact Nat.not_lt.2 (Nat.le_trans h1 h3)

theorem long_over {k j : Nat} (hk : k = 4000) (hj : j = k + 1) : chk (decDigits (10 ^ j - 1)) = 5 := by
  rw [chk_dec, if_pos]
  have h : ¬ (decDigits (10 ^ j - 1)).length ≤ k := fun h => absurd ((dec_len_le (n := 10 ^ j - 1) (k := k) (by omega)).1 h) (Nat.not_lt.2 (Nat.le_sub_one_of_lt (Nat.pow_lt_pow_right (by omega) (by omega))))
  generalize (decDigits (10 ^ j - 1)).length = l at *
  omega

set_option maxHeartbeats 12800000 in
set_option maxRecDepth 100000 in
/-- NatNames returns true. -/
theorem names_any (w : World) (htab : Tab w) (hev : EV w) :
    Calls Tryd.prog 3 #[] w fun e w' => e = .returned (.bool true) ∧ Below w.heap.size w w' := by
  obtain ⟨K, hK⟩ : ∃ K : Nat, K = 4000 := ⟨_, rfl⟩
  obtain ⟨J, hJ⟩ : ∃ J : Nat, J = 3999 := ⟨_, rfl⟩
  obtain ⟨K1, hK1⟩ : ∃ K1 : Nat, K1 = 4001 := ⟨_, rfl⟩
  have eK : ((K : Nat) : Int) = 4000 := by rw [hK]; rfl
  have eJ : ((J : Nat) : Int) = 3999 := by rw [hJ]; rfl
  have eK1 : ((K1 : Nat) : Int) = 4001 := by rw [hK1]; rfl
  obtain ⟨N, hN⟩ : ∃ N : Nat, N = 10 ^ K - 1 := ⟨_, rfl⟩
  obtain ⟨P, hP⟩ : ∃ P : Nat, P = 10 ^ J := ⟨_, rfl⟩
  obtain ⟨M, hM⟩ : ∃ M : Nat, M = 9223372036854775807 := ⟨_, rfl⟩
  obtain ⟨L, hL⟩ : ∃ L : Nat, L = 10 ^ K1 - 1 := ⟨_, rfl⟩
  have eM : ((M : Nat) : Int) = 9223372036854775807 := by rw [hM]; rfl
  have oN : Ok N := by rw [hN]; exact big_ok hK
  have oN1 : ¬ Ok (N + 1) := by rw [hN]; exact big_over hK
  have hPs : (dstr P).size = 4000 := by rw [hP]; exact ten_len hJ
  have HL := Lib.hid (lives_any w htab)
  have HNI := Lib.hid (fun (W : World) => by have := nines_any K (by omega) (by omega) W; rw [← hN, eK] at this; exact this)
  have HNL := Lib.hid (fun (W : World) => by have := nines_any K1 (by omega) (by omega) W; rw [← hL, eK1] at this; exact this)
  have HA1 := Lib.hid (fun (W : World) (h : Tab W) => Add_ok 999999999 1 ok999999999 ok1 ok1000000000 W h)
  have HS1 := Lib.hid (fun (W : World) (h : Tab W) => Sub_ok 1000000000 1 ok1000000000 ok1 (by omega) W h)
  have HS2 := Lib.hid (fun (W : World) => Sub_low 1 2 ok1 ok2 (by omega) W)
  have HA2 := Lib.hid (fun (W : World) => Add_over N 1 oN ok1 oN1 W)
  have HS3 := Lib.hid (fun (W : World) (h : Tab W) => by have := Sub_ok N N oN oN (Nat.le_refl _) W h; rw [Nat.sub_self] at this; exact this)
  have HG1 := Lib.hid (fun (W : World) (h : Tab W) => by have := Gcd_ok 462 1071 ok462 ok1071 W h; rw [show Nat.gcd 462 1071 = 21 by decide +kernel] at this; exact this)
  have HG2 := Lib.hid (fun (W : World) (h : Tab W) => by have := Gcd_ok 0 5 ok0 ok5 W h; rw [Nat.gcd_zero_left] at this; exact this)
  have HG3 := Lib.hid (fun (W : World) (h : Tab W) => by have := Gcd_ok 0 0 ok0 ok0 W h; rw [Nat.gcd_zero_left] at this; exact this)
  have HP1 := Lib.hid (fun (W : World) (h : Tab W) => by have := Pow_ok 0 0 ok0 (by omega) (by rw [Nat.pow_zero]; exact ok1) W h; rw [Nat.pow_zero] at this; exact this)
  have HP2 := Lib.hid (fun (W : World) => by have := Pow_over 10 K ok10 (by omega) (ten_over hK) W; rw [eK] at this; exact this)
  have HP3 := Lib.hid (fun (W : World) (h : Tab W) => by have := Pow_ok 10 J ok10 (by omega) (ten_ok hK (by omega)) W h; rw [← hP, eJ] at this; exact this)
  have HP4 := Lib.hid (fun (W : World) => Pow_neg 10 (-1) ok10 (by omega) W)
  have HI1 := Lib.hid (fun (W : World) => by have := ToInt_ok M (by omega) W; rw [eM, hM] at this; exact this)
  have HI2 := Lib.hid (fun (W : World) (h : EV W) => ToInt_over 9223372036854775808 ok9223372036854775808 range_lit W h)
  have HB8 := Lib.hid (fun (W : World) => by have := Bits_ok 8 ok8 W; rw [show bl 8 = 4 by decide +kernel] at this; exact this)
  have HDZ := Lib.hid (fun (W : World) => DivMod_zero 5 ok5 W)
  have HM1 := Lib.hid (fun (W : World) (h : Tab W) => by have := Mul_ok N 1 oN ok1 (by rw [Nat.mul_one]; exact oN) W h; rw [Nat.mul_one] at this; exact this)
  have HP5 := Lib.hid (fun (W : World) (h : Tab W) => by have := Pow_ok 1 M ok1 (by omega) (by rw [Nat.one_pow]; exact ok1) W h; rw [Nat.one_pow, eM] at this; exact this)
  have HP6 := Lib.hid (fun (W : World) (h : Tab W) => by have := Pow_ok 0 M ok0 (by omega) (by rw [Nat.zero_pow (by omega)]; exact ok0) W h; rw [Nat.zero_pow (by omega), eM] at this; exact this)
  have HP7 := Lib.hid (fun (W : World) => by have := Pow_over 2 M ok2 (by omega) (two_over hK (by omega)) W; rw [eM] at this; exact this)
  have HC1 := Lib.hid (fun (W : World) => by have := check_any ⟨#[48, 48, 55]⟩ W (by decide); rw [show chk (⟨#[48, 48, 55]⟩ : ByteArray).data.toList = 3 by decide +kernel] at this; exact this)
  have HC2 := Lib.hid (fun (W : World) => by have := check_any ⟨#[]⟩ W (by decide); rw [show chk (⟨#[]⟩ : ByteArray).data.toList = 3 by decide +kernel] at this; exact this)
  have HC3 := Lib.hid (fun (W : World) => by have := check_any ⟨#[48]⟩ W (by decide); rw [show chk (⟨#[48]⟩ : ByteArray).data.toList = 0 by decide +kernel] at this; exact this)
  have HC4 := Lib.hid (fun (W : World) => by have := check_any ⟨#[45, 49]⟩ W (by decide); rw [show chk (⟨#[45, 49]⟩ : ByteArray).data.toList = 3 by decide +kernel] at this; exact this)
  have HC5 := Lib.hid (fun (W : World) => by
    have := check_any (dstr L) W (by rw [dstr_size]; have := (dec_len_le (n := L) (k := K1) (by omega)).2 (by rw [hL]; exact Nat.sub_lt (ten_pos K1) Nat.one_pos); omega)
    rw [dstr_list, hL, long_over hK (by omega), ← hL] at this
    exact this)
  have HCX := Lib.hid (fun (W : World) => Cmp_bad ⟨#[120]⟩ ⟨#[49]⟩ (by decide) (by decide) (by decide +kernel) W)
  have i0 := is0
  have i1 := is1
  have i5 := is5
  have i21 := is21
  have iS := is999999999
  have iA := is1000000000
  have HT := Lib.hid htab
  have HE := Lib.hid hev
  clear htab hev hN hP hM hL eM oN oN1 hK hJ hK1 eK eJ eK1
  go_enter Tryd.func3, Tryd.ntmps3

  go_wp2_with fail
  refine (HL.out).mono ?_
  rintro e W1 ⟨rfl, hb⟩
  have HB1 := Lib.hid hb
  clear hb
  go_wp2_with fail
  refine (HNI.out _).mono ?_
  rintro e W2 ⟨rfl, hb⟩
  have HB2 := Lib.hid (HB1.out.trans (hb.mono HB1.out.size))
  clear hb HB1
  go_wp2_with fail
  rw [lit999999999, lit1]
  refine (HA1.out _ (HT.out.below HB2.out)).mono ?_
  rintro e W3 ⟨rfl, hb⟩
  have HB3 := Lib.hid (HB2.out.trans (hb.mono HB2.out.size))
  clear hb HB2
  go_wp2_with fail
  rw [lit1000000000, lit1]
  refine (HS1.out _ (HT.out.below HB3.out)).mono ?_
  rintro e W4 ⟨rfl, hb⟩
  have HB4 := Lib.hid (HB3.out.trans (hb.mono HB3.out.size))
  clear hb HB3
  go_wp2_with fail
  rw [lit1, lit2]
  refine (HS2.out _).mono ?_
  rintro e W5 ⟨rfl, hb⟩
  have HB5 := Lib.hid (HB4.out.trans (hb.mono HB4.out.size))
  clear hb HB4
  go_wp2_with fail
  rw [lit1]
  refine (HA2.out _).mono ?_
  rintro e W6 ⟨rfl, hb⟩
  have HB6 := Lib.hid (HB5.out.trans (hb.mono HB5.out.size))
  clear hb HB5
  go_wp2_with fail
  refine (HS3.out _ (HT.out.below HB6.out)).mono ?_
  rintro e W7 ⟨rfl, hb⟩
  have HB7 := Lib.hid (HB6.out.trans (hb.mono HB6.out.size))
  clear hb HB6
  go_wp2_with fail
  rw [lit462, lit1071]
  refine (HG1.out _ (HT.out.below HB7.out)).mono ?_
  rintro e W8 ⟨rfl, hb⟩
  have HB8 := Lib.hid (HB7.out.trans (hb.mono HB7.out.size))
  clear hb HB7
  go_wp2_with fail
  rw [lit0, lit5]
  refine (HG2.out _ (HT.out.below HB8.out)).mono ?_
  rintro e W9 ⟨rfl, hb⟩
  have HB9 := Lib.hid (HB8.out.trans (hb.mono HB8.out.size))
  clear hb HB8
  go_wp2_with fail
  rw [lit0]
  refine (HG3.out _ (HT.out.below HB9.out)).mono ?_
  rintro e W10 ⟨rfl, hb⟩
  have HB10 := Lib.hid (HB9.out.trans (hb.mono HB9.out.size))
  clear hb HB9
  go_wp2_with fail
  rw [lit0]
  refine (HP1.out _ (HT.out.below HB10.out)).mono ?_
  rintro e W11 ⟨rfl, hb⟩
  have HB11 := Lib.hid (HB10.out.trans (hb.mono HB10.out.size))
  clear hb HB10
  go_wp2_with fail
  rw [lit10]
  refine (HP2.out _).mono ?_
  rintro e W12 ⟨rfl, hb⟩
  have HB12 := Lib.hid (HB11.out.trans (hb.mono HB11.out.size))
  clear hb HB11
  go_wp2_with fail
  rw [lit10]
  refine (HP3.out _ (HT.out.below HB12.out)).mono ?_
  rintro e W13 ⟨rfl, hb⟩
  have HB13 := Lib.hid (HB12.out.trans (hb.mono HB12.out.size))
  clear hb HB12
  go_wp2_with fail
  rw [lit10]
  refine (HP4.out _).mono ?_
  rintro e V ⟨rfl, rfl⟩
  go_wp2_with fail
  rw [lit9223372036854775807]
  refine (HI1.out _).mono ?_
  rintro e W14 ⟨rfl, hb⟩
  have HB14 := Lib.hid (HB13.out.trans (hb.mono HB13.out.size))
  clear hb HB13
  go_wp2_with fail
  rw [lit9223372036854775808]
  refine (HI2.out _ (HE.out.below HB14.out)).mono ?_
  rintro e W15 ⟨rfl, hb⟩
  have HB15 := Lib.hid (HB14.out.trans (hb.mono HB14.out.size))
  clear hb HB14
  go_wp2_with fail
  rw [lit8]
  refine (HB8.out _).mono ?_
  rintro e W16 ⟨rfl, hb⟩
  have HB16 := Lib.hid (HB15.out.trans (hb.mono HB15.out.size))
  clear hb HB15
  go_wp2_with fail
  rw [lit5, lit0]
  refine (HDZ.out _).mono ?_
  rintro e W17 ⟨rfl, hb⟩
  have HB17 := Lib.hid (HB16.out.trans (hb.mono HB16.out.size))
  clear hb HB16
  go_wp2_with fail
  rw [lit1]
  refine (HM1.out _ (HT.out.below HB17.out)).mono ?_
  rintro e W18 ⟨rfl, hb⟩
  have HB18 := Lib.hid (HB17.out.trans (hb.mono HB17.out.size))
  clear hb HB17
  go_wp2_with fail
  rw [lit1]
  refine (HP5.out _ (HT.out.below HB18.out)).mono ?_
  rintro e W19 ⟨rfl, hb⟩
  have HB19 := Lib.hid (HB18.out.trans (hb.mono HB18.out.size))
  clear hb HB18
  go_wp2_with fail
  rw [lit0]
  refine (HP6.out _ (HT.out.below HB19.out)).mono ?_
  rintro e W20 ⟨rfl, hb⟩
  have HB20 := Lib.hid (HB19.out.trans (hb.mono HB19.out.size))
  clear hb HB19
  go_wp2_with fail
  rw [lit2]
  refine (HP7.out _).mono ?_
  rintro e W21 ⟨rfl, hb⟩
  have HB21 := Lib.hid (HB20.out.trans (hb.mono HB20.out.size))
  clear hb HB20
  go_wp2_with fail
  refine (HC1.out _).mono ?_
  rintro e V ⟨rfl, rfl⟩
  go_wp2_with fail
  refine (HC2.out _).mono ?_
  rintro e V ⟨rfl, rfl⟩
  go_wp2_with fail
  refine (HC3.out _).mono ?_
  rintro e V ⟨rfl, rfl⟩
  go_wp2_with fail
  refine (HC4.out _).mono ?_
  rintro e V ⟨rfl, rfl⟩
  go_wp2_with fail
  refine (HNL.out _).mono ?_
  rintro e W22 ⟨rfl, hb⟩
  have HB22 := Lib.hid (HB21.out.trans (hb.mono HB21.out.size))
  clear hb HB21
  go_wp2_with fail
  refine (HC5.out _).mono ?_
  rintro e V ⟨rfl, rfl⟩
  go_wp2_with fail
  refine (HCX.out _).mono ?_
  rintro e W23 ⟨rfl, hb⟩
  have HB23 := Lib.hid (HB22.out.trans (hb.mono HB22.out.size))
  clear hb HB22
  go_wp2_with fail
  go_ret
  exact ⟨rfl, HB23.out⟩

end Go.Proofs.YtiocehlefpbbhaaDoor
