/-
  NatInts returns true for all ints.
-/
import Derived.Test.YtiocehlefpbbhaaDoorR3
import Derived.Test.YtiocehlefpbbhaaDoorW25
namespace Go.Proofs.YtiocehlefpbbhaaDoor
open Go.RowKit NV
open Go.Lib (decDigits)

set_option maxHeartbeats 3200000 in
set_option maxRecDepth 100000 in
theorem ints_neg (m n : Int) (w : World) (htab : Tab w) (hm : m < 0) :
    Calls Tryd.prog 9 #[.int .i64 m, .int .i64 n] w fun e w' => e = .returned (.bool true) ∧ Below w.heap.size w w' := by
  have HL := Lib.hid (lives_any w htab)
  have HF := Lib.hid (FromInt_neg m hm)
  clear htab
  go_enter Tryd.func9, Tryd.ntmps9
  go_wp2_with fail
  refine HL.out.mono ?_
  rintro e w1 ⟨rfl, hb1⟩
  have HB1 := Lib.hid hb1
  clear hb1
  go_wp2_with fail
  refine (HF.out w1).mono ?_
  rintro e w2 ⟨rfl, rfl⟩
  go_wp2_with fail
  go_ret
  exact ⟨rfl, HB1.out⟩

theorem ok_int {a : Nat} (h : a ≤ 9223372036854775807) : Ok a := Nat.le_trans ((dec_len_le (n := a) (k := 19) (by omega)).2 (by omega)) (by omega)

set_option maxHeartbeats 3200000 in
set_option maxRecDepth 100000 in
theorem ints_yes (m : Nat) (n : Int) (w : World) (hm1 : m ≤ 9223372036854775807) (hn0 : -9223372036854775808 ≤ n) (hn1 : n ≤ 9223372036854775807) (htab : Tab w) :
    Calls Tryd.prog 9 #[.int .i64 (m : Int), .int .i64 n] w fun e w' => e = .returned (.bool true) ∧ Below w.heap.size w w' := by
  have HL := Lib.hid (lives_any w htab)
  have HN := Lib.hid (Pick_any n 1073741824 (by omega) (by omega) hn0 hn1)
  have om := ok_int hm1
  have HT := Lib.hid htab
  clear htab hn0 hn1
  go_enter Tryd.func9, Tryd.ntmps9
  go_wp2_with fail
  refine HL.out.mono ?_
  rintro e w1 ⟨rfl, hb1⟩
  have HB1 := Lib.hid hb1
  clear hb1 HL
  go_wp2_with fail
  refine (FromInt_ok m hm1 w1 (HT.out.below HB1.out)).mono ?_
  rintro e w2 ⟨rfl, hb⟩
  have HB2 := Lib.hid (HB1.out.trans (hb.mono HB1.out.size))
  clear hb HB1
  go_wp2_with fail
  refine (ToInt_ok m hm1 w2).mono ?_
  rintro e w3 ⟨rfl, hb⟩
  have HB3 := Lib.hid (HB2.out.trans (hb.mono HB2.out.size))
  clear hb HB2
  have hbm : bl m ≤ 63 := bl_le 63 m (by omega)
  go_wp2
  go_loop [9, 10] (fun b k => ∃ (c j : Nat), b = .int .i64 ((c : Nat) : Int) ∧ k = .int .i64 ((j : Nat) : Int) ∧ Hid (c + bl j = bl m) ∧ j ≤ m) (fun _ k => (intOf k).toNat)
  case atStart => exact ⟨0, m, rfl, rfl, Lib.hid (by omega), Nat.le_refl _⟩
  case round =>
    obtain ⟨c, j, rfl, rfl, hsum, hjm⟩ := hrel
    have hcb : c ≤ bl m := by have := hsum.out; omega
    by_cases hj : 0 < j
    · have hh := Lib.hid (bl_half (n := j) (by omega))
      go_wp2_with fail
      go_round
      case rel => exact ⟨c + 1, j / 2, by go_num, by go_num, Lib.hid (by have := hsum.out; have := hh.out; omega), by omega⟩
      case measure => simp [intOf]; omega
    · obtain rfl : j = 0 := by omega
      have hc : c = bl m := by have := hsum.out; rw [bl_zero] at this; omega
      subst hc
      have HBM := Lib.hid hbm
      clear hcb hbm
      obtain ⟨bm, hbm0⟩ : ∃ bm, bm = bl m := ⟨_, rfl⟩
      rw [← hbm0]
      have HBits := Bits_ok m om w3
      rw [← hbm0] at HBits
      have HBT := Lib.hid HBits
      clear HBits hbm0
      go_wp2_with fail
      refine HBT.out.mono ?_
      rintro e w4 ⟨rfl, hb⟩
      have HB4 := Lib.hid (HB3.out.trans (hb.mono HB3.out.size))
      clear hb HBT
      obtain ⟨p, hp⟩ : ∃ p, p = m % 1073741824 := ⟨_, rfl⟩
      have hp1 : p < 1073741824 := by rw [hp]; exact Nat.mod_lt _ (by omega)
      have hpt : ((m : Int).tmod 1073741824) = (p : Int) := by rw [hp]; rfl
      go_wp2_with fail
      refine (HN.out w4).mono ?_
      rintro e w5 ⟨⟨q, hq, rfl⟩, rfl⟩
      have hq1 : q < 1073741824 := by omega
      clear hq HN
      have hpm : (m : Int) % 1073741824 = (p : Int) := by rw [hp]; simp
      have HPM := Lib.hid hpm
      have hcm : (cmpN p q = -1 ∧ p < q) ∨ (cmpN p q = 0 ∧ p = q) ∨ (cmpN p q = 1 ∧ q < p) := by
        rcases Nat.lt_trichotomy p q with h | h | h
        · exact .inl ⟨cmpN_lt h, h⟩
        · subst h; exact .inr (.inl ⟨cmpN_eq p, rfl⟩)
        · exact .inr (.inr ⟨cmpN_gt h, h⟩)
      have HCM := Lib.hid hcm
      have op := ok_int (a := p) (by omega)
      have oq := ok_int (a := q) (by omega)
      have ospq := ok_int (a := p + q) (by omega)
      obtain ⟨n1, n2, n3⟩ := nat_prod p q 1073741824 1073741824 (by omega) (by omega)
      have n4 : p * q ≤ 1152921504606846976 := Nat.le_trans (Nat.mul_le_mul (Nat.le_of_lt hp1) (Nat.le_of_lt hq1)) (by omega)
      have ompq := ok_int (a := p * q) (by omega)
      have N3 := Lib.hid n3
      clear hp hpt hpm hcm n3
      go_wp2_with fail
      rw [HPM.out]
      refine (FromInt_ok p (by omega) _ (HT.out.below HB4.out)).mono ?_
      rintro e W5 ⟨rfl, hb⟩
      have HB5 := Lib.hid (HB4.out.trans (hb.mono HB4.out.size))
      clear hb HB4
      go_wp2_with fail
      refine (FromInt_ok q (by omega) _ (HT.out.below HB5.out)).mono ?_
      rintro e W6 ⟨rfl, hb⟩
      have HB6 := Lib.hid (HB5.out.trans (hb.mono HB5.out.size))
      clear hb HB5
      go_wp2_with fail
      refine (sum_ok p q op oq ospq _ (HT.out.below HB6.out)).mono ?_
      rintro e W7 ⟨rfl, hb⟩
      have HB7 := Lib.hid (HB6.out.trans (hb.mono HB6.out.size))
      clear hb HB6
      go_wp2_with fail
      refine (ToInt_ok (p + q) (by omega) _).mono ?_
      rintro e W8 ⟨rfl, hb⟩
      have HB8 := Lib.hid (HB7.out.trans (hb.mono HB7.out.size))
      clear hb HB7
      go_wp2_with fail
      refine (product_ok p q op oq ompq _ (HT.out.below HB8.out)).mono ?_
      rintro e W9 ⟨rfl, hb⟩
      have HB9 := Lib.hid (HB8.out.trans (hb.mono HB8.out.size))
      clear hb HB8
      go_wp2_with fail
      refine (ToInt_ok (p * q) (by omega) _).mono ?_
      rintro e W10 ⟨rfl, hb⟩
      have HB10 := Lib.hid (HB9.out.trans (hb.mono HB9.out.size))
      clear hb HB9
      go_wp2_with fail
      have HC1 := Lib.hid (Cmp_ok p q op oq)
      obtain ⟨d, hd⟩ : ∃ d, d = p / q := ⟨_, rfl⟩
      obtain ⟨r, hr⟩ : ∃ r, r = p % q := ⟨_, rfl⟩
      have hdp : d ≤ p := by rw [hd]; exact Nat.div_le_self _ _
      have hrp : r ≤ p := by rw [hr]; exact Nat.mod_le _ _
      have D1 : (p : Int) / (q : Int) = (d : Int) := by rw [hd]; simp
      have D2 : (p : Int) % (q : Int) = (r : Int) := by rw [hr]; simp
      have HDM := Lib.hid (fun (h0 : q ≠ 0) (W : World) (h : Tab W) => by have := DivMod_ok p q op oq h0 W h; rw [← hd, ← hr] at this; exact this)
      clear hd hr
      rcases (show (cmpN p q = -1 ∧ p < q) ∨ (cmpN p q = 0 ∧ (p ≤ q ∧ q ≤ p)) ∨ (cmpN p q = 1 ∧ q < p) by have := HCM.out; omega) with ⟨hcv, hlt⟩ | ⟨hcv, hlt, hlt2⟩ | ⟨hcv, hlt⟩
      all_goals
        rw [hcv] at HC1
        clear hcv HCM
        refine (HC1.out _).mono ?_
        rintro e W11 ⟨rfl, hb⟩
        have HB11 := Lib.hid (HB10.out.trans (hb.mono HB10.out.size))
        clear hb HB10
        go_wp2_with fail
        refine (HC1.out _).mono ?_
        rintro e W12 ⟨rfl, hb⟩
        have HB12 := Lib.hid (HB11.out.trans (hb.mono HB11.out.size))
        clear hb HB11 HC1
        by_cases hq0 : q = 0
        · first
          | omega
          | subst hq0
            go_wp2_with fail
            go_ret
            exact ⟨rfl, HB12.out⟩
        · have HD := Lib.hid (HDM.out hq0)
          have hq2 : (0 : Int) < (q : Int) := by omega
          clear HDM
          go_wp2_with fail
          refine (HD.out _ (HT.out.below HB12.out)).mono ?_
          rintro e W13 ⟨rfl, hb⟩
          have HB13 := Lib.hid (HB12.out.trans (hb.mono HB12.out.size))
          clear hb HB12 HD
          go_wp2_with fail
          refine (ToInt_ok d (by omega) _).mono ?_
          rintro e W14 ⟨rfl, hb⟩
          have HB14 := Lib.hid (HB13.out.trans (hb.mono HB13.out.size))
          clear hb HB13
          go_wp2_with fail
          refine (ToInt_ok r (by omega) _).mono ?_
          rintro e W15 ⟨rfl, hb⟩
          have HB15 := Lib.hid (HB14.out.trans (hb.mono HB14.out.size))
          clear hb HB14
          go_wp2_with fail
          go_ret
          exact ⟨rfl, HB15.out⟩

end Go.Proofs.YtiocehlefpbbhaaDoor
