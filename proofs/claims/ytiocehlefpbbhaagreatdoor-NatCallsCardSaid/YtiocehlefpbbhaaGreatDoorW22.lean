/-
  The statements' own helpers: lives, sum, product and valid.
-/
import Derived.Test.YtiocehlefpbbhaaGreatDoorW21
namespace Go.Proofs.YtiocehlefpbbhaaGreatDoor
open Go.RowKit NV
open Go.Lib (decDigits)

/-- A literal text is a number's numeral. -/
theorem dstr_lit {l : List UInt8} {n : Nat} (h : dv l = n) (hb : badB l = false) : (⟨l.toArray⟩ : ByteArray) = dstr n := by
  obtain ⟨h1, h2, h3⟩ := good_parts hb
  rw [dstr, ← h, dec_of_digs h1 h2 h3]

theorem lit_list {l : List UInt8} {n : Nat} (h : dv l = n) (hb : badB l = false) : (dstr n).toList = l := by
  rw [← dstr_lit h hb, Go.Lib.toList_data]

theorem lit_ok {l : List UInt8} {n : Nat} (h : dv l = n) (hb : badB l = false) (hl : l.length ≤ 4000) : Ok n := by
  have := lit_list h hb
  rw [Go.Lib.toList_data, dstr_list] at this
  unfold Ok; rw [this]; exact hl

set_option maxHeartbeats 3200000 in
set_option maxRecDepth 100000 in
/-- lives returns true. -/
theorem lives_any (w : World) (htab : Tab w) : Calls Tryz.prog 4 #[] w fun e w' => e = .returned (.bool true) ∧ Below w.heap.size w w' := by
  obtain ⟨p, hp⟩ : ∃ p : Nat, p = 1000000007 := ⟨_, rfl⟩
  obtain ⟨q, hq⟩ : ∃ q : Nat, q = 1000000009 := ⟨_, rfl⟩
  obtain ⟨m, hm⟩ : ∃ m : Nat, m = 1000000016000000063 := ⟨_, rfl⟩
  obtain ⟨c, hc⟩ : ∃ c : Nat, c = 1000000016000000070 := ⟨_, rfl⟩
  obtain ⟨t, ht⟩ : ∃ t : Nat, t = 1267650600228229401496703205376 := ⟨_, rfl⟩
  have lp : dv [49, 48, 48, 48, 48, 48, 48, 48, 48, 55] = p := by rw [hp]; decide +kernel
  have lq : dv [49, 48, 48, 48, 48, 48, 48, 48, 48, 57] = q := by rw [hq]; decide +kernel
  have lm : dv [49, 48, 48, 48, 48, 48, 48, 48, 49, 54, 48, 48, 48, 48, 48, 48, 48, 54, 51] = m := by rw [hm]; decide +kernel
  have lc : dv [49, 48, 48, 48, 48, 48, 48, 48, 49, 54, 48, 48, 48, 48, 48, 48, 48, 55, 48] = c := by rw [hc]; decide +kernel
  have lt : dv [49, 50, 54, 55, 54, 53, 48, 54, 48, 48, 50, 50, 56, 50, 50, 57, 52, 48, 49, 52, 57, 54, 55, 48, 51, 50, 48, 53, 51, 55, 54] = t := by rw [ht]; decide +kernel
  have l2 : dv [50] = 2 := by decide +kernel
  have l7 : dv [55] = 7 := by decide +kernel
  have bp : badB [49, 48, 48, 48, 48, 48, 48, 48, 48, 55] = false := by decide +kernel
  have bq : badB [49, 48, 48, 48, 48, 48, 48, 48, 48, 57] = false := by decide +kernel
  have bm : badB [49, 48, 48, 48, 48, 48, 48, 48, 49, 54, 48, 48, 48, 48, 48, 48, 48, 54, 51] = false := by decide +kernel
  have bc : badB [49, 48, 48, 48, 48, 48, 48, 48, 49, 54, 48, 48, 48, 48, 48, 48, 48, 55, 48] = false := by decide +kernel
  have bt : badB [49, 50, 54, 55, 54, 53, 48, 54, 48, 48, 50, 50, 56, 50, 50, 57, 52, 48, 49, 52, 57, 54, 55, 48, 51, 50, 48, 53, 51, 55, 54] = false := by decide +kernel
  have b2 : badB [50] = false := by decide +kernel
  have b7 : badB [55] = false := by decide +kernel
  have HMul := Lib.hid (Mul_ok p q (lit_ok lp bp (by simp)) (lit_ok lq bq (by simp)) (by rw [show p * q = m by rw [hp, hq, hm]]; exact lit_ok lm bm (by simp)) w htab)
  rw [show p * q = m by rw [hp, hq, hm]] at HMul
  have HDiv := Lib.hid (fun W (hW : Tab W) => DivMod_ok c q (lit_ok lc bc (by simp)) (lit_ok lq bq (by simp)) (by rw [hq]; decide) W hW)
  rw [show c / q = p by rw [hc, hq, hp], show c % q = 7 by rw [hc, hq]] at HDiv
  have HPow := Lib.hid (fun W (hW : Tab W) => Pow_ok 2 100 (lit_ok l2 b2 (by simp)) (by omega) (by rw [show 2 ^ 100 = t by rw [ht]]; exact lit_ok lt bt (by simp)) W hW)
  rw [show 2 ^ 100 = t by rw [ht]] at HPow
  have e1 : ((dstr m).toList == [49, 48, 48, 48, 48, 48, 48, 48, 49, 54, 48, 48, 48, 48, 48, 48, 48, 54, 51]) = true := by rw [lit_list lm bm]; rfl
  have e2 : ((dstr p).toList == [49, 48, 48, 48, 48, 48, 48, 48, 48, 55]) = true := by rw [lit_list lp bp]; rfl
  have e3 : ((dstr 7).toList == [55]) = true := by rw [lit_list l7 b7]; rfl
  have e4 : ((dstr t).toList == [49, 50, 54, 55, 54, 53, 48, 54, 48, 48, 50, 50, 56, 50, 50, 57, 52, 48, 49, 52, 57, 54, 55, 48, 51, 50, 48, 53, 51, 55, 54]) = true := by rw [lit_list lt bt]; rfl
  have Sp := Lib.hid (show (⟨#[49, 48, 48, 48, 48, 48, 48, 48, 48, 55]⟩ : ByteArray) = dstr p from dstr_lit lp bp)
  have Sq' := Lib.hid (show (⟨#[49, 48, 48, 48, 48, 48, 48, 48, 48, 57]⟩ : ByteArray) = dstr q from dstr_lit lq bq)
  have Sc := Lib.hid (show (⟨#[49, 48, 48, 48, 48, 48, 48, 48, 49, 54, 48, 48, 48, 48, 48, 48, 48, 55, 48]⟩ : ByteArray) = dstr c from dstr_lit lc bc)
  have S2 := Lib.hid (show (⟨#[50]⟩ : ByteArray) = dstr 2 from dstr_lit l2 b2)
  have HT := Lib.hid htab
  clear hp hq hm hc ht lp lq lm lc lt l2 l7 bp bq bm bc bt b2 b7 htab
  go_enter Tryz.func4, Tryz.ntmps4
  go_wp2_with fail
  rw [Sp.out, Sq'.out]
  refine HMul.out.mono ?_
  rintro e w1 ⟨rfl, hb1⟩
  have HB1 := Lib.hid hb1
  have HD1 := Lib.hid (HDiv.out w1 (HT.out.below hb1))
  clear hb1 HMul HDiv
  go_wp2_with fail
  rw [Sc.out, Sq'.out]
  refine HD1.out.mono ?_
  rintro e w2 ⟨rfl, hb2⟩
  have HB2 := Lib.hid (HB1.out.trans (hb2.mono HB1.out.size))
  have HP1 := Lib.hid (HPow.out w2 (HT.out.below HB2.out))
  clear hb2 HD1 HPow
  go_wp2_with fail
  rw [S2.out]
  refine HP1.out.mono ?_
  rintro e w3 ⟨rfl, hb3⟩
  have HB3 := Lib.hid (HB2.out.trans (hb3.mono HB2.out.size))
  clear hb3 HP1
  go_wp2_with fail
  go_ret
  exact ⟨rfl, HB3.out⟩

end Go.Proofs.YtiocehlefpbbhaaGreatDoor
