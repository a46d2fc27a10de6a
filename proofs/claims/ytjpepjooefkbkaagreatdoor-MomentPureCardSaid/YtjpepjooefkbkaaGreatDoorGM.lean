/-
  The reference's number, Power, Pow and FromInt.
-/
import Derived.Test.YtjpepjooefkbkaaGreatDoorGK
import Derived.Test.YtjpepjooefkbkaaGreatDoorGC
import Derived.Test.YtjpepjooefkbkaaGreatDoorGJ
import Derived.Lib.RabinKarpLaws
namespace Go.Proofs.YtjpepjooefkbkaaGreatDoor
open Go.RowKit NV
open Go.Lib (decDigits)
attribute [local irreducible] Utf8.encode
theorem iln_mul (a b : Nat) : ln (a * b) ≤ ln a + ln b := ln_le (mul_lt_pow (lt_pow_ln a) (lt_pow_ln b))
theorem ione_num (w : World) : INum (w.alloc (.cells #[.int .i64 1] 3)) (.slice (some ⟨w.heap.size, 0, none⟩) 1 1) 1 := by
 refine ⟨_, 1, by rw [ln_one], .inr ⟨_, rfl, by simp, by rw [ln_one]; exact Nat.le_refl _, fun j hj => ?_⟩⟩
 rw [ln_one] at hj
 obtain rfl : j = 0 := by omega
 exact cell_at_new rfl _ _
set_option maxHeartbeats 3200000 in
set_option maxRecDepth 100000 in
theorem ipower_any {w : World} {x : Value} {a n : Nat} (hx : INum w x a) (ha : Ok a) (hn : n ≤ 9223372036854775807) :
  Calls Tryz.prog 140 #[x, .int .i64 n] w fun e w' => ∃ v, e = .returned (.tuple #[v, .bool (fitB (a ^ n))]) ∧ (Ok (a ^ n) → INum w' v (a ^ n)) ∧ Below w.heap.size w w' := by
 have hal := ha.ln
 have HW0 := Lib.hid ((Below.refl w.heap.size w).alloc (Nat.le_refl _) (.cells #[.int .i64 1] 3))
 have HONE := Lib.hid (ione_num w)
 have HX := Lib.hid (hx.below HW0.out)
 have HA := Lib.hid ha
 by_cases hn0 : n = 0
 ·subst hn0
  have HF := Lib.hid (show true = fitB (a ^ 0) by rw [Nat.pow_zero, fitB_yes one_ok])
  clear ha hx
  go_enter Tryz.func140, Tryz.ntmps140
  go_wp2_with fail
  go_ret2
  exact ⟨_, by rw [← HF.out]; rfl, fun _ => by rw [Nat.pow_zero]; exact HONE.out, HW0.out⟩
 ·have hne : ((n : Int) == 0) = false := by rw [beq_eq_false_iff_ne]; omega
  have hor := iorder_any HX.out HONE.out (by omega) (by rw [ln_one]; omega)
  have HOR := Lib.hid hor
  clear hor
  by_cases ha1 : a ≤ 1
  ·have hc : cmpN a 1 ≤ 0 := by unfold cmpN; split <;> omega
   have HE := Lib.hid (show a ^ n = a by
    rcases (show a = 0 ∨ a = 1 by omega) with h | h
    ·rw [h, Nat.zero_pow (by omega)]
    ·rw [h, Nat.one_pow])
   have HF := Lib.hid (show true = fitB (a ^ n) by rw [HE.out, fitB_yes ha])
   clear ha hx ha1
   go_enter Tryz.func140, Tryz.ntmps140
   go_wp2_with fail
   refine HOR.out.mono ?_
   rintro e w1 ⟨rfl, hb1⟩
   have HX1 := Lib.hid (HX.out.below hb1)
   have HB1 := Lib.hid (HW0.out.trans (hb1.mono HW0.out.size))
   clear hb1 HOR
   go_wp2_with fail
   go_ret2
   exact ⟨_, by rw [← HF.out]; rfl, fun _ => by rw [HE.out]; exact HX1.out, HB1.out⟩
  ·have HX0 := Lib.hid hx
   have hc : ¬ cmpN a 1 ≤ 0 := by unfold cmpN; rw [if_neg (by omega), if_pos (by omega)]; omega
   clear ha hx
   go_enter Tryz.func140, Tryz.ntmps140
   go_wp2_with fail
   refine HOR.out.mono ?_
   rintro e w1 ⟨rfl, hb1⟩
   have HX1 := Lib.hid (HX.out.below hb1)
   have HB1 := Lib.hid (HW0.out.trans (hb1.mono HW0.out.size))
   have HO1 := Lib.hid (HONE.out.below hb1)
   clear hb1 HOR
   go_wp2_with fail
   go_loopw [7, 8] (fun v i wr => ∃ (k s : Nat), k ≤ 63 ∧ i = .int .i64 ((k : Int) - 1) ∧ INum wr v s ∧ Hid (s = a ^ (n / 2 ^ k)) ∧ Ok s ∧ Below w.heap.size w wr) (fun _ i _ => (intOf i + 1).toNat)
   case atStart => exact ⟨63, 1, Nat.le_refl _, rfl, HO1.out, Lib.hid (by rw [Nat.div_eq_of_lt (by omega), Nat.pow_zero]), one_ok, HB1.out⟩
   case round =>
    obtain ⟨k, s, hk, rfl, hv, HS, hos, hbr⟩ := hrel
    clear HO1 HB1
    by_cases hk0 : 0 < k
    ·obtain ⟨q, rfl⟩ : ∃ q, k = q + 1 := ⟨k - 1, by omega⟩
     have hlns := hos.ln
     have HT := Lib.hid (itimes_any hv hv (by omega) (by omega))
     have hq1 : ((q + 1 : Nat) : Int) - 1 = (q : Int) := by omega
     rw [hq1]
     obtain ⟨N, hN⟩ : ∃ N, N = n / 2 ^ q := ⟨_, rfl⟩
     have hN2 : n / 2 ^ (q + 1) = N / 2 := by rw [hN, Nat.pow_succ, Nat.div_div_eq_div_mul]
     have HA2 := Lib.hid ha1
     have hbit : bits BinOp.and IntKind.i64 ((n : Int) / 2 ^ q) 1 = ((N % 2 : Nat) : Int) := by
      have e : (n : Int) / 2 ^ q = (N : Int) := by rw [hN]; simp
      rw [e, and_one N (by have := Nat.div_le_self n (2 ^ q); omega)]
     have hNn : N ≤ n := by rw [hN]; exact Nat.div_le_self _ _
     rw [hN2] at HS
     have HN := Lib.hid hN
     have HAN := Lib.hid (show ∀ M, M ≤ n → ¬ Ok (a ^ M) → ¬ Ok (a ^ n) from fun M hM h => not_ok_mono h (Nat.pow_le_pow_right (by omega) hM))
     clear hN hN2 ha1
     refine Or.elim (Nat.mod_two_eq_zero_or_one N) (fun hpar => ?even) (fun hpar => ?odd)
     case' even =>
      rw [hpar] at hbit
      have hb2 : (bits BinOp.and IntKind.i64 ((n : Int) / 2 ^ q) 1 == 1) = false := by rw [hbit]; rfl
      obtain ⟨R, hR⟩ : ∃ R, R = s * s := ⟨_, rfl⟩
      have HR := Lib.hid (show R = a ^ N by rw [hR, HS.out, ← Nat.pow_add]; congr 1; omega)
      have hlr : ln R ≤ 1335 := by rw [hR]; have := iln_mul s s; omega
      rw [← hR] at HT
      clear hbit hR
      go_wp2_with fail
      refine HT.out.mono ?_
      rintro e w2 ⟨V, rfl, hV, hbb⟩
      have HV := Lib.hid hV
      have HBB := Lib.hid (hbr.trans (hbb.mono hbr.size))
      clear hV hbb hv hbr
      go_wp2_with fail
     case' odd =>
      rw [hpar] at hbit
      have hb2 : (bits BinOp.and IntKind.i64 ((n : Int) / 2 ^ q) 1 == 1) = true := by rw [hbit]; rfl
      obtain ⟨R, hR⟩ : ∃ R, R = s * s * a := ⟨_, rfl⟩
      have HR := Lib.hid (show R = a ^ N by
       rw [hR, HS.out, ← Nat.pow_add]
       have e : N = N / 2 + N / 2 + 1 := by omega
       conv => rhs; rw [e, Nat.pow_succ])
      have hls := iln_mul s s
      have hlr : ln R ≤ 1335 := by rw [hR]; have := iln_mul (s * s) a; omega
      clear hbit
      go_wp2_with fail
      refine HT.out.mono ?_
      rintro e w2 ⟨V0, rfl, hV0, hbb0⟩
      have HBB0 := Lib.hid (hbr.trans (hbb0.mono hbr.size))
      have HT2 := Lib.hid (itimes_any hV0 (HX0.out.below HBB0.out) (by omega) (by omega))
      rw [← hR] at HT2
      clear hV0 hbb0 hv hbr hR
      go_wp2_with fail
      refine HT2.out.mono ?_
      rintro e w3 ⟨V, rfl, hV, hbb⟩
      have HV := Lib.hid hV
      have HBB := Lib.hid (HBB0.out.trans (hbb.mono HBB0.out.size))
      clear hV hbb
      go_wp2_with fail
     all_goals
      refine (iwrite_any HV.out (by omega)).mono ?_
      rintro e w4 ⟨rfl, hb4⟩
      have HB4 := Lib.hid (HBB.out.trans (hb4.mono HBB.out.size))
      have HV4 := Lib.hid (HV.out.below hb4)
      clear hb4
      by_cases hok : Ok R
      ·have hsz : ((dstr R).size : Int) ≤ 4000 := by rw [dstr_size]; unfold Ok at hok; omega
       have HOK := Lib.hid hok
       clear hok
       go_wp2_with fail
       go_roundw
       case rel => exact ⟨q, R, by omega, by go_num, HV4.out, Lib.hid (by rw [HR.out, HN.out]), HOK.out, HB4.out⟩
       case measure => simp [intOf]
      ·have hsz : (4000 : Int) < ((dstr R).size : Int) := by rw [dstr_size]; unfold Ok at hok; omega
       have HNOT := Lib.hid (HAN.out N hNn (by rw [← HR.out]; exact hok))
       have HFB := Lib.hid (fitB_no HNOT.out)
       clear hok
       go_wp2_with fail
       go_ret2
       exact ⟨.slice none 0 0, by rw [HFB.out]; rfl, fun h => absurd h HNOT.out, HB4.out⟩
    ·obtain rfl : k = 0 := by omega
     have HE := Lib.hid (show s = a ^ n by rw [HS.out]; simp)
     have HF := Lib.hid (show true = fitB (a ^ n) by rw [← HE.out, fitB_yes hos])
     have HV := Lib.hid hv
     clear hv
     go_wp2_with fail
     go_ret2
     exact ⟨_, by rw [← HF.out]; rfl, fun _ => by rw [← HE.out]; exact HV.out, hbr⟩
end Go.Proofs.YtjpepjooefkbkaaGreatDoor
