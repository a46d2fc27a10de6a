/-
  The contracts of DivMod and Pow at texts that are numerals.
-/
import Derived.Test.YtiocehlefpbbhaaGreatDoorW14
import Derived.Test.YtiocehlefpbbhaaGreatDoorW20
namespace Go.Proofs.YtiocehlefpbbhaaGreatDoor
open Go.RowKit NV
open Go.Lib (decDigits)

theorem dstr_ne_zero {b : Nat} (h : b ≠ 0) : ((dstr b).toList == [48]) = false := by
  rw [Go.Lib.toList_data, dstr_list]
  apply beq_eq_false_iff_ne.2
  intro e
  have h0 : decDigits 0 = [48] := by rw [dec_small (by omega)]; rfl
  exact h (dec_inj (e.trans h0.symm))

set_option maxHeartbeats 1600000 in
set_option maxRecDepth 100000 in
/-- DivMod: the quotient and the remainder. -/
theorem DivMod_ok (a b : Nat) (ha : Ok a) (hb : Ok b) (hb0 : b ≠ 0) (w : World) (htab : Tab w) :
    Calls Tryz.prog 12 #[.string (dstr a), .string (dstr b)] w fun e w' => e = .returned (.tuple #[.string (dstr (a / b)), .string (dstr (a % b)), .int .i64 0]) ∧ Below w.heap.size w w' := by
  have hla := ha.ln
  have hlb := hb.ln
  have hlq : ln (a / b) ≤ 1000000 := by have := ln_mono (Nat.div_le_self a b); omega
  have hlr : ln (a % b) ≤ 1000000 := by have := ln_mono (Nat.mod_le a b); omega
  have HT := Lib.hid htab
  have hz := dstr_ne_zero hb0
  clear htab
  go_enter Tryz.func12, Tryz.ntmps12
  go_wp2_with fail
  refine (checkAll_ok a b ha hb w _).mono ?_
  rintro e w1 ⟨rfl, rfl⟩
  go_wp2_with fail
  have hb1 : Below w.heap.size w (w.alloc (.cells #[.string (dstr a), .string (dstr b)] 22)) := (Below.refl _ _).alloc (Nat.le_refl _) _
  have HB1 := Lib.hid hb1
  generalize w.alloc (.cells #[.string (dstr a), .string (dstr b)] 22) = w1 at HB1 ⊢
  clear hb1
  refine (parse_dec a ha w1).mono ?_
  rintro e w2 ⟨x, rfl, hx, hb2⟩
  have HX := Lib.hid hx.num
  have HB2 := Lib.hid hb2
  clear hx hb2
  go_wp2_with fail
  refine (parse_dec b hb w2).mono ?_
  rintro e w3 ⟨y, rfl, hy, hb3⟩
  have HP := Lib.hid (divide_any (HX.out.below hb3) hy.num (by omega) (by omega) hb0)
  have HB3 := Lib.hid (HB1.out.trans ((HB2.out.mono HB1.out.size).trans (hb3.mono (Nat.le_trans HB1.out.size HB2.out.size))))
  clear hy hb3 HB2 HX
  go_wp2_with fail
  refine HP.out.mono ?_
  rintro e w4 ⟨q, r, rfl, hq, hr, hb4⟩
  have hb5 := HB3.out.trans (hb4.mono HB3.out.size)
  have HQ := Lib.hid (text_any hq hlq (HT.out.below hb5))
  have HR := Lib.hid hr
  have HB4 := Lib.hid hb5
  clear hq hr hb4 hb5 HP
  go_wp2_with fail
  refine HQ.out.mono ?_
  rintro e w5 ⟨rfl, hb6⟩
  have hb7 := HB4.out.trans (hb6.mono HB4.out.size)
  have HR5 := Lib.hid (text_any (HR.out.below hb6) hlr (HT.out.below hb7))
  have HB5 := Lib.hid hb7
  clear hb6 hb7 HQ HR
  go_wp2_with fail
  refine HR5.out.mono ?_
  rintro e w6 ⟨rfl, hb8⟩
  have HB6 := Lib.hid (HB5.out.trans (hb8.mono HB5.out.size))
  clear hb8 HR5
  go_wp2_with fail
  go_ret3
  exact ⟨rfl, HB6.out⟩

set_option maxHeartbeats 1600000 in
set_option maxRecDepth 100000 in
/-- Pow: the power, if it fits. -/
theorem Pow_ok (a n : Nat) (ha : Ok a) (hn : n ≤ 9223372036854775807) (hp : Ok (a ^ n)) (w : World) (htab : Tab w) :
    Calls Tryz.prog 24 #[.string (dstr a), .int .i64 n] w fun e w' => e = .returned (.tuple #[.string (dstr (a ^ n)), .int .i64 0]) ∧ Below w.heap.size w w' := by
  have hc := check_any (dstr a) w (small_str ha)
  rw [dstr_list, ha.chk] at hc
  have hla := ha.ln
  have HC := Lib.hid hc
  have HT := Lib.hid htab
  have HP := Lib.hid hp
  clear hc htab hp
  go_enter Tryz.func24, Tryz.ntmps24
  go_wp2_with fail
  refine HC.out.mono ?_
  rintro e w1 ⟨rfl, rfl⟩
  go_wp2_with fail
  refine (parse_dec a ha w).mono ?_
  rintro e w2 ⟨x, rfl, hx, hb2⟩
  have hpw := power_any (n := n) hx.num ha (by omega)
  rw [fitB_yes HP.out] at hpw
  have HPW := Lib.hid hpw
  have HB2 := Lib.hid hb2
  clear hx hb2 hpw
  go_wp2_with fail
  refine HPW.out.mono ?_
  rintro e w3 ⟨v, rfl, hv, hb3⟩
  have hb4 := HB2.out.trans (hb3.mono HB2.out.size)
  have HR := Lib.hid (result_ok (hv HP.out) HP.out (HT.out.below hb4))
  have HB4 := Lib.hid hb4
  clear hv hb3 hb4 HPW
  go_wp2_with fail
  refine HR.out.mono ?_
  rintro e w4 ⟨rfl, hb5⟩
  have HB5 := Lib.hid (HB4.out.trans (hb5.mono HB4.out.size))
  clear hb5 HR
  go_wp2_with fail
  go_ret2
  exact ⟨rfl, HB5.out⟩

end Go.Proofs.YtiocehlefpbbhaaGreatDoor
