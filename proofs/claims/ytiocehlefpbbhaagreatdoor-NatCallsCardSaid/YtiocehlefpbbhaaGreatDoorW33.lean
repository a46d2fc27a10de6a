/-
  The contract of Gcd at texts that are numerals.
-/
import Derived.Test.YtiocehlefpbbhaaGreatDoorW32
import Derived.Test.YtiocehlefpbbhaaGreatDoorW21
namespace Go.Proofs.YtiocehlefpbbhaaGreatDoor
open Go.RowKit NV
open Go.Lib (decDigits)

theorem gcd_ok {a b : Nat} (ha : Ok a) (hb : Ok b) : Ok (Nat.gcd a b) := by
  by_cases h : a = 0
  · rw [h, Nat.gcd_zero_left]; exact hb
  · exact ha.mono (Nat.gcd_le_left b (by omega))

set_option maxHeartbeats 1600000 in
set_option maxRecDepth 100000 in
/-- Gcd: the greatest common divisor. -/
theorem Gcd_ok (a b : Nat) (ha : Ok a) (hb : Ok b) (w : World) (htab : Tab w) :
    Calls Tryz.prog 14 #[.string (dstr a), .string (dstr b)] w fun e w' => e = .returned (.tuple #[.string (dstr (Nat.gcd a b)), .int .i64 0]) ∧ Below w.heap.size w w' := by
  have hla := ha.ln
  have hlb := hb.ln
  have hg := gcd_ok ha hb
  have HT := Lib.hid htab
  have HG := Lib.hid hg
  clear htab hg
  go_enter Tryz.func14, Tryz.ntmps14
  go_wp2_with fail
  refine (checkAll_ok a b ha hb w _).mono ?_
  rintro e w1 ⟨rfl, rfl⟩
  go_wp2_with fail
  have hb1 : Below w.heap.size w (w.alloc (.cells #[.string (dstr a), .string (dstr b)] 22)) := (Below.refl _ _).alloc (Nat.le_refl _) _
  have HB1 := Lib.hid hb1
  generalize w.alloc (.cells #[.string (dstr a), .string (dstr b)] 22) = w1 at HB1 ⊢
  clear hb1
  refine (parse_dec a ha w1).mono ?_
  rintro e w2 ⟨x, rfl, hx, hb2⟩
  have HX := Lib.hid hx.num
  have HB2 := Lib.hid hb2
  clear hx hb2
  go_wp2_with fail
  refine (parse_dec b hb w2).mono ?_
  rintro e w3 ⟨y, rfl, hy, hb3⟩
  have HP := Lib.hid (gcd_any (HX.out.below hb3) hy.num (by omega) (by omega))
  have HB3 := Lib.hid (HB1.out.trans ((HB2.out.mono HB1.out.size).trans (hb3.mono (Nat.le_trans HB1.out.size HB2.out.size))))
  clear hy hb3 HB2 HX
  go_wp2_with fail
  refine HP.out.mono ?_
  rintro e w4 ⟨z, rfl, hz, hb4⟩
  have hb5 := HB3.out.trans (hb4.mono HB3.out.size)
  have HR := Lib.hid (result_ok hz HG.out (HT.out.below hb5))
  have HB4 := Lib.hid hb5
  clear hz hb4 hb5 HP
  go_wp2_with fail
  refine HR.out.mono ?_
  rintro e w5 ⟨rfl, hb6⟩
  have HB5 := Lib.hid (HB4.out.trans (hb6.mono HB4.out.size))
  clear hb6 HR
  go_wp2_with fail
  go_ret2
  exact ⟨rfl, HB5.out⟩

end Go.Proofs.YtiocehlefpbbhaaGreatDoor
