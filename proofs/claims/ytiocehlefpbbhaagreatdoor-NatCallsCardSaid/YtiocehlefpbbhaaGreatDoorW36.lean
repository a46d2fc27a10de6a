/-
  Pow where it has an error.
-/
import Derived.Test.YtiocehlefpbbhaaGreatDoorW21
namespace Go.Proofs.YtiocehlefpbbhaaGreatDoor
open Go.RowKit NV

set_option maxHeartbeats 1600000 in
set_option maxRecDepth 100000 in
/-- Pow where the power does not fit. -/
theorem Pow_over (a n : Nat) (ha : Ok a) (hn : n ≤ 9223372036854775807) (hp : ¬ Ok (a ^ n)) (w : World) :
    Calls Tryz.prog 24 #[.string (dstr a), .int .i64 n] w fun e w' => e = .returned (.tuple #[.string ⟨#[]⟩, .int .i64 5]) ∧ Below w.heap.size w w' := by
  have hc := check_any (dstr a) w (small_str ha)
  rw [dstr_list, ha.chk] at hc
  have HC := Lib.hid hc
  have HP := Lib.hid hp
  clear hc hp
  go_enter Tryz.func24, Tryz.ntmps24
  go_wp2_with fail
  refine HC.out.mono ?_
  rintro e w1 ⟨rfl, rfl⟩
  go_wp2_with fail
  refine (parse_dec a ha w).mono ?_
  rintro e w2 ⟨x, rfl, hx, hb2⟩
  have hpw := power_any (n := n) hx.num ha (by omega)
  rw [fitB_no HP.out] at hpw
  have HPW := Lib.hid hpw
  have HB2 := Lib.hid hb2
  clear hx hb2 hpw
  go_wp2_with fail
  refine HPW.out.mono ?_
  rintro e w3 ⟨v, rfl, _, hb3⟩
  have HB4 := Lib.hid (HB2.out.trans (hb3.mono HB2.out.size))
  clear hb3 HPW
  go_wp2_with fail
  go_ret2
  exact ⟨rfl, HB4.out⟩

set_option maxHeartbeats 800000 in
/-- Pow with a negative exponent. -/
theorem Pow_neg (a : Nat) (n : Int) (ha : Ok a) (hn : n < 0) (w : World) :
    Calls Tryz.prog 24 #[.string (dstr a), .int .i64 n] w fun e w' => e = .returned (.tuple #[.string ⟨#[]⟩, .int .i64 2]) ∧ w = w' := by
  have hc := check_any (dstr a) w (small_str ha)
  rw [dstr_list, ha.chk] at hc
  have HC := Lib.hid hc
  clear hc
  go_enter Tryz.func24, Tryz.ntmps24
  go_wp2_with fail
  refine HC.out.mono ?_
  rintro e w1 ⟨rfl, rfl⟩
  go_wp2_with fail
  go_ret2
  exact ⟨rfl, rfl⟩

end Go.Proofs.YtiocehlefpbbhaaGreatDoor
