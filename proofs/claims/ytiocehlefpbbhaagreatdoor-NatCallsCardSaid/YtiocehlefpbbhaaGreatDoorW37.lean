/-
  The contract of ToInt where the number is an int.
-/
import Derived.Test.YtiocehlefpbbhaaGreatDoorW26
import Derived.Test.YtiocehlefpbbhaaGreatDoorM7
import Derived.Lib.AtoiErrMem
namespace Go.Proofs.YtiocehlefpbbhaaGreatDoor
open Go.RowKit NV
open Go.Lib (decDigits)

set_option maxHeartbeats 800000 in
set_option maxRecDepth 100000 in
/-- ToInt: the number, if it is an int. -/
theorem ToInt_ok (a : Nat) (ha : a ≤ 9223372036854775807) (w : World) :
    Calls Tryz.prog 16 #[.string (dstr a)] w fun e w' => e = .returned (.tuple #[.int .i64 (a : Int), .int .i64 0]) ∧ Below w.heap.size w w' := by
  have oa : Ok a := Nat.le_trans ((dec_len_le (n := a) (k := 19) (by omega)).2 (by omega)) (by omega)
  have hck := check_any (dstr a) w (small_str oa)
  rw [dstr_list, oa.chk] at hck
  have HC := Lib.hid hck
  have hat := Tryz.strconv_Atoi_ok (dstr a) (Nat.le_trans (small_str oa) (by omega)) (a : Int) (by rw [dstr_list]; exact atoi_dec a ha) w
  have HA := Lib.hid hat
  clear hck hat oa
  go_enter Tryz.func16, Tryz.ntmps16
  go_wp2_with fail
  refine HC.out.mono ?_
  rintro e w1 ⟨rfl, rfl⟩
  go_wp2_with fail
  refine HA.out.mono ?_
  rintro e w2 ⟨rfl, hw2⟩
  have HB : Hid (Below w.heap.size w w2) := Lib.hid (by
    rcases hw2 with rfl | ⟨t, rfl⟩
    · exact Below.refl _ _
    · exact Lib.bytesWorld_below _ _ _)
  clear hw2
  go_wp2_with fail
  go_ret2
  exact ⟨rfl, HB.out⟩

end Go.Proofs.YtiocehlefpbbhaaGreatDoor
