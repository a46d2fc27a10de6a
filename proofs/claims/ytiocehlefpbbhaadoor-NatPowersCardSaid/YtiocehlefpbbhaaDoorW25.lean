/-
  The contracts of FromInt, ToInt and Bits.
-/
import Derived.Test.YtiocehlefpbbhaaDoorW26
import Derived.Test.YtiocehlefpbbhaaDoorM7
import Derived.Lib.AtoiErrMem
namespace Go.Proofs.YtiocehlefpbbhaaDoor
open Go.RowKit NV
open Go.Lib (decDigits)

theorem itoa_nat (n : Nat) : (⟨(Lib.itoa (n : Int)).toArray⟩ : ByteArray) = dstr n := by
  rw [Lib.itoa, if_neg (by omega)]; rfl

set_option maxHeartbeats 800000 in
set_option maxRecDepth 100000 in
theorem FromInt_ok (n : Nat) (hn : n ≤ 9223372036854775807) (w : World) (htab : Tab w) :
    Calls Tryd.prog 24 #[.int .i64 (n : Int)] w fun e w' => e = .returned (.tuple #[.string (dstr n), .int .i64 0]) ∧ Below w.heap.size w w' := by
  have H := Tryd.strconv_Itoa (n : Int) (by omega) (by omega) w htab
  rw [itoa_nat] at H
  have HI := Lib.hid H
  clear H htab
  go_enter Tryd.func24, Tryd.ntmps24
  go_wp2_with fail
  refine HI.out.mono ?_
  rintro e w1 ⟨rfl, k, os, rfl⟩
  have HB := Lib.hid (Lib.below_grow w.heap.size w (Nat.le_refl _) k os)
  go_wp2_with fail
  go_ret2
  exact ⟨rfl, HB.out⟩

set_option maxHeartbeats 800000 in
theorem FromInt_neg (m : Int) (h : m < 0) (w : World) :
    Calls Tryd.prog 24 #[.int .i64 m] w fun e w' => e = .returned (.tuple #[.string ⟨#[]⟩, .int .i64 2]) ∧ w = w' := by
  go_enter Tryd.func24, Tryd.ntmps24
  go_wp2_with fail
  go_ret2
  exact ⟨rfl, rfl⟩

set_option maxHeartbeats 800000 in
set_option maxRecDepth 100000 in
/-- ToInt: the number, if it is an int. -/
theorem ToInt_ok (a : Nat) (ha : a ≤ 9223372036854775807) (w : World) :
    Calls Tryd.prog 16 #[.string (dstr a)] w fun e w' => e = .returned (.tuple #[.int .i64 (a : Int), .int .i64 0]) ∧ Below w.heap.size w w' := by
  have oa : Ok a := Nat.le_trans ((dec_len_le (n := a) (k := 19) (by omega)).2 (by omega)) (by omega)
  have hck := check_any (dstr a) w (small_str oa)
  rw [dstr_list, oa.chk] at hck
  have HC := Lib.hid hck
  have hat := Tryd.strconv_Atoi_ok (dstr a) (Nat.le_trans (small_str oa) (by omega)) (a : Int) (by rw [dstr_list]; exact atoi_dec a ha) w
  have HA := Lib.hid hat
  clear hck hat oa
  go_enter Tryd.func16, Tryd.ntmps16
  go_wp2_with fail
  refine HC.out.mono ?_
  rintro e w1 ⟨rfl, rfl⟩
  go_wp2_with fail
  refine HA.out.mono ?_
  rintro e w2 ⟨rfl, hw2⟩
  have HB : Hid (Below w.heap.size w w2) := Lib.hid (by
    rcases hw2 with rfl | ⟨t, rfl⟩
    · exact Below.refl _ _
    · exact Lib.bytesWorld_below _ _ _)
  clear hw2
  go_wp2_with fail
  go_ret2
  exact ⟨rfl, HB.out⟩

end Go.Proofs.YtiocehlefpbbhaaDoor
