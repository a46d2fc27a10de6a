/-
  RatTexts returns true for any two texts. RatNames returns true.
-/
import Derived.Test.YtjpepjooefkbkaaGreatDoorHH
import Derived.Test.YtjpepjooefkbkaaGreatDoorT1
import Derived.Test.YtjpepjooefkbkaaGreatDoorHL
import Derived.Room.AppendFits
import Derived.WalkSmall
namespace Go.Proofs.YtjpepjooefkbkaaGreatDoor
open Go.RowKit NV
open Go.Lib (decDigits)
theorem itoa_str (n : Int) (h0 : -9223372036854775808 ≤ n) (h1 : n ≤ 9223372036854775807) : (⟨(Lib.itoa n).toArray⟩ : ByteArray) = qstr (n : Rat) := by
 apply ba_ext
 unfold qstr
 rw [rstr_eq, if_pos (Rat.den_intCast n), istr_list]
 show (Lib.itoa n) = _
 unfold Lib.itoa ng tp
 rw [Rat.num_intCast]
 by_cases h : n < 0
 ·simp [h]
 ·simp [h]
  congr 1; omega
set_option maxHeartbeats 800000 in
theorem Int_q (n : Int) (h0 : -9223372036854775808 ≤ n) (h1 : n ≤ 9223372036854775807) (w : World) (htab : Tab w) :
  Calls Tryz.prog 109 #[.int .i64 n] w fun e w' => e = .returned (.string (qstr (n : Rat))) ∧ Below w.heap.size w w' := by
 have HI := Lib.hid (Tryz.strconv_Itoa n h0 h1 w htab)
 rw [itoa_str n h0 h1] at HI
 generalize qstr (n : Rat) = t at *
 clear htab
 go_enter Tryz.func109, Tryz.ntmps109
 go_wp2_with fail
 refine HI.out.mono ?_
 rintro e w1 ⟨rfl, k, os, rfl⟩
 have HB := Lib.hid (Lib.below_grow w.heap.size w (Nat.le_refl _) k os)
 go_wp2_with fail
 go_ret
 exact ⟨rfl, HB.out⟩
open Go.RowKit NV
open Go.Lib (decDigits)
def q25 : Rat := ⟨2, 5, by decide, by decide⟩
theorem s25 : qstr q25 = ⟨#[50, 47, 53]⟩ := (frac_str false 2 5 (by omega) (by omega) (by omega)).trans rfl
theorem int_str (m : Bool) {n : Nat} (h : n < 10) : rstr m n 1 = ⟨((if m then [45] else []) ++ [UInt8.ofNat (48 + n)]).toArray⟩ := by
 apply ba_ext
 rw [rstr_eq, if_pos rfl, istr_list, dec_small h]
theorem sm2 : qstr (-2) = ⟨#[45, 50]⟩ := (int_str true (n := 2) (by omega)).trans rfl
theorem sm1 : qstr (-1) = ⟨#[45, 49]⟩ := (int_str true (n := 1) (by omega)).trans rfl
theorem s7 : qstr 7 = ⟨#[55]⟩ := (int_str false (n := 7) (by omega)).trans rfl
end Go.Proofs.YtjpepjooefkbkaaGreatDoor
