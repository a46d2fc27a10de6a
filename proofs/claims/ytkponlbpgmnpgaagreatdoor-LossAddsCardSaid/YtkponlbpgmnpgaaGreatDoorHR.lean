/-
  RatTexts returns true for any two texts. RatNames returns true.
-/
import Derived.Test.YtkponlbpgmnpgaaGreatDoorHH
import Derived.Test.YtkponlbpgmnpgaaGreatDoorT1
import Derived.Test.YtkponlbpgmnpgaaGreatDoorHL
import Derived.Room.AppendFits
import Derived.WalkSmall
namespace Go.Proofs.YtkponlbpgmnpgaaGreatDoor
open Go.RowKit NV
open Go.Lib (decDigits)
open Go.RowKit NV
open Go.Lib (decDigits)
def q25 : Rat := ⟨2, 5, by decide, by decide⟩
theorem s25 : qstr q25 = ⟨#[50, 47, 53]⟩ := (frac_str false 2 5 (by omega) (by omega) (by omega)).trans rfl
theorem int_str (m : Bool) {n : Nat} (h : n < 10) : rstr m n 1 = ⟨((if m then [45] else []) ++ [UInt8.ofNat (48 + n)]).toArray⟩ := by
 apply ba_ext
 rw [rstr_eq, if_pos rfl, istr_list, dec_small h]
theorem sm2 : qstr (-2) = ⟨#[45, 50]⟩ := (int_str true (n := 2) (by omega)).trans rfl
theorem sm1 : qstr (-1) = ⟨#[45, 49]⟩ := (int_str true (n := 1) (by omega)).trans rfl
theorem s7 : qstr 7 = ⟨#[55]⟩ := (int_str false (n := 7) (by omega)).trans rfl
end Go.Proofs.YtkponlbpgmnpgaaGreatDoor
