/-
  The reference's Int.
-/
import Derived.Test.YtkponlbpgmnpgaaGreatDoorHF
import Derived.Test.YtkponlbpgmnpgaaGreatDoorHR
import Derived.Test.YtkponlbpgmnpgaaGreatDoorGM
import Derived.Test.YtkponlbpgmnpgaaGreatDoorGL
namespace Go.Proofs.YtkponlbpgmnpgaaGreatDoor
open Go.RowKit NV
open Go.Lib (decDigits)
theorem rInt_nat (k : Nat) (hk : k ≤ 9223372036854775807) (w : World) :
  Calls Tryz.prog 104 #[.int .i64 (k : Int)] w fun e w' => e = .returned (.string (dstr k)) ∧ Below w.heap.size w w' := by
 have hf := iFromInt_any (k : Int) (by omega) (by omega) w
 rw [intR_nat] at hf
 have HF := Lib.hid hf
 clear hf
 go_enter Tryz.func104, Tryz.ntmps104
 go_wp2_with fail
 refine HF.out.mono ?_
 rintro e w1 ⟨rfl, hb⟩
 have HB := Lib.hid hb
 clear hb HF
 go_wp2_with fail
 go_ret
 exact ⟨rfl, HB.out⟩
end Go.Proofs.YtkponlbpgmnpgaaGreatDoor
