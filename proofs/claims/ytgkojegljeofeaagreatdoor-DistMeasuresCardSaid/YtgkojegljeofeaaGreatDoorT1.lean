/-
  The reference of nat: both, Mul and Gcd of texts; light of layer 2 is not here.
-/
import Derived.Test.YtgkojegljeofeaaGreatDoorGF
import Derived.Test.YtgkojegljeofeaaGreatDoorGK
namespace Go.Proofs.YtgkojegljeofeaaGreatDoor
open Go.RowKit NV
open Go.Lib (decDigits)

/-- The first error of two texts. -/
def both (l m : List UInt8) : Nat := if chk l = 0 then chk m else chk l
theorem both_ok {a b : Nat} (ha : Ok a) (hb : Ok b) : both (decDigits a) (decDigits b) = 0 := by
  unfold both; rw [if_pos ha.chk, hb.chk]

theorem iread_dec (a : Nat) (ha : Ok a) (w : World) :
    Calls Tryz.prog 156 #[.string (dstr a)] w fun e w' => ∃ v, e = .returned v ∧ INum w' v a ∧ Below w.heap.size w w' := by
  have hr := iread_any (dstr a) w (by rw [dstr_size]; exact dec_len_pos a) (by rw [dstr_size]; unfold Ok at ha; omega) (by rw [dstr_list]; exact digs_dec a)
  rw [dstr_list, dv_dec] at hr
  exact hr

end Go.Proofs.YtgkojegljeofeaaGreatDoor
