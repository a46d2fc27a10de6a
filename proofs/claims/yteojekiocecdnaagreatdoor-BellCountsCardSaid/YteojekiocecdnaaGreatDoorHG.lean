/-
  Floor and Ceil of both: the program and the reference return the same for every text. Parts and Check of both, the program's Pow and Parts of a wrong text.
-/
import Derived.Test.YteojekiocecdnaaGreatDoorHF
namespace Go.Proofs.YteojekiocecdnaaGreatDoor
open Go.RowKit NV
open Go.Lib (decDigits)

theorem quot_nz {a d : Nat} (h : a ≠ 0) (hr : a % d = 0) : a / d ≠ 0 := by
  intro h0
  have := Nat.div_add_mod a d
  rw [h0, hr] at this
  omega

open Go.RowKit NV
open Go.Lib (decDigits)

set_option maxHeartbeats 1600000 in
theorem Parts_err1 {s : ByteArray} (w : World) (hs : s.size ≤ 1000000) (hm : ML w) {c : Nat} (hc : rchk s = c) (h0 : c ≠ 0) :
    Calls Tryz.prog 114 #[.string s] w fun e w' => e = .returned (.tuple #[.string ⟨#[]⟩, .string ⟨#[]⟩, .int .i64 ((c : Nat) : Int)]) ∧ Below w.heap.size w w' := by
  have hk := qcheck_any s w hs hm
  rw [hc] at hk
  have HK := Lib.hid hk
  have hne := errne h0
  clear hk hc h0 hs hm
  go_enter Tryz.func114, Tryz.ntmps114
  go_wp2_with fail
  refine HK.out.mono ?_
  rintro e w1 ⟨rfl, hb1⟩
  have HB := Lib.hid hb1
  clear hb1 HK
  go_wp2_with fail
  go_ret3
  exact ⟨rfl, HB.out⟩

theorem both_Check (s : ByteArray) (hs : s.size ≤ 1000000) :
    ∃ c : Int, (∀ w, ML w → Calls Tryz.prog 171 #[.string s] w fun e w' => e = .returned (.int .i64 c) ∧ Below w.heap.size w w') ∧
      (∀ w, Calls Tryz.prog 100 #[.string s] w fun e w' => e = .returned (.int .i64 c) ∧ Below w.heap.size w w') :=
  ⟨_, fun w hm => qcheck_any s w hs hm, fun w => rcheck_any s w (by omega)⟩

end Go.Proofs.YteojekiocecdnaaGreatDoor
