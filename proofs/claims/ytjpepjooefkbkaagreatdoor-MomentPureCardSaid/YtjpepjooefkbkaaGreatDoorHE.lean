/-
  rat's functions of two texts: the errors. The reference of rat: Make. rat's functions of two texts and the reference's return the same. light, same; RatPairs returns true.
-/
import Derived.Test.YtjpepjooefkbkaaGreatDoorHD
import Derived.Test.YtjpepjooefkbkaaGreatDoorHH
import Derived.Test.YtjpepjooefkbkaaGreatDoorHR
import Derived.Test.YtjpepjooefkbkaaGreatDoorHL
namespace Go.Proofs.YtjpepjooefkbkaaGreatDoor
open Go.RowKit NV
open Go.Lib (decDigits)
theorem withTwo_errI (h : Nat) (s t : ByteArray) (w : World) (hs : s.size ≤ 1000000) (ht : t.size ≤ 1000000) (hm : ML w) {c : Nat} (hc : (if rchk s ≠ 0 then rchk s else rchk t) = c) (h0 : c ≠ 0) :
  Calls Tryz.prog 119 #[.string s, .string t, .func (.func h) #[] #[]] w (E2i c w) := by
 by_cases h1 : rchk s = 0
 ·rw [if_neg (by simp [h1])] at hc
  subst hc
  exact withTwo_err2I h s t w hs ht hm (ml_pos hm) h1 h0
 ·rw [if_pos h1] at hc
  subst hc
  exact withTwo_err1I h s t w hs hm (ml_pos hm) h1
set_option maxHeartbeats 1600000 in
theorem Cmp_err {s t : ByteArray} (w : World) (hs : s.size ≤ 1000000) (ht : t.size ≤ 1000000) (hm : ML w) {c : Nat} (hc : (if rchk s ≠ 0 then rchk s else rchk t) = c) (h0 : c ≠ 0) :
  Calls Tryz.prog 93 #[.string s, .string t] w (E2i c w) := by
 have HC := Lib.hid (withTwo_errI 120 s t w hs ht hm hc h0)
 unfold E2i at HC ⊢
 clear hm hs ht hc h0
 go_enter Tryz.func93, Tryz.ntmps93
 go_wp2_with fail
 refine HC.out.mono ?_
 rintro e w1 ⟨rfl, hb⟩
 have HB := Lib.hid hb
 clear hb HC
 go_wp2_with fail
 go_ret2
 exact ⟨rfl, HB.out⟩
open Go.RowKit NV
open Go.Lib (decDigits)
open Go.RowKit NV
open Go.Lib (decDigits)
def PR (T : ByteArray × Nat) (w : World) (e : Ending) (w' : World) : Prop := e = .returned (.tuple #[.string T.1, .int .i64 ((T.2 : Nat) : Int)]) ∧ Below w.heap.size w w'
open Go.RowKit NV
open Go.Lib (decDigits)
end Go.Proofs.YtjpepjooefkbkaaGreatDoor
