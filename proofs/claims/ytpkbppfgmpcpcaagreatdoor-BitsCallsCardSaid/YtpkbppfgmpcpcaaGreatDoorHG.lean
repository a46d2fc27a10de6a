/-
  Floor and Ceil of both: the program and the reference return the same for every text. Parts and Check of both, the program's Pow and Parts of a wrong text.
-/
import Derived.Test.YtpkbppfgmpcpcaaGreatDoorHF
namespace Go.Proofs.YtpkbppfgmpcpcaaGreatDoor
open Go.RowKit NV
open Go.Lib (decDigits)

theorem quot_nz {a d : Nat} (h : a ≠ 0) (hr : a % d = 0) : a / d ≠ 0 := by
  intro h0
  have := Nat.div_add_mod a d
  rw [h0, hr] at this
  omega

open Go.RowKit NV
open Go.Lib (decDigits)

set_option maxHeartbeats 1600000 in
theorem Parts_err1 {s : ByteArray} (w : World) (hs : s.size ≤ 1000000) (hm : ML w) {c : Nat} (hc : rchk s = c) (h0 : c ≠ 0) :
    Calls Tryz.prog 191 #[.string s] w fun e w' => e = .returned (.tuple #[.string ⟨#[]⟩, .string ⟨#[]⟩, .int .i64 ((c : Nat) : Int)]) ∧ Below w.heap.size w w' := by
  have hk := qcheck_any s w hs hm
  rw [hc] at hk
  have HK := Lib.hid hk
  have hne := errne h0
  clear hk hc h0 hs hm
  go_enter Tryz.func191, Tryz.ntmps191
  go_wp2_with fail
  refine HK.out.mono ?_
  rintro e w1 ⟨rfl, hb1⟩
  have HB := Lib.hid hb1
  clear hb1 HK
  go_wp2_with fail
  go_ret3
  exact ⟨rfl, HB.out⟩

theorem both_Check (s : ByteArray) (hs : s.size ≤ 1000000) :
    ∃ c : Int, (∀ w, ML w → Calls Tryz.prog 267 #[.string s] w fun e w' => e = .returned (.int .i64 c) ∧ Below w.heap.size w w') ∧
      (∀ w, Calls Tryz.prog 195 #[.string s] w fun e w' => e = .returned (.int .i64 c) ∧ Below w.heap.size w w') :=
  ⟨_, fun w hm => qcheck_any s w hs hm, fun w => rcheck_any s w (by omega)⟩

set_option maxHeartbeats 1600000 in
theorem Pow_err1 {s : ByteArray} {n : Int} (w : World) (hs : s.size ≤ 1000000) (hm : ML w) {c : Nat} (hc : rchk s = c) (h0 : c ≠ 0) :
    Calls Tryz.prog 293 #[.string s, .int .i64 n] w (E2 c w) := by
  have hmf : ∀ (fn : Fn) (first cap : Array Value) (w : World), (Instr.makeFunc fn first cap).run Tryz.prog w = .ok (.func fn first cap) w := fun _ _ _ _ => rfl
  have hb0 : Below w.heap.size w (w.alloc (.cells #[.int .i64 n] 3)) := (Below.refl _ _).alloc (Nat.le_refl _) _
  have hw := withOne_err (.func (.func 353) #[] #[.pointer (some ⟨w.heap.size, 0, none⟩)]) s (w.alloc (.cells #[.int .i64 n] 3)) hs (ml_keep hm (ml_pos hm) hb0) (by rw [hc]; exact h0)
  rw [hc] at hw
  have HC := Lib.hid hw
  have HB := Lib.hid hb0
  unfold E2
  clear hm hs hc h0 hb0 hw
  go_enter Tryz.func293, Tryz.ntmps293
  go_wp2_with fail
  refine HC.out.mono ?_
  rintro e w1 ⟨rfl, hb⟩
  have HB2 := Lib.hid (HB.out.trans (hb.mono HB.out.size))
  clear hb HC
  go_wp2_with fail
  go_ret2
  exact ⟨rfl, HB2.out⟩

end Go.Proofs.YtpkbppfgmpcpcaaGreatDoor
