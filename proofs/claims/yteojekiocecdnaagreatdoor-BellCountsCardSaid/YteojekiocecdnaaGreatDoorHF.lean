/-
  The reference of rat: functions of one text: the errors, and Neg, Inv, Sign of numbers. The reference of rat: Abs, Sign, Parts of numbers; rat's functions of one text: the errors. The reference of rat: Abs of a number; Neg, Abs, Inv, Sign of both for every text.
-/
import Derived.Test.YteojekiocecdnaaGreatDoorHE
import Derived.Test.YteojekiocecdnaaGreatDoorHH
namespace Go.Proofs.YteojekiocecdnaaGreatDoor
open Go.RowKit NV
open Go.Lib (decDigits)

/-- A number of the reference laid. -/
theorem one_newQ (w : World) (m : Bool) (x y : Value) : Below w.heap.size w (w.alloc (.cells #[.bool m, x, y] 77)) ∧ QR (w.alloc (.cells #[.bool m, x, y] 77)) w.heap.size m x y :=
  ⟨(Below.refl _ _).alloc (Nat.le_refl _) _, QR.new w m x y⟩

set_option maxHeartbeats 1600000 in
set_option maxRecDepth 100000 in
theorem rPow_err1 {s : ByteArray} {n : Int} (w : World) (hs : s.size ≤ 140737488351232) {c : Nat} (hc : rchk s = c) (h0 : c ≠ 0) :
    Calls Tryz.prog 51 #[.string s, .int .i64 n] w fun e w' => e = .returned (.tuple #[.string ⟨#[]⟩, .int .i64 ((c : Nat) : Int)]) ∧ Below w.heap.size w w' := by
  have HT := Lib.hid (rread_any s w hs)
  unfold RRet at HT
  rw [hc] at HT
  have hne := errne h0
  clear hs hc h0
  go_enter Tryz.func51, Tryz.ntmps51
  go_wp2_with fail
  refine HT.out.mono ?_
  rintro e w1 ⟨⟨m1, a1, L1, k1, b1, M1, l1, rfl⟩, hb1⟩
  have HB := Lib.hid (hb1.trans ((one_newQ w1 m1 (.slice a1 L1 k1) (.slice b1 M1 l1)).1.mono hb1.size))
  clear hb1 HT
  go_wp2_with fail
  go_ret2
  exact ⟨rfl, HB.out⟩

open Go.RowKit NV
open Go.Lib (decDigits)

set_option maxHeartbeats 1600000 in
theorem Sign_err1 {s : ByteArray} (w : World) (hs : s.size ≤ 1000000) (hm : ML w) {c : Nat} (hc : rchk s = c) (h0 : c ≠ 0) :
    Calls Tryz.prog 115 #[.string s] w fun e w' => e = .returned (.tuple #[.int .i64 0, .int .i64 ((c : Nat) : Int)]) ∧ Below w.heap.size w w' := by
  have HC := Lib.hid (withOne_errI (.func (.func 174) #[] #[]) s w hs hm (by rw [hc]; exact h0))
  rw [hc] at HC
  clear hm hs hc h0
  go_enter Tryz.func115, Tryz.ntmps115
  go_wp2_with fail
  refine HC.out.mono ?_
  rintro e w1 ⟨rfl, hb⟩
  have HB := Lib.hid hb
  clear hb HC
  go_wp2_with fail
  go_ret2
  exact ⟨rfl, HB.out⟩

open Go.RowKit NV
open Go.Lib (decDigits)

theorem qq_abs {W : World} {x y : Value} {p : Rat} (h1 : INum W x (tp p)) (h2 : INum W y p.den) : QQ W (.agg #[.bool false, x, y]) (absQ p) := by
  obtain ⟨e1, e2, e3⟩ := abs_parts p
  unfold QQ
  rw [e1, e2, e3]
  exact ⟨x, y, rfl, h1, h2⟩

end Go.Proofs.YteojekiocecdnaaGreatDoor
