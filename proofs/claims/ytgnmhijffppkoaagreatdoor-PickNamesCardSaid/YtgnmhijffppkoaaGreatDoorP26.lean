/-
  exact.Fraction's Sign and Compare.
-/
import Derived.Test.YtgnmhijffppkoaaGreatDoorP15
import Derived.Test.YtgnmhijffppkoaaGreatDoorP16
namespace Go.Proofs.YtgnmhijffppkoaaGreatDoor
open Go.RowKit NV

/-- The sign of a fraction. -/
def sgnF (m : Bool) (n : Nat) : Int := if n = 0 then 0 else if m then -1 else 1

set_option maxHeartbeats 1600000 in
theorem fsign_any {w : World} {m : Bool} {x y : Value} {n d : Nat} (hx : Num w x n) (hy : Num w y d) :
    Calls Tryz.prog 210 #[.agg #[.bool m, x, y]] w fun e w' => e = .returned (.int .i64 (sgnF m n)) ∧ Below w.heap.size w w' := by
  obtain ⟨a1, k1, rfl⟩ := slice_any hx
  obtain ⟨a2, k2, rfl⟩ := slice_any hy
  have hb0 : Below w.heap.size w (w.alloc (.cells #[.bool m, .slice a1 (ln n) k1, .slice a2 (ln d) k2] 167)) := (Below.refl _ _).alloc (Nat.le_refl _) _
  have HZ := Lib.hid (fzero_any (m := m) (hx.below hb0) (hy.below hb0))
  have HQ := Lib.hid (FR.new w m (.slice a1 (ln n) k1) (.slice a2 (ln d) k2))
  have HB := Lib.hid hb0
  by_cases hn : n = 0
  · have HR := Lib.hid (show sgnF m n = 0 by rw [sgnF, if_pos hn])
    rw [show zeroB n = true from decide_eq_true hn] at HZ
    clear hx hy hb0 hn
    go_enter Tryz.func210, Tryz.ntmps210
    go_wp2_with fail
    refine HZ.out.mono ?_
    rintro e w1 ⟨rfl, hb1⟩
    replace HB := Lib.hid (HB.out.trans (hb1.mono HB.out.size))
    clear hb1
    go_wp2_with fail
    go_ret
    exact ⟨by rw [HR.out]; rfl, HB.out⟩
  · have HR := Lib.hid (show sgnF m n = if m then -1 else 1 by rw [sgnF, if_neg hn])
    rw [show zeroB n = false from decide_eq_false hn] at HZ
    clear hx hy hb0 hn
    go_enter Tryz.func210, Tryz.ntmps210
    go_wp2_with fail
    refine HZ.out.mono ?_
    rintro e w1 ⟨rfl, hb1⟩
    have c0 := (HQ.out.keep hb1).c0
    replace HB := Lib.hid (HB.out.trans (hb1.mono HB.out.size))
    clear hb1
    cases m with
    | false =>
      go_wp2_with fail
      go_ret
      exact ⟨by rw [HR.out]; rfl, HB.out⟩
    | true =>
      go_wp2_with fail
      go_ret
      exact ⟨by rw [HR.out]; rfl, HB.out⟩

/-- How two fractions compare. -/
def cmpF (m1 : Bool) (n1 d1 : Nat) (m2 : Bool) (n2 d2 : Nat) : Int :=
  if sgnF m1 n1 = sgnF m2 n2 then (if m1 then cmpN (n2 * d1) (n1 * d2) else cmpN (n1 * d2) (n2 * d1)) else Lib.compareInt (sgnF m1 n1) (sgnF m2 n2)

/-- A contract's worlds told from an earlier one. -/
theorem lift_0 {f : Nat} {args : Array Value} {w0 W : World} {v : Value} (h0 : Below w0.heap.size w0 W) (hc : Calls Tryz.prog f args W fun e w' => e = .returned v ∧ Below W.heap.size W w') :
    Calls Tryz.prog f args W fun e w' => e = .returned v ∧ Below W.heap.size W w' ∧ Below w0.heap.size w0 w' :=
  hc.mono fun _ _ ⟨h1, h3⟩ => ⟨h1, h3, h0.trans (h3.mono h0.size)⟩

end Go.Proofs.YtgnmhijffppkoaaGreatDoor
