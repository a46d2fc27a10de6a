/-
  The contract of Divide at any lengths.
-/
import Derived.Test.YtiocehlefpbbhaaGreatDoorW19
namespace Go.Proofs.YtiocehlefpbbhaaGreatDoor
open Go.RowKit NV

/-- Divide, whatever the lengths. -/
theorem divide_any {w : World} {x y : Value} {a b : Nat} (hx : Num w x a) (hy : Num w y b) (ha : ln a ≤ 1000000) (hb : ln b ≤ 1000000) (hb0 : b ≠ 0) :
    Calls Tryz.prog 39 #[x, y] w fun e w' => ∃ q r, e = .returned (.tuple #[q, r]) ∧ Num w' q (a / b) ∧ Num w' r (a % b) ∧ Below w.heap.size w w' := by
  by_cases hab : a < b
  · refine (divide_less hx hy ha hb hab).mono ?_
    rintro e w' ⟨rfl, hbe⟩
    exact ⟨_, _, rfl, by rw [Nat.div_eq_of_lt hab]; exact Num.nil w', by rw [Nat.mod_eq_of_lt hab]; exact hx.below hbe, hbe⟩
  · have hl := ln_pos hb0
    by_cases h1 : ln b = 1
    · refine (divide_one hx hy ha h1 (by omega)).mono ?_
      rintro e w' ⟨q, r, rfl, hq, hr, hbe⟩
      exact ⟨_, _, rfl, hq.num, hr.num, hbe⟩
    · refine (divide_many (n := ln b - 2) hx hy ha (by omega) (by omega)).mono ?_
      rintro e w' ⟨q, r, rfl, hq, hr, hbe⟩
      exact ⟨_, _, rfl, hq.num, hr.num, hbe⟩

end Go.Proofs.YtiocehlefpbbhaaGreatDoor
