/-
  Package dist: Moment, Factor, Same. Package dist: Moment, Factor; Same.
-/
import Derived.Test.YtkponlbpgmnpgaaGreatDoorZB
namespace Go.Proofs.YtkponlbpgmnpgaaGreatDoor
section
open Go.RowKit NV Go.Maps Go.Sort Go.Shelf
open Go.Lib (decDigits)
def mxQ (s d : Rat) : Rat := if d < s then s else d
theorem Max_oQ (s d : Rat) (hs : QOk s) (hd : QOk d) (w : World) (hm : ML w) :
  Calls Tryz.prog 110 #[.string (qstr s), .string (qstr d)] w (PR (qstr (mxQ s d), 0) w) := by
 have h := Max_q s d hs hd w hm
 have e : (if 0 < cmpQ s d then qstr s else qstr d) = qstr (mxQ s d) := by
  unfold mxQ
  by_cases h1 : d < s
  ·have h2 := cmpQ_gt h1
   rw [if_pos (by omega), if_pos h1]
  ·have h2 := cmpQ_le.2 (Rat.not_lt.1 h1)
   rw [if_neg (by omega), if_neg h1]
 unfold PR
 rw [← e]
 exact h
end

section
open Go.RowKit NV Go.Maps Go.Sort Go.Shelf
open Go.Lib (decDigits)
theorem struct_massZ : Tryz.prog.underlying 78 = some (.struct (Tryz.prog.fieldsOf 78)) := by kernel_rfl
def fieldsMZ : List (String × Nat × Nat) := [("Key", 9, 0), ("P", 22, 1)]
theorem fields_massZ : (Tryz.prog.fieldsOf 78).toList.map (fun f => (f.name, f.type, f.offset)) = fieldsMZ := by kernel_rfl
theorem part_numZ (cs : Array Value) (off : Nat) (v : Value) (h : cs[off]? = some v) (W : World) : (part 22 cs off).run Tryz.prog W = .ok v W := by
 simp [part, isAgg, run_underlying Tryz.underlying22, h]
theorem list_twoZ {α : Type} {l : List α} (h : l.length = 2) : ∃ a b, l = [a, b] := by
 match l, h with
 | [a, b], _ => exact ⟨a, b, rfl⟩
def eqMZ (x y : MI) : Bool := (x.1.toList == y.1.toList) && (x.2.toList == y.2.toList)
theorem eqMZ_iff {x y : MI} : eqMZ x y = true ↔ x = y := by
 unfold eqMZ
 rw [Bool.and_eq_true, eq_b, eq_b, decide_eq_true_iff, decide_eq_true_iff]
 constructor
 ·rintro ⟨h1, h2⟩
  exact Prod.ext (ba_extZ h1) (ba_extZ h2)
 ·rintro rfl
  exact ⟨rfl, rfl⟩
end

end Go.Proofs.YtkponlbpgmnpgaaGreatDoor
