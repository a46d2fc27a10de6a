/-
  Package dist: Moment, Factor, Same. Package dist: Moment, Factor; Same.
-/
import Derived.Test.YtjpepjooefkbkaaGreatDoorZB
namespace Go.Proofs.YtjpepjooefkbkaaGreatDoor
section
open Go.RowKit NV Go.Maps Go.Sort Go.Shelf
open Go.Lib (decDigits)
theorem Pow_oQ (p : Rat) (k : Nat) (hp : QOk p) (hk : k ≤ 1000000) (w : World) (htab : Tab w) (hm : ML w) :
  Calls Tryz.prog 30 #[.string (qstr p), .int .i64 (k : Int)] w (PR (oQ (okQ (p ^ k))) w) := by
 have h := Pow_pos p hp k (by omega) w htab hm
 unfold RQ at h
 rw [wQ_oQ] at h
 exact h
theorem Div_oQ (p q : Rat) (hp : QOk p) (hq : QOk q) (h0 : q ≠ 0) (w : World) (htab : Tab w) (hm : ML w) :
  Calls Tryz.prog 31 #[.string (qstr p), .string (qstr q)] w (PR (oQ (okQ (p * q⁻¹))) w) := by
 have h := Div_q p q hp hq w htab hm h0 q⁻¹ rfl
 unfold RQ at h
 rw [wQ_oQ] at h
 exact h
def mxQ (s d : Rat) : Rat := if d < s then s else d
theorem Max_oQ (s d : Rat) (hs : QOk s) (hd : QOk d) (w : World) (hm : ML w) :
  Calls Tryz.prog 40 #[.string (qstr s), .string (qstr d)] w (PR (qstr (mxQ s d), 0) w) := by
 have h := Max_q s d hs hd w hm
 have e : (if 0 < cmpQ s d then qstr s else qstr d) = qstr (mxQ s d) := by
  unfold mxQ
  by_cases h1 : d < s
  ·have h2 := cmpQ_gt h1
   rw [if_pos (by omega), if_pos h1]
  ·have h2 := cmpQ_le.2 (Rat.not_lt.1 h1)
   rw [if_neg (by omega), if_neg h1]
 unfold PR
 rw [← e]
 exact h
def qpO (m : Nat) (x y : Rat) : Option Rat := (okQ (x ^ (m + 1))).bind fun a => (okQ (y ^ m)).bind fun b => okQ (a * b⁻¹)
def momF (m : Nat) (s x y : Rat) : Option Rat := (qpO m x y).bind fun d => okQ (s + d)
def facF (s x y : Rat) : Option Rat := (okQ (x * y⁻¹)).map fun d => mxQ s d
theorem qpO_ok {m : Nat} {x y d : Rat} (h : qpO m x y = some d) : QOk d := by
 unfold qpO at h
 cases h1 : okQ (x ^ (m + 1)) with
 | none => rw [h1] at h; cases h
 | some a =>
  rw [h1] at h
  cases h2 : okQ (y ^ m) with
  | none =>
   have h3 : ((okQ (y ^ m)).bind fun b => okQ (a * b⁻¹)) = some d := h
   rw [h2] at h3; cases h3
  | some b =>
   have h3 : ((okQ (y ^ m)).bind fun b => okQ (a * b⁻¹)) = some d := h
   rw [h2] at h3
   obtain ⟨e, ho⟩ := okQ_some (show okQ (a * b⁻¹) = some d from h3)
   rw [← e]; exact ho
theorem momF_ok {m : Nat} {s x y t : Rat} (h : momF m s x y = some t) : QOk t := by
 unfold momF at h
 cases h1 : qpO m x y with
 | none => rw [h1] at h; cases h
 | some d =>
  rw [h1] at h
  obtain ⟨e, ho⟩ := okQ_some (show okQ (s + d) = some t from h)
  rw [← e]; exact ho
theorem mxQ_ok {s d : Rat} (hs : QOk s) (hd : QOk d) : QOk (mxQ s d) := by
 unfold mxQ
 split
 ·exact hs
 ·exact hd
theorem powne_any {y : Rat} (h : y ≠ 0) : ∀ {m : Nat}, y ^ m ≠ 0
 | 0 => by rw [Rat.pow_zero]; decide
 | m + 1 => by
  rw [Rat.pow_succ]
  intro e
  rcases Rat.mul_eq_zero.1 e with h1 | h1
  ·exact powne_any h h1
  ·exact h h1
end

section
open Go.RowKit NV Go.Maps Go.Sort Go.Shelf
open Go.Lib (decDigits)
def facE (P Q : List MI) : ByteArray × Bool × Nat := if bE P Q ≠ 0 then (⟨#[]⟩, false, bE P Q) else cmpR facF P Q
def momE (P Q : List MI) (n : Int) : ByteArray × Bool × Nat := if bE P Q ≠ 0 then (⟨#[]⟩, false, bE P Q) else if n < 1 ∨ 8 < n then (⟨#[]⟩, false, 2) else cmpR (momF (n - 1).toNat) P Q
theorem facF_ok {s x y t : Rat} (hs : QOk s) (h : facF s x y = some t) : QOk t := by
 unfold facF at h
 cases h1 : okQ (x * y⁻¹) with
 | none => rw [h1] at h; cases h
 | some d =>
  rw [h1] at h
  obtain rfl : mxQ s d = t := by simpa using h
  obtain ⟨e, ho⟩ := okQ_some h1
  exact mxQ_ok hs (e ▸ ho)
theorem struct_massZ : Tryz.prog.underlying 41 = some (.struct (Tryz.prog.fieldsOf 41)) := by kernel_rfl
def fieldsMZ : List (String × Nat × Nat) := [("Key", 9, 0), ("P", 23, 1)]
theorem fields_massZ : (Tryz.prog.fieldsOf 41).toList.map (fun f => (f.name, f.type, f.offset)) = fieldsMZ := by kernel_rfl
theorem part_numZ (cs : Array Value) (off : Nat) (v : Value) (h : cs[off]? = some v) (W : World) : (part 23 cs off).run Tryz.prog W = .ok v W := by
 simp [part, isAgg, run_underlying Tryz.underlying23, h]
theorem list_twoZ {α : Type} {l : List α} (h : l.length = 2) : ∃ a b, l = [a, b] := by
 match l, h with
 | [a, b], _ => exact ⟨a, b, rfl⟩
def eqMZ (x y : MI) : Bool := (x.1.toList == y.1.toList) && (x.2.toList == y.2.toList)
theorem eqMZ_iff {x y : MI} : eqMZ x y = true ↔ x = y := by
 unfold eqMZ
 rw [Bool.and_eq_true, eq_b, eq_b, decide_eq_true_iff, decide_eq_true_iff]
 constructor
 ·rintro ⟨h1, h2⟩
  exact Prod.ext (ba_extZ h1) (ba_extZ h2)
 ·rintro rfl
  exact ⟨rfl, rfl⟩
end

end Go.Proofs.YtjpepjooefkbkaaGreatDoor
