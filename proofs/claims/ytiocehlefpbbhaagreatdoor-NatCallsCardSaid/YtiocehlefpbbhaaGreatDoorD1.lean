/-
  The text of a number, and the numbers that a text can hold.
-/
import Derived.Test.YtiocehlefpbbhaaGreatDoorW12
namespace Go.Proofs.YtiocehlefpbbhaaGreatDoor
open Go.RowKit NV
open Go.Lib (decDigits)

/-- The text of a number. -/
def dstr (n : Nat) : ByteArray := ⟨(decDigits n).toArray⟩

theorem dstr_list (n : Nat) : (dstr n).data.toList = decDigits n := by simp [dstr]
theorem dstr_size (n : Nat) : (dstr n).size = (decDigits n).length := by rw [Go.Lib.size_eq, dstr_list]
theorem dstr_of {s : ByteArray} {n : Nat} (h : s.data.toList = decDigits n) : s = dstr n := by
  cases s with
  | mk d => rw [dstr, ← h]

/-- n is a number that a text can hold. -/
def Ok (n : Nat) : Prop := (decDigits n).length ≤ 4000

theorem Ok.chk {n : Nat} (h : Ok n) : chk (decDigits n) = 0 := by rw [chk_dec, if_neg (by unfold Ok at h; omega)]
theorem Ok.ln {n : Nat} (h : Ok n) : ln n ≤ 445 := ln_of_len (by unfold Ok at h; omega)
theorem Ok.mono {a b : Nat} (h : Ok b) (hab : a ≤ b) : Ok a := Nat.le_trans (dec_len_mono hab) h
theorem ok_iff (n : Nat) : Ok n ↔ n < 10 ^ 4000 := dec_len_le (by omega)

theorem small_str {n : Nat} (h : Ok n) : (dstr n).size ≤ 140737488351232 := by rw [dstr_size]; unfold Ok at h; omega

end Go.Proofs.YtiocehlefpbbhaaGreatDoor
