/-
  The statements' own helpers of layer 2: sum, product, valid, lives. The statements' own helper of layer 2: lives.
-/
import Derived.Test.YtjpepjooefkbkaaGreatDoorHI
import Derived.Test.YtjpepjooefkbkaaGreatDoorHH
namespace Go.Proofs.YtjpepjooefkbkaaGreatDoor
open Go.RowKit NV
open Go.Lib (decDigits)
theorem Sz.qok {k : Nat} {q : Rat} (h : Sz k q) (hk0 : 0 < k) (hk : k ≤ 4000) : QOk q :=
 ⟨Nat.le_trans ((dec_len_le hk0).2 h.1) hk, Nat.le_trans ((dec_len_le hk0).2 h.2) hk⟩
theorem qstr_sizes (q : Rat) : (decDigits (tp q)).length ≤ (qstr q).size ∧ (decDigits q.den).length ≤ (qstr q).size := by
 have hi : (istr (ng q) (tp q)).size = (if ng q then 1 else 0) + (decDigits (tp q)).length := by
  rw [Go.Lib.size_eq, istr_list]; cases ng q <;> simp <;> omega
 have hd := dec_len_pos (tp q)
 unfold qstr
 rw [rstr_eq]
 by_cases h : q.den = 1
 ·rw [if_pos h, hi, h, dec_one]
  constructor
  ·omega
  ·show 1 ≤ _; omega
 ·rw [if_neg h, ByteArray.size_append, ByteArray.size_append, hi, dstr_size]
  have : (⟨#[47]⟩ : ByteArray).size = 1 := rfl
  omega
open Go.RowKit NV
open Go.Lib (decDigits)
theorem digit_str {n : Nat} (h : n < 10) : dstr n = ⟨#[UInt8.ofNat (48 + n)]⟩ := by rw [dstr, dec_small h]
def q12 : Rat := ⟨1, 2, by decide, by decide⟩
def q13 : Rat := ⟨1, 3, by decide, by decide⟩
def q32 : Rat := ⟨3, 2, by decide, by decide⟩
theorem frac_str (m : Bool) (n d : Nat) (hn : n < 10) (hd : d < 10) (h1 : d ≠ 1) : rstr m n d = ⟨((if m then [45] else []) ++ [UInt8.ofNat (48 + n), 47, UInt8.ofNat (48 + d)]).toArray⟩ := by
 apply ba_ext
 rw [rstr_eq, if_neg h1, app_list, app_list, istr_list, dstr_list, dec_small hn, dec_small hd]
 cases m <;> simp
theorem s13 : qstr q13 = ⟨#[49, 47, 51]⟩ := (frac_str false 1 3 (by omega) (by omega) (by omega)).trans rfl
theorem small_qok {q : Rat} (h1 : tp q < 10) (h2 : q.den < 10) : QOk q := by
 constructor
 ·unfold Ok; rw [dec_small h1]; simp
 ·unfold Ok; rw [dec_small h2]; simp
theorem lit_eq (l : List UInt8) (s : ByteArray) (h : s.data.toList = l) : (s.toList == l) = true := by
 rw [Go.Lib.toList_data, h]; exact beq_self_eq_true _
end Go.Proofs.YtjpepjooefkbkaaGreatDoor
