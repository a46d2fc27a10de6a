/-
  Names as lists of bytes; strings compared; what a binary search among the reserved words finds.
-/
import Derived.Lib.Bytealg
import Derived.Lib.Hide
namespace Go.Proofs.YtgehldadfaonbaaDoor
open Go.Lib

def lettB (c : UInt8) : Bool := decide (97 ≤ c.toNat) && decide (c.toNat ≤ 122)
def digB (c : UInt8) : Bool := decide (48 ≤ c.toNat) && decide (c.toNat ≤ 57)
def okB (c : UInt8) : Bool := lettB c || (digB c || decide (c.toNat = 95))
/-- The reserved words, ascending. -/
def resL : List (List UInt8) := [[97, 98, 111, 118, 101], [97, 110, 100], [98, 97, 116, 99, 104], [98, 101, 116, 119, 101, 101, 110], [98, 105, 116, 115], [98, 121], [99, 111, 110, 115, 105, 115, 116, 101, 110, 116], [99, 111, 117, 110, 116], [101, 108, 115, 101], [102, 97, 99, 116, 111, 114], [102, 114, 111, 109], [104, 105, 115, 116, 111, 103, 114, 97, 109], [105, 100, 101, 110, 116, 105, 116, 121], [105, 102], [106, 111, 105, 110], [107, 101, 101, 112], [108, 97, 116, 101], [108, 105, 109, 105, 116], [109, 111, 100, 101], [110, 111, 110, 101], [110, 111, 116], [111, 102], [111, 110], [111, 114], [112, 101, 97, 107], [112, 114, 101, 102, 105, 120], [113, 117, 97, 110, 116, 105, 108, 101], [114, 117, 110, 110, 105, 110, 103], [115, 117, 109], [116, 104, 101, 110], [116, 111, 116, 97, 108], [116, 114, 101, 101], [117, 115, 105, 110, 103], [119, 104, 101, 114, 101], [119, 105, 116, 104]]
def nameL (l : List UInt8) : Bool := match l with
  | [] => false
  | c :: _ => decide (l.length ≤ 20) && (lettB c && (l.all okB && !(resL.any fun x => x == l)))
/-- Whether a text is a name. -/
def nmB (s : ByteArray) : Bool := nameL s.data.toList

theorem cmp_self : ∀ a : List UInt8, compareBytes a a = 0
  | [] => rfl
  | x :: a => by
    have h : ¬ x < x := by rw [UInt8.lt_iff_toNat_lt]; omega
    simp only [compareBytes, if_neg h, cmp_self a]
theorem cmp_zero : ∀ a b : List UInt8, compareBytes a b = 0 → a = b
  | [], [], _ => rfl
  | [], _ :: _, h => by simp [compareBytes] at h
  | _ :: _, [], h => by simp [compareBytes] at h
  | x :: a, y :: b, h => by
    unfold compareBytes at h
    by_cases h1 : x < y
    · rw [if_pos h1] at h; cases h
    · rw [if_neg h1] at h
      by_cases h2 : y < x
      · rw [if_pos h2] at h; cases h
      · rw [if_neg h2] at h
        rw [UInt8.lt_iff_toNat_lt] at h1 h2
        have e : x = y := UInt8.toNat_inj.1 (by omega)
        rw [e, cmp_zero a b h]
theorem cmp_swap : ∀ a b : List UInt8, compareBytes a b = - compareBytes b a
  | [], [] => rfl
  | [], _ :: _ => rfl
  | _ :: _, [] => rfl
  | x :: a, y :: b => by
    unfold compareBytes
    have ih := cmp_swap a b
    by_cases h1 : x < y
    · have h2 : ¬ y < x := by rw [UInt8.lt_iff_toNat_lt] at h1 ⊢; omega
      rw [if_pos h1, if_neg h2, if_pos h1]
    · by_cases h2 : y < x
      · rw [if_neg h1, if_pos h2, if_pos h2]; rfl
      · rw [if_neg h1, if_neg h2, if_neg h2, if_neg h1, ih]
theorem cmp_trans : ∀ a b c : List UInt8, compareBytes a b ≤ 0 → compareBytes b c < 0 → compareBytes a c < 0
  | [], [], [], _, h => by simp [compareBytes] at h
  | [], [], _ :: _, _, _ => by simp [compareBytes]
  | [], _ :: _, [], _, h => by simp [compareBytes] at h
  | [], _ :: _, _ :: _, _, _ => by simp [compareBytes]
  | _ :: _, [], _, h, _ => by simp [compareBytes] at h
  | _ :: _, _ :: _, [], _, h => by simp [compareBytes] at h
  | x :: a, y :: b, z :: c, h1, h2 => by
    have ih := cmp_trans a b c
    unfold compareBytes at h1 h2 ⊢
    simp only [UInt8.lt_iff_toNat_lt] at h1 h2 ⊢
    by_cases p : x.toNat < y.toNat
    · by_cases q : y.toNat < z.toNat
      · rw [if_pos (by omega)]; omega
      · rw [if_neg q] at h2
        by_cases r : z.toNat < y.toNat
        · rw [if_pos r] at h2; omega
        · rw [if_pos (by omega)]; omega
    · rw [if_neg p] at h1
      by_cases p2 : y.toNat < x.toNat
      · rw [if_pos p2] at h1; omega
      · rw [if_neg p2] at h1
        by_cases q : y.toNat < z.toNat
        · rw [if_pos (by omega)]; omega
        · rw [if_neg q] at h2
          by_cases r : z.toNat < y.toNat
          · rw [if_pos r] at h2; omega
          · rw [if_neg r] at h2
            rw [if_neg (by omega), if_neg (by omega)]
            exact ih h1 h2

theorem res_up : ∀ j, j < 35 → ∀ i, i < j → compareBytes (resL.getD i []) (resL.getD j []) < 0 := by decide +kernel
theorem res_mono (l : List UInt8) {i j : Nat} (hij : i ≤ j) (hj : j < 35) (h : compareBytes l (resL.getD i []) ≤ 0) : compareBytes l (resL.getD j []) ≤ 0 := by
  rcases Nat.eq_or_lt_of_le hij with rfl | hlt
  · exact h
  · exact Int.le_of_lt (cmp_trans _ _ _ h (res_up j hj i hlt))
theorem resL_length : resL.length = 35 := rfl
/-- What the search's end says. -/
theorem res_found (l : List UInt8) (r : Nat) (h1 : ∀ j, j < r → 0 < compareBytes l (resL.getD j [])) (h2 : r < 35 → compareBytes l (resL.getD r []) ≤ 0) :
    (decide (r < 35) && decide (compareBytes l (resL.getD r []) = 0)) = (resL.any fun x => x == l) := by
  rw [Bool.eq_iff_iff]
  simp only [Bool.and_eq_true, decide_eq_true_eq, List.any_eq_true, beq_iff_eq]
  constructor
  · rintro ⟨hr, h0⟩
    have e := cmp_zero _ _ h0
    exact ⟨resL.getD r [], by rw [List.getD_eq_getElem?_getD, List.getElem?_eq_getElem (by rw [resL_length]; exact hr)]; exact List.getElem_mem _, e.symm⟩
  · rintro ⟨x, hx, rfl⟩
    obtain ⟨k, hk, rfl⟩ := List.mem_iff_getElem.1 hx
    have eg : resL.getD k [] = resL[k] := by rw [List.getD_eq_getElem?_getD, List.getElem?_eq_getElem hk]; rfl
    generalize hx0 : resL[k] = x0 at *
    have hk5 : k < 35 := hk
    have hrk : r ≤ k := by
      rcases Nat.lt_or_ge k r with h | h
      · have := h1 k h
        rw [eg, cmp_self] at this
        omega
      · exact h
    rcases Nat.eq_or_lt_of_le hrk with rfl | hlt
    · exact ⟨hk5, by rw [eg, cmp_self]⟩
    · exfalso
      have a := h2 (by omega)
      have b := res_up k hk5 r hlt
      rw [eg] at b
      rw [cmp_swap] at a
      omega

theorem all_take_succ (p : UInt8 → Bool) (l : List UInt8) (k : Nat) (h : k < l.length) : (l.take (k + 1)).all p = ((l.take k).all p && p l[k]) := by
  rw [List.take_succ_eq_append_getElem h, List.all_append]; simp
/-- A byte that is none of a name's spoils it. -/
theorem name_bad (l : List UInt8) (k : Nat) (h : k < l.length) (hb : okB l[k] = false) : nameL l = false := by
  have : l.all okB = false := List.all_eq_false.2 ⟨l[k], List.getElem_mem h, by rw [hb]; decide⟩
  cases l with
  | nil => rfl
  | cons c r => unfold nameL; rw [this]; simp
theorem name_all (l : List UInt8) (h : l.all okB = true) (hn : l ≠ []) (h20 : l.length ≤ 20) (hl : ∀ c r, l = c :: r → lettB c = true) : nameL l = !(resL.any fun x => x == l) := by
  cases l with
  | nil => exact absurd rfl hn
  | cons c r =>
    show (decide ((c :: r).length ≤ 20) && (lettB c && ((c :: r).all okB && !(resL.any fun x => x == c :: r)))) = _
    rw [h, hl c r rfl, decide_eq_true h20]; rfl
theorem name_long (l : List UInt8) (h : 20 < l.length) : nameL l = false := by
  cases l with
  | nil => rfl
  | cons c r => unfold nameL; rw [decide_eq_false (by omega)]; simp
theorem name_first (c : UInt8) (r : List UInt8) (h : lettB c = false) : nameL (c :: r) = false := by
  show (decide ((c :: r).length ≤ 20) && (lettB c && ((c :: r).all okB && !(resL.any fun x => x == c :: r)))) = _
  rw [h]; simp

end Go.Proofs.YtgehldadfaonbaaDoor
