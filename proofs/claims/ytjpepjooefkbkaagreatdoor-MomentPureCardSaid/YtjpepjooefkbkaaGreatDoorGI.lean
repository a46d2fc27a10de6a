/-
  exact.Fraction's Fits and IsWhole. exact.Fraction's Text; rat's write. IsZero of exact.Natural and of exact.Fraction. exact.Fraction's normal. exact.Fraction's Negated.
-/
import Derived.Test.YtjpepjooefkbkaaGreatDoorGH
import Derived.Test.YtjpepjooefkbkaaGreatDoorGC
namespace Go.Proofs.YtjpepjooefkbkaaGreatDoor
open Go.RowKit NV
open Go.Lib (decDigits)
set_option maxHeartbeats 1600000 in
theorem fits2_any {w : World} {m : Bool} {x y : Value} {n d : Nat} (hx : Num w x n) (hy : Num w y d) (hn : ln n ≤ 1000000) (hd : ln d ≤ 1000000) :
  Calls Tryz.prog 96 #[.agg #[.bool m, x, y], .int .i64 4000] w fun e w' => e = .returned (.bool (fitB n && fitB d)) ∧ Below w.heap.size w w' := by
 obtain ⟨a1, k1, rfl⟩ := slice_any hx
 obtain ⟨a2, k2, rfl⟩ := slice_any hy
 have hb0 : Below w.heap.size w (w.alloc (.cells #[.bool m, .slice a1 (ln n) k1, .slice a2 (ln d) k2] 110)) := (Below.refl _ _).alloc (Nat.le_refl _) _
 have HX := Lib.hid (digits_any (hx.below hb0) (by omega))
 have HY := Lib.hid (digits_any (hy.below hb0) (by omega))
 have HB := Lib.hid hb0
 clear hx hy hb0
 by_cases h1 : (decDigits n).length ≤ 4000
 ·have e1 : ((decDigits n).length : Int) ≤ 4000 := by omega
  by_cases h2 : (decDigits d).length ≤ 4000
  ·have e2 : ((decDigits d).length : Int) ≤ 4000 := by omega
   rw [fitB_yes h1, fitB_yes h2]
   clear h1 h2
   go_enter Tryz.func96, Tryz.ntmps96
   go_wp2_with fail
   refine HX.out.mono ?_
   rintro e w1 ⟨rfl, rfl⟩
   go_wp2_with fail
   refine HY.out.mono ?_
   rintro e w1 ⟨rfl, rfl⟩
   go_wp2_with fail
   go_ret
   exact ⟨rfl, HB.out⟩
  ·have e2 : ¬ ((decDigits d).length : Int) ≤ 4000 := by omega
   rw [fitB_yes h1, fitB_no h2]
   clear h1 h2
   go_enter Tryz.func96, Tryz.ntmps96
   go_wp2_with fail
   refine HX.out.mono ?_
   rintro e w1 ⟨rfl, rfl⟩
   go_wp2_with fail
   refine HY.out.mono ?_
   rintro e w1 ⟨rfl, rfl⟩
   go_wp2_with fail
   go_ret
   exact ⟨ret_bool (by simp; omega), HB.out⟩
 ·have e1 : ¬ ((decDigits n).length : Int) ≤ 4000 := by omega
  rw [fitB_no h1, Bool.false_and]
  clear h1
  go_enter Tryz.func96, Tryz.ntmps96
  go_wp2_with fail
  refine HX.out.mono ?_
  rintro e w1 ⟨rfl, rfl⟩
  go_wp2_with fail
  go_ret
  exact ⟨rfl, HB.out⟩
set_option maxHeartbeats 800000 in
theorem isWhole_any {w : World} {m : Bool} {x y : Value} {n d : Nat} (hx : Num w x n) (hy : Num w y d) :
  Calls Tryz.prog 124 #[.agg #[.bool m, x, y]] w fun e w' => e = .returned (.bool (oneB d)) ∧ Below w.heap.size w w' := by
 obtain ⟨a1, k1, rfl⟩ := slice_any hx
 obtain ⟨a2, k2, rfl⟩ := slice_any hy
 have hb0 : Below w.heap.size w (w.alloc (.cells #[.bool m, .slice a1 (ln n) k1, .slice a2 (ln d) k2] 110)) := (Below.refl _ _).alloc (Nat.le_refl _) _
 have HY := Lib.hid (isOne_any (hy.below hb0))
 have HB := Lib.hid hb0
 clear hx hy hb0
 go_enter Tryz.func124, Tryz.ntmps124
 go_wp2_with fail
 refine HY.out.mono ?_
 rintro e w1 ⟨rfl, rfl⟩
 go_wp2_with fail
 go_ret
 exact ⟨rfl, HB.out⟩
open Go.RowKit NV
open Go.Lib (decDigits)
def rstr (m : Bool) (n d : Nat) : ByteArray :=
 if d = 1 then (if m then ⟨#[45]⟩ ++ dstr n else dstr n) else (if m then ⟨#[45]⟩ ++ dstr n else dstr n) ++ ⟨#[47]⟩ ++ dstr d
set_option maxHeartbeats 1600000 in
set_option maxRecDepth 100000 in
theorem ftext_any {w : World} {m : Bool} {x y : Value} {n d : Nat} (hx : Num w x n) (hy : Num w y d) (hn : Ok n) (hd : Ok d) (htab : Tab w) :
  Calls Tryz.prog 97 #[.agg #[.bool m, x, y]] w fun e w' => e = .returned (.string (rstr m n d)) ∧ Below w.heap.size w w' := by
 have hln := hn.ln
 have hld := hd.ln
 have hsn : (dstr n).size ≤ 4000 := by rw [dstr_size]; exact hn
 have hsd : (dstr d).size ≤ 4000 := by rw [dstr_size]; exact hd
 obtain ⟨a1, k1, rfl⟩ := slice_any hx
 obtain ⟨a2, k2, rfl⟩ := slice_any hy
 have hb0 : Below w.heap.size w (w.alloc (.cells #[.bool m, .slice a1 (ln n) k1, .slice a2 (ln d) k2] 110)) := (Below.refl _ _).alloc (Nat.le_refl _) _
 have hq0 : FR (w.alloc (.cells #[.bool m, .slice a1 (ln n) k1, .slice a2 (ln d) k2] 110)) w.heap.size m (.slice a1 (ln n) k1) (.slice a2 (ln d) k2) := heap_alloc_new w _
 have HX := Lib.hid (hx.below hb0)
 have HY := Lib.hid (hy.below hb0)
 have HT := Lib.hid (htab.below hb0)
 have HB := Lib.hid hb0
 have HQ := Lib.hid hq0
 clear hx hy hb0 hq0 htab
 go_enter Tryz.func97, Tryz.ntmps97
 go_wp2_with fail
 generalize w.alloc (.cells #[.bool m, .slice a1 (ln n) k1, .slice a2 (ln d) k2] 110) = w0 at HX HY HT HB HQ ⊢
 refine (text_any HX.out (by omega) HT.out).mono ?_
 rintro e w1 ⟨rfl, hb1⟩
 have hlt : w.heap.size < w0.heap.size := (Array.getElem?_eq_some_iff.1 HQ.out).1
 have HQ1 := Lib.hid (show FR w1 w.heap.size m (.slice a1 (ln n) k1) (.slice a2 (ln d) k2) from (hb1.block _ hlt).trans HQ.out)
 have HX1 := Lib.hid (HX.out.below hb1)
 have HY1 := Lib.hid (HY.out.below hb1)
 have HT1 := Lib.hid (HT.out.below hb1)
 have HB1 := Lib.hid (HB.out.trans (hb1.mono HB.out.size))
 have HW := Lib.hid (isWhole_any (m := m) HX1.out HY1.out)
 clear hb1
 have c0 : w1.cell? ⟨w.heap.size, 0, none⟩ = some (.bool m) := by rw [Lib.cell_of_heap HQ1.out]; rfl
 have c1 : w1.cell? ⟨w.heap.size, 1, none⟩ = some (.slice a1 (ln n) k1) := by rw [Lib.cell_of_heap HQ1.out]; rfl
 have c2 : w1.cell? ⟨w.heap.size, 2, none⟩ = some (.slice a2 (ln d) k2) := by rw [Lib.cell_of_heap HQ1.out]; rfl
 rw [show (⟨(decDigits n).toArray⟩ : ByteArray) = dstr n from rfl]
 obtain ⟨P, hP⟩ : ∃ P, P = (if m then ⟨#[45]⟩ ++ dstr n else dstr n) := ⟨_, rfl⟩
 go_upto_if 8 with fail
 go_cut [3] from 4 to 10 (fun s3 wx => s3 = .string P ∧ wx = w1)
 case first =>
  have HP := Lib.hid hP
  clear hP
  cases m with
  | true =>
   go_wp2_with fail
   go_meet
   exact ⟨congrArg Value.string (by rw [HP.out]; rfl), rfl⟩
  | false =>
   go_wp2_with fail
   go_meet
   exact ⟨congrArg Value.string (by rw [HP.out]; rfl), rfl⟩
 case rest =>
  obtain ⟨rfl, rfl⟩ := hcut
  have hps : P.size ≤ 4001 := by
   rw [hP]
   cases m
   ·simp only [Bool.false_eq_true, if_false]; omega
   ·simp only [if_true, ByteArray.size_append]
    have : (⟨#[45]⟩ : ByteArray).size = 1 := rfl
    omega
  by_cases hd1 : d = 1
  ·have HR := Lib.hid (show P = rstr m n d by rw [rstr, if_pos hd1, hP])
   have hob : oneB d = true := by rw [hd1, oneB_yes]
   rw [hob] at HW
   clear hd1 hP hob
   go_wp2_with fail
   refine HW.out.mono ?_
   rintro e w2 ⟨rfl, hb2⟩
   have HB2 := Lib.hid (HB1.out.trans (hb2.mono HB1.out.size))
   clear hb2
   go_wp2_with fail
   go_ret
   exact ⟨by rw [← HR.out]; rfl, HB2.out⟩
  ·have HR := Lib.hid (show P ++ ⟨#[47]⟩ ++ dstr d = rstr m n d by rw [rstr, if_neg hd1, hP])
   rw [oneB_no hd1] at HW
   have hs1 : (P ++ (⟨#[47]⟩ : ByteArray)).size ≤ 4002 := by
    rw [ByteArray.size_append]
    have : (⟨#[47]⟩ : ByteArray).size = 1 := rfl
    omega
   clear hd1 hP
   go_wp2_with fail
   refine HW.out.mono ?_
   rintro e w2 ⟨rfl, hb2⟩
   have hlt1 : w.heap.size < wc.heap.size := (Array.getElem?_eq_some_iff.1 HQ1.out).1
   have HQ2 := Lib.hid (show FR w2 w.heap.size m (.slice a1 (ln n) k1) (.slice a2 (ln d) k2) from (hb2.block _ hlt1).trans HQ1.out)
   have HY2 := Lib.hid (HY1.out.below hb2)
   have HT2 := Lib.hid (HT1.out.below hb2)
   have HB2 := Lib.hid (HB1.out.trans (hb2.mono HB1.out.size))
   clear hb2 c0 c1 c2
   have c2 : w2.cell? ⟨w.heap.size, 2, none⟩ = some (.slice a2 (ln d) k2) := by rw [Lib.cell_of_heap HQ2.out]; rfl
   go_wp2_with fail
   refine (text_any HY2.out (by omega) HT2.out).mono ?_
   rintro e w3 ⟨rfl, hb3⟩
   have HB3 := Lib.hid (HB2.out.trans (hb3.mono HB2.out.size))
   clear hb3
   rw [show (⟨(decDigits d).toArray⟩ : ByteArray) = dstr d from rfl]
   go_wp2_with fail
   go_ret
   exact ⟨by rw [← HR.out]; rfl, HB3.out⟩
def wR (m : Bool) (n d : Nat) : ByteArray × Nat := if (decDigits n).length ≤ 4000 ∧ (decDigits d).length ≤ 4000 then (rstr m n d, 0) else (⟨#[]⟩, 5)
set_option maxHeartbeats 1600000 in
set_option maxRecDepth 100000 in
theorem write_any {w : World} {m : Bool} {x y : Value} {n d : Nat} (hx : Num w x n) (hy : Num w y d) (hn : ln n ≤ 1000000) (hd : ln d ≤ 1000000) (htab : Tab w) :
  Calls Tryz.prog 67 #[.agg #[.bool m, x, y]] w fun e w' => e = .returned (.tuple #[.string (wR m n d).1, .int .i64 ((wR m n d).2 : Int)]) ∧ Below w.heap.size w w' := by
 obtain ⟨a1, k1, rfl⟩ := slice_any hx
 obtain ⟨a2, k2, rfl⟩ := slice_any hy
 have hb0 : Below w.heap.size w (w.alloc (.cells #[.bool m, .slice a1 (ln n) k1, .slice a2 (ln d) k2] 110)) := (Below.refl _ _).alloc (Nat.le_refl _) _
 have hq0 : FR (w.alloc (.cells #[.bool m, .slice a1 (ln n) k1, .slice a2 (ln d) k2] 110)) w.heap.size m (.slice a1 (ln n) k1) (.slice a2 (ln d) k2) := heap_alloc_new w _
 have HX := Lib.hid (hx.below hb0)
 have HY := Lib.hid (hy.below hb0)
 have HT := Lib.hid (htab.below hb0)
 have HB := Lib.hid hb0
 have HQ := Lib.hid hq0
 have HF := Lib.hid (fits2_any (m := m) (hx.below hb0) (hy.below hb0) hn hd)
 clear hx hy hb0 hq0 htab
 by_cases hok : (decDigits n).length ≤ 4000 ∧ (decDigits d).length ≤ 4000
 ·have hw : wR m n d = (rstr m n d, 0) := if_pos hok
  rw [hw]
  rw [fitB_yes hok.1, fitB_yes hok.2, Bool.true_and] at HF
  have HOK := Lib.hid hok
  clear hok hw
  go_enter Tryz.func67, Tryz.ntmps67
  go_wp2_with fail
  generalize w.alloc (.cells #[.bool m, .slice a1 (ln n) k1, .slice a2 (ln d) k2] 110) = w0 at HX HY HT HB HQ HF ⊢
  refine HF.out.mono ?_
  rintro e w1 ⟨rfl, hb1⟩
  have hlt : w.heap.size < w0.heap.size := (Array.getElem?_eq_some_iff.1 HQ.out).1
  have HQ1 := Lib.hid (show FR w1 w.heap.size m (.slice a1 (ln n) k1) (.slice a2 (ln d) k2) from (hb1.block _ hlt).trans HQ.out)
  have HTX := Lib.hid (ftext_any (m := m) (HX.out.below hb1) (HY.out.below hb1) HOK.out.1 HOK.out.2 (HT.out.below hb1))
  have HB1 := Lib.hid (HB.out.trans (hb1.mono HB.out.size))
  clear hb1
  have c0 : w1.cell? ⟨w.heap.size, 0, none⟩ = some (.bool m) := by rw [Lib.cell_of_heap HQ1.out]; rfl
  have c1 : w1.cell? ⟨w.heap.size, 1, none⟩ = some (.slice a1 (ln n) k1) := by rw [Lib.cell_of_heap HQ1.out]; rfl
  have c2 : w1.cell? ⟨w.heap.size, 2, none⟩ = some (.slice a2 (ln d) k2) := by rw [Lib.cell_of_heap HQ1.out]; rfl
  go_wp2_with fail
  refine HTX.out.mono ?_
  rintro e w2 ⟨rfl, hb2⟩
  have HB2 := Lib.hid (HB1.out.trans (hb2.mono HB1.out.size))
  clear hb2
  go_wp2_with fail
  go_ret2
  exact ⟨rfl, HB2.out⟩
 ·have hw : wR m n d = (⟨#[]⟩, 5) := if_neg hok
  rw [hw]
  have hf : (fitB n && fitB d) = false := by
   rw [fitB, fitB]
   simp only [Bool.and_eq_false_iff, decide_eq_false_iff_not]
   by_cases h : (decDigits n).length ≤ 4000
   ·exact .inr (fun h2 => hok ⟨h, h2⟩)
   ·exact .inl h
  rw [hf] at HF
  clear hok hw hf
  go_enter Tryz.func67, Tryz.ntmps67
  go_wp2_with fail
  refine HF.out.mono ?_
  rintro e w1 ⟨rfl, hb1⟩
  have HB1 := Lib.hid (HB.out.trans (hb1.mono HB.out.size))
  clear hb1
  go_wp2_with fail
  go_ret2
  exact ⟨rfl, HB1.out⟩
open Go.RowKit NV
def zeroB (n : Nat) : Bool := decide (n = 0)
set_option maxHeartbeats 800000 in
theorem nzero_any {w : World} {x : Value} {n : Nat} (hx : Num w x n) :
  Calls Tryz.prog 106 #[x] w fun e w' => e = .returned (.bool (zeroB n)) ∧ w = w' := by
 obtain ⟨a1, k1, rfl⟩ := slice_any hx
 by_cases h : n = 0
 ·have HZ := Lib.hid (show true = zeroB n by rw [zeroB, h]; rfl)
  have hl : ln n = 0 := by rw [h, ln_zero]
  rw [hl]
  clear hx h hl
  go_enter Tryz.func106, Tryz.ntmps106
  go_wp2_with fail
  go_ret
  exact ⟨ret_bool HZ.out, rfl⟩
 ·have HZ := Lib.hid (show false = zeroB n by rw [zeroB, decide_eq_false h])
  have hl : (((ln n : Nat) : Int) == 0) = false := by have := ln_pos h; rw [beq_eq_false_iff_ne]; omega
  clear hx h
  go_enter Tryz.func106, Tryz.ntmps106
  go_wp2_with fail
  go_ret
  exact ⟨ret_bool HZ.out, rfl⟩
set_option maxHeartbeats 800000 in
theorem fzero_any {w : World} {m : Bool} {x y : Value} {n d : Nat} (hx : Num w x n) (hy : Num w y d) :
  Calls Tryz.prog 72 #[.agg #[.bool m, x, y]] w fun e w' => e = .returned (.bool (zeroB n)) ∧ Below w.heap.size w w' := by
 obtain ⟨a1, k1, rfl⟩ := slice_any hx
 obtain ⟨a2, k2, rfl⟩ := slice_any hy
 have hb0 : Below w.heap.size w (w.alloc (.cells #[.bool m, .slice a1 (ln n) k1, .slice a2 (ln d) k2] 110)) := (Below.refl _ _).alloc (Nat.le_refl _) _
 have HX := Lib.hid (nzero_any (hx.below hb0))
 have HB := Lib.hid hb0
 clear hx hy hb0
 go_enter Tryz.func72, Tryz.ntmps72
 go_wp2_with fail
 refine HX.out.mono ?_
 rintro e w1 ⟨rfl, rfl⟩
 go_wp2_with fail
 go_ret
 exact ⟨rfl, HB.out⟩
open Go.RowKit NV
theorem FR.resultN {w : World} {b : Nat} {m : Bool} {n d : Value} {tmps : Array Value} (h : FR w b m n d) (ht : tmps.getD 2 undef = .pointer (some ⟨b, 0, none⟩)) : (results Tryz.f104 tmps).run Tryz.prog w = .ok (.agg #[.bool m, n, d]) w := by
 have hl := h.load
 have ht' : tmps[2]?.getD undef = .pointer (some ⟨b, 0, none⟩) := by rw [← ht]; simp
 simp [results, ht', asAddr, hl]
set_option maxHeartbeats 1600000 in
set_option maxRecDepth 100000 in
theorem normal_any {w : World} {m : Bool} {x y : Value} {n d : Nat} (hx : Num w x n) (hy : Num w y d) :
  Calls Tryz.prog 104 #[.agg #[.bool m, x, y]] w fun e w' => e = .returned (.agg #[.bool (m && !zeroB n), x, y]) ∧ Below w.heap.size w w' := by
 obtain ⟨a1, k1, rfl⟩ := slice_any hx
 obtain ⟨a2, k2, rfl⟩ := slice_any hy
 have hb0 : Below w.heap.size w ((w.alloc (.cells #[.bool m, .slice a1 (ln n) k1, .slice a2 (ln d) k2] 110)).alloc (.cells #[.bool false, .slice none 0 0, .slice none 0 0] 110)) := ((Below.refl _ _).alloc (Nat.le_refl _) _).alloc (by simp) _
 have HX := Lib.hid (hx.below hb0)
 have HY := Lib.hid (hy.below hb0)
 have HB := Lib.hid hb0
 have HQa := Lib.hid (show FR ((w.alloc (.cells #[.bool m, .slice a1 (ln n) k1, .slice a2 (ln d) k2] 110)).alloc (.cells #[.bool false, .slice none 0 0, .slice none 0 0] 110)) w.heap.size m (.slice a1 (ln n) k1) (.slice a2 (ln d) k2) from (Lib.alloc_old _ _ _ (by simp)).trans (heap_alloc_new w _))
 have HQb := Lib.hid (show FR ((w.alloc (.cells #[.bool m, .slice a1 (ln n) k1, .slice a2 (ln d) k2] 110)).alloc (.cells #[.bool false, .slice none 0 0, .slice none 0 0] 110)) (w.heap.size + 1) false (.slice none 0 0) (.slice none 0 0) from by
  have := heap_alloc_new (w.alloc (.cells #[.bool m, .slice a1 (ln n) k1, .slice a2 (ln d) k2] 110)) (.cells #[.bool false, .slice none 0 0, .slice none 0 0] 110)
  simpa [FR] using this)
 clear hx hy hb0
 go_enter Tryz.func104, Tryz.ntmps104
 cases m with
 | false =>
  go_wp2_with fail
  have hq : FR ((w.alloc (.cells #[.bool false, .slice a1 (ln n) k1, .slice a2 (ln d) k2] 110)).alloc (.cells #[.bool false, .slice a1 (ln n) k1, .slice a2 (ln d) k2] 110)) (w.heap.size + 1) false (.slice a1 (ln n) k1) (.slice a2 (ln d) k2) := by
   have := heap_alloc_new (w.alloc (.cells #[.bool false, .slice a1 (ln n) k1, .slice a2 (ln d) k2] 110)) (.cells #[.bool false, .slice a1 (ln n) k1, .slice a2 (ln d) k2] 110)
   simpa [FR] using this
  exact bodyPost_ret (hq.resultN rfl) rfl ⟨by rw [Bool.false_and], ((Below.refl _ _).alloc (Nat.le_refl _) _).alloc (by simp) _⟩
 | true =>
  go_wp2_with fail
  generalize (w.alloc (.cells #[.bool true, .slice a1 (ln n) k1, .slice a2 (ln d) k2] 110)).alloc (.cells #[.bool false, .slice none 0 0, .slice none 0 0] 110) = w1 at HX HY HB HQa HQb ⊢
  have hla : w.heap.size < w1.heap.size := (Array.getElem?_eq_some_iff.1 HQa.out).1
  have hlb : w.heap.size + 1 < w1.heap.size := (Array.getElem?_eq_some_iff.1 HQb.out).1
  refine (fzero_any (m := true) HX.out HY.out).mono ?_
  rintro e w2 ⟨rfl, hb2⟩
  have HA2 := Lib.hid (show FR w2 w.heap.size true (.slice a1 (ln n) k1) (.slice a2 (ln d) k2) from (hb2.block _ hla).trans HQa.out)
  have HB2 := Lib.hid (show FR w2 (w.heap.size + 1) false (.slice none 0 0) (.slice none 0 0) from (hb2.block _ hlb).trans HQb.out)
  have HBW := Lib.hid (HB.out.trans (hb2.mono (Nat.le_of_lt hla)))
  clear hb2
  have c0 : w2.cell? ⟨w.heap.size, 0, none⟩ = some (.bool true) := by rw [Lib.cell_of_heap HA2.out]; rfl
  have c1 : w2.cell? ⟨w.heap.size, 1, none⟩ = some (.slice a1 (ln n) k1) := by rw [Lib.cell_of_heap HA2.out]; rfl
  have c2 : w2.cell? ⟨w.heap.size, 2, none⟩ = some (.slice a2 (ln d) k2) := by rw [Lib.cell_of_heap HA2.out]; rfl
  have f0 : w2.frozen? ⟨w.heap.size, 0, none⟩ = false := Lib.frozen_of_heap HA2.out 0
  have d0 : w2.cell? ⟨w.heap.size + 1, 0, none⟩ = some (.bool false) := by rw [Lib.cell_of_heap HB2.out]; rfl
  have d1 : w2.cell? ⟨w.heap.size + 1, 1, none⟩ = some (.slice none 0 0) := by rw [Lib.cell_of_heap HB2.out]; rfl
  have d2 : w2.cell? ⟨w.heap.size + 1, 2, none⟩ = some (.slice none 0 0) := by rw [Lib.cell_of_heap HB2.out]; rfl
  have g0 : w2.frozen? ⟨w.heap.size + 1, 0, none⟩ = false := Lib.frozen_of_heap HB2.out 0
  have g1 : w2.frozen? ⟨w.heap.size + 1, 1, none⟩ = false := Lib.frozen_of_heap HB2.out 1
  have g2 : w2.frozen? ⟨w.heap.size + 1, 2, none⟩ = false := Lib.frozen_of_heap HB2.out 2
  go_wp2_with fail
  have hq3 : FR (w2.setCell ⟨w.heap.size, 0, none⟩ (.bool (!zeroB n))) (w.heap.size + 1) false (.slice none 0 0) (.slice none 0 0) := (heap_setCell_other w2 ⟨w.heap.size, 0, none⟩ (w.heap.size + 1) _ (by show w.heap.size + 1 ≠ w.heap.size; omega)).trans HB2.out
  exact bodyPost_ret ((hq3.st (!zeroB n) (.slice a1 (ln n) k1) (.slice a2 (ln d) k2)).resultN rfl) rfl ⟨by rw [Bool.true_and], below_st3 (HBW.out.setCell (Nat.le_refl _) _) (by omega) _ _ _⟩
open Go.RowKit NV
end Go.Proofs.YtjpepjooefkbkaaGreatDoor
