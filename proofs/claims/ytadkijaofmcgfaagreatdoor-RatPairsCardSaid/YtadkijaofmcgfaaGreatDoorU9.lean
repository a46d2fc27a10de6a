/-
  rat's functions of two texts: the errors.
-/
import Derived.Test.YtadkijaofmcgfaaGreatDoorU8
import Derived.Test.YtadkijaofmcgfaaGreatDoorP27
import Derived.Test.YtadkijaofmcgfaaGreatDoorR25
namespace Go.Proofs.YtadkijaofmcgfaaGreatDoor
open Go.RowKit NV
open Go.Lib (decDigits)

theorem withTwo_err (h : Nat) (s t : ByteArray) (w : World) (hs : s.size ≤ 1000000) (ht : t.size ≤ 1000000) (hm : ML w) {c : Nat} (hc : (if rchk s ≠ 0 then rchk s else rchk t) = c) (h0 : c ≠ 0) :
    Calls Tryz.prog 61 #[.string s, .string t, .func (.func h) #[] #[]] w (E2 c w) := by
  by_cases h1 : rchk s = 0
  · rw [if_neg (by simp [h1])] at hc
    subst hc
    exact withTwo_err2 h s t w hs ht hm (ml_pos hm) h1 h0
  · rw [if_pos h1] at hc
    subst hc
    exact withTwo_err1 h s t w hs hm (ml_pos hm) h1
theorem withTwo_errI (h : Nat) (s t : ByteArray) (w : World) (hs : s.size ≤ 1000000) (ht : t.size ≤ 1000000) (hm : ML w) {c : Nat} (hc : (if rchk s ≠ 0 then rchk s else rchk t) = c) (h0 : c ≠ 0) :
    Calls Tryz.prog 77 #[.string s, .string t, .func (.func h) #[] #[]] w (E2i c w) := by
  by_cases h1 : rchk s = 0
  · rw [if_neg (by simp [h1])] at hc
    subst hc
    exact withTwo_err2I h s t w hs ht hm (ml_pos hm) h1 h0
  · rw [if_pos h1] at hc
    subst hc
    exact withTwo_err1I h s t w hs hm (ml_pos hm) h1

set_option maxHeartbeats 1600000 in
theorem Add_err {s t : ByteArray} (w : World) (hs : s.size ≤ 1000000) (ht : t.size ≤ 1000000) (hm : ML w) {c : Nat} (hc : (if rchk s ≠ 0 then rchk s else rchk t) = c) (h0 : c ≠ 0) :
    Calls Tryz.prog 24 #[.string s, .string t] w (E2 c w) := by
  have HC := Lib.hid (withTwo_err 87 s t w hs ht hm hc h0)
  unfold E2 at HC ⊢
  clear hm hs ht hc h0
  go_enter Tryz.func24, Tryz.ntmps24
  go_wp2_with fail
  refine HC.out.mono ?_
  rintro e w1 ⟨rfl, hb⟩
  have HB := Lib.hid hb
  clear hb HC
  go_wp2_with fail
  go_ret2
  exact ⟨rfl, HB.out⟩

set_option maxHeartbeats 1600000 in
theorem Sub_err {s t : ByteArray} (w : World) (hs : s.size ≤ 1000000) (ht : t.size ≤ 1000000) (hm : ML w) {c : Nat} (hc : (if rchk s ≠ 0 then rchk s else rchk t) = c) (h0 : c ≠ 0) :
    Calls Tryz.prog 14 #[.string s, .string t] w (E2 c w) := by
  have HC := Lib.hid (withTwo_err 62 s t w hs ht hm hc h0)
  unfold E2 at HC ⊢
  clear hm hs ht hc h0
  go_enter Tryz.func14, Tryz.ntmps14
  go_wp2_with fail
  refine HC.out.mono ?_
  rintro e w1 ⟨rfl, hb⟩
  have HB := Lib.hid hb
  clear hb HC
  go_wp2_with fail
  go_ret2
  exact ⟨rfl, HB.out⟩

set_option maxHeartbeats 1600000 in
theorem Mul_err {s t : ByteArray} (w : World) (hs : s.size ≤ 1000000) (ht : t.size ≤ 1000000) (hm : ML w) {c : Nat} (hc : (if rchk s ≠ 0 then rchk s else rchk t) = c) (h0 : c ≠ 0) :
    Calls Tryz.prog 15 #[.string s, .string t] w (E2 c w) := by
  have HC := Lib.hid (withTwo_err 66 s t w hs ht hm hc h0)
  unfold E2 at HC ⊢
  clear hm hs ht hc h0
  go_enter Tryz.func15, Tryz.ntmps15
  go_wp2_with fail
  refine HC.out.mono ?_
  rintro e w1 ⟨rfl, hb⟩
  have HB := Lib.hid hb
  clear hb HC
  go_wp2_with fail
  go_ret2
  exact ⟨rfl, HB.out⟩

set_option maxHeartbeats 1600000 in
theorem Div_err {s t : ByteArray} (w : World) (hs : s.size ≤ 1000000) (ht : t.size ≤ 1000000) (hm : ML w) {c : Nat} (hc : (if rchk s ≠ 0 then rchk s else rchk t) = c) (h0 : c ≠ 0) :
    Calls Tryz.prog 16 #[.string s, .string t] w (E2 c w) := by
  have HC := Lib.hid (withTwo_err 68 s t w hs ht hm hc h0)
  unfold E2 at HC ⊢
  clear hm hs ht hc h0
  go_enter Tryz.func16, Tryz.ntmps16
  go_wp2_with fail
  refine HC.out.mono ?_
  rintro e w1 ⟨rfl, hb⟩
  have HB := Lib.hid hb
  clear hb HC
  go_wp2_with fail
  go_ret2
  exact ⟨rfl, HB.out⟩

set_option maxHeartbeats 1600000 in
theorem Cmp_err {s t : ByteArray} (w : World) (hs : s.size ≤ 1000000) (ht : t.size ≤ 1000000) (hm : ML w) {c : Nat} (hc : (if rchk s ≠ 0 then rchk s else rchk t) = c) (h0 : c ≠ 0) :
    Calls Tryz.prog 20 #[.string s, .string t] w (E2i c w) := by
  have HC := Lib.hid (withTwo_errI 78 s t w hs ht hm hc h0)
  unfold E2i at HC ⊢
  clear hm hs ht hc h0
  go_enter Tryz.func20, Tryz.ntmps20
  go_wp2_with fail
  refine HC.out.mono ?_
  rintro e w1 ⟨rfl, hb⟩
  have HB := Lib.hid hb
  clear hb HC
  go_wp2_with fail
  go_ret2
  exact ⟨rfl, HB.out⟩

set_option maxHeartbeats 1600000 in
theorem sel_Min_err {s t : ByteArray} (w : World) (hs : s.size ≤ 1000000) (ht : t.size ≤ 1000000) (hm : ML w) {c : Nat} (hc : (if rchk s ≠ 0 then rchk s else rchk t) = c) (h0 : c ≠ 0) :
    Calls Tryz.prog 80 #[.string s, .string t, .func (.func 98) #[] #[]] w (E2 c w) := by
  have HC := Lib.hid (Cmp_err w hs ht hm hc h0)
  have hne := errne h0
  unfold E2
  unfold E2i at HC
  clear hm hs ht hc h0
  go_enter Tryz.func80, Tryz.ntmps80
  go_wp2_with fail
  refine HC.out.mono ?_
  rintro e w1 ⟨rfl, hb⟩
  have HB := Lib.hid hb
  clear hb HC
  go_wp2_with fail
  go_ret2
  exact ⟨rfl, HB.out⟩

set_option maxHeartbeats 1600000 in
theorem Min_err {s t : ByteArray} (w : World) (hs : s.size ≤ 1000000) (ht : t.size ≤ 1000000) (hm : ML w) {c : Nat} (hc : (if rchk s ≠ 0 then rchk s else rchk t) = c) (h0 : c ≠ 0) :
    Calls Tryz.prog 34 #[.string s, .string t] w (E2 c w) := by
  have HC := Lib.hid (sel_Min_err w hs ht hm hc h0)
  unfold E2 at HC ⊢
  clear hm hs ht hc h0
  go_enter Tryz.func34, Tryz.ntmps34
  go_wp2_with fail
  refine HC.out.mono ?_
  rintro e w1 ⟨rfl, hb⟩
  have HB := Lib.hid hb
  clear hb HC
  go_wp2_with fail
  go_ret2
  exact ⟨rfl, HB.out⟩

set_option maxHeartbeats 1600000 in
theorem sel_Max_err {s t : ByteArray} (w : World) (hs : s.size ≤ 1000000) (ht : t.size ≤ 1000000) (hm : ML w) {c : Nat} (hc : (if rchk s ≠ 0 then rchk s else rchk t) = c) (h0 : c ≠ 0) :
    Calls Tryz.prog 80 #[.string s, .string t, .func (.func 81) #[] #[]] w (E2 c w) := by
  have HC := Lib.hid (Cmp_err w hs ht hm hc h0)
  have hne := errne h0
  unfold E2
  unfold E2i at HC
  clear hm hs ht hc h0
  go_enter Tryz.func80, Tryz.ntmps80
  go_wp2_with fail
  refine HC.out.mono ?_
  rintro e w1 ⟨rfl, hb⟩
  have HB := Lib.hid hb
  clear hb HC
  go_wp2_with fail
  go_ret2
  exact ⟨rfl, HB.out⟩

set_option maxHeartbeats 1600000 in
theorem Max_err {s t : ByteArray} (w : World) (hs : s.size ≤ 1000000) (ht : t.size ≤ 1000000) (hm : ML w) {c : Nat} (hc : (if rchk s ≠ 0 then rchk s else rchk t) = c) (h0 : c ≠ 0) :
    Calls Tryz.prog 21 #[.string s, .string t] w (E2 c w) := by
  have HC := Lib.hid (sel_Max_err w hs ht hm hc h0)
  unfold E2 at HC ⊢
  clear hm hs ht hc h0
  go_enter Tryz.func21, Tryz.ntmps21
  go_wp2_with fail
  refine HC.out.mono ?_
  rintro e w1 ⟨rfl, hb⟩
  have HB := Lib.hid hb
  clear hb HC
  go_wp2_with fail
  go_ret2
  exact ⟨rfl, HB.out⟩

set_option maxHeartbeats 1600000 in
theorem Make_err2 (s t : ByteArray) (w : World) (hs : s.size ≤ 1000000) (ht : t.size ≤ 1000000) (h1 : chkI s = 0) (h2 : chk t.data.toList ≠ 0) :
    Calls Tryz.prog 23 #[.string s, .string t] w (E2 (chk t.data.toList) w) := by
  have HC1 := Lib.hid (checkInteger_any s w (by omega))
  rw [h1] at HC1
  have HC2 := Lib.hid (check_any t w (by omega))
  have hz := errne h2
  unfold E2
  generalize chk t.data.toList = c at HC2 hz ⊢
  have HB := Lib.hid (Below.refl w.heap.size w)
  clear h1 h2 hs ht
  go_enter Tryz.func23, Tryz.ntmps23
  go_wp2_with fail
  refine HC1.out.mono ?_
  rintro e w1 ⟨rfl, rfl⟩
  go_wp2_with fail
  refine HC2.out.mono ?_
  rintro e w1 ⟨rfl, rfl⟩
  go_wp2_with fail
  go_ret2
  exact ⟨rfl, HB.out⟩

end Go.Proofs.YtadkijaofmcgfaaGreatDoor
