/-
  rat's functions of two texts: the errors. The reference of rat: Make. rat's functions of two texts and the reference's return the same. light, same; RatPairs returns true.
-/
import Derived.Test.YteojekiocecdnaaGreatDoorHD
import Derived.Test.YteojekiocecdnaaGreatDoorHH
import Derived.Test.YteojekiocecdnaaGreatDoorHR
import Derived.Test.YteojekiocecdnaaGreatDoorHL
namespace Go.Proofs.YteojekiocecdnaaGreatDoor
open Go.RowKit NV
open Go.Lib (decDigits)

set_option maxHeartbeats 1600000 in
theorem Make_err2 (s t : ByteArray) (w : World) (hs : s.size ≤ 1000000) (ht : t.size ≤ 1000000) (h1 : chkI s = 0) (h2 : chk t.data.toList ≠ 0) :
    Calls Tryz.prog 97 #[.string s, .string t] w (E2 (chk t.data.toList) w) := by
  have HC1 := Lib.hid (checkInteger_any s w (by omega))
  rw [h1] at HC1
  have HC2 := Lib.hid (check_any t w (by omega))
  have hz := errne h2
  unfold E2
  generalize chk t.data.toList = c at HC2 hz ⊢
  have HB := Lib.hid (Below.refl w.heap.size w)
  clear h1 h2 hs ht
  go_enter Tryz.func97, Tryz.ntmps97
  go_wp2_with fail
  refine HC1.out.mono ?_
  rintro e w1 ⟨rfl, rfl⟩
  go_wp2_with fail
  refine HC2.out.mono ?_
  rintro e w1 ⟨rfl, rfl⟩
  go_wp2_with fail
  go_ret2
  exact ⟨rfl, HB.out⟩

open Go.RowKit NV
open Go.Lib (decDigits)

set_option maxHeartbeats 1600000 in
set_option maxRecDepth 100000 in
theorem rMake_err1 {s t : ByteArray} (w : World) (hs : s.size ≤ 1000000) (h1 : chkI s ≠ 0) :
    Calls Tryz.prog 92 #[.string s, .string t] w (E2 (chkI s) w) := by
  have HI := Lib.hid (fun W => integer_any s W (by omega))
  have HB := Lib.hid (Below.refl w.heap.size w)
  unfold E2
  cases hi : intOk s with
  | false =>
    rw [hi] at HI
    rw [(chkI_cases s).1 hi]
    generalize minusB s = m at HI
    generalize restS s = r at HI
    clear hs h1 hi
    go_enter Tryz.func92, Tryz.ntmps92
    go_wp2_with fail
    refine (HI.out _).mono ?_
    rintro e w1 ⟨rfl, rfl⟩
    go_wp2_with fail
    go_ret2
    exact ⟨rfl, HB.out⟩
  | true =>
    rw [hi] at HI
    obtain ⟨c1, c2⟩ := (chkI_cases s).2 hi
    have c3 : 4000 < (restS s).data.toList.length := by
      by_cases h : 4000 < (restS s).data.toList.length
      · exact h
      · rw [c1, chk, c2, if_neg (by simp), if_neg h] at h1; exact absurd rfl h1
    rw [c1, chk, c2, if_neg (by simp), if_pos c3]
    rw [← Go.Lib.size_eq] at c3
    generalize minusB s = m at HI
    generalize restS s = r at HI c3
    have hz : (4000 : Int) < ((r.size : Nat) : Int) := by omega
    clear hs h1 hi c1 c2 c3
    go_enter Tryz.func92, Tryz.ntmps92
    go_wp2_with fail
    refine (HI.out _).mono ?_
    rintro e w1 ⟨rfl, rfl⟩
    go_wp2_with fail
    go_ret2
    exact ⟨rfl, HB.out⟩

/-- What a text of an integer without error is. -/
theorem chkI_str {s : ByteArray} (h : chkI s = 0) : intOk s = true ∧ restS s = dstr (dv (restS s).data.toList) ∧ Ok (dv (restS s).data.toList) := by
  have hi : intOk s = true := by
    cases hi : intOk s with
    | true => rfl
    | false => rw [(chkI_cases s).1 hi] at h; simp at h
  obtain ⟨h1, _⟩ := (chkI_cases s).2 hi
  rw [h] at h1
  obtain ⟨e, l⟩ := dec_of_chk h1.symm
  exact ⟨hi, dstr_of e.symm, by unfold Ok; rw [e]; exact l⟩
theorem chk_str {t : ByteArray} (h : chk t.data.toList = 0) : t = dstr (dv t.data.toList) ∧ Ok (dv t.data.toList) := by
  obtain ⟨e, l⟩ := dec_of_chk h
  exact ⟨dstr_of e.symm, by unfold Ok; rw [e]; exact l⟩

set_option maxHeartbeats 1600000 in
set_option maxRecDepth 100000 in
theorem rMake_err2 {s t : ByteArray} (w : World) (hs : s.size ≤ 1000000) (ht : t.size ≤ 1000000) (h1 : chkI s = 0) (h2 : chk t.data.toList ≠ 0) :
    Calls Tryz.prog 92 #[.string s, .string t] w (E2 (chk t.data.toList) w) := by
  have HI := Lib.hid (fun W => integer_any s W (by omega))
  have HB := Lib.hid (Below.refl w.heap.size w)
  obtain ⟨hi, hr, hok⟩ := chkI_str h1
  rw [hi, hr] at HI
  have hz : ¬ (4000 : Int) < (((dstr (dv (restS s).data.toList)).size : Nat) : Int) := by rw [dstr_size]; unfold Ok at hok; omega
  generalize dv (restS s).data.toList = n at HI hok hz
  have HC := Lib.hid (fun W => refcheck_any t W (by omega))
  have hne := errne h2
  unfold E2
  generalize chk t.data.toList = c at HC hne ⊢
  generalize minusB s = m at HI
  clear hs ht h1 h2 hi hr hok
  go_enter Tryz.func92, Tryz.ntmps92
  go_wp2_with fail
  refine (HI.out _).mono ?_
  rintro e w1 ⟨rfl, rfl⟩
  go_wp2_with fail
  refine (HC.out _).mono ?_
  rintro e w1 ⟨rfl, rfl⟩
  go_wp2_with fail
  go_ret2
  exact ⟨rfl, HB.out⟩

set_option maxHeartbeats 1600000 in
set_option maxRecDepth 100000 in
theorem rMake_err0 {s t : ByteArray} (w : World) (hs : s.size ≤ 1000000) (ht : t.size ≤ 1000000) (h1 : chkI s = 0) (h2 : chk t.data.toList = 0) (h3 : (t.toList == [48]) = true) :
    Calls Tryz.prog 92 #[.string s, .string t] w (E2 6 w) := by
  have HI := Lib.hid (fun W => integer_any s W (by omega))
  have HB := Lib.hid (Below.refl w.heap.size w)
  obtain ⟨hi, hr, hok⟩ := chkI_str h1
  rw [hi, hr] at HI
  have hz : ¬ (4000 : Int) < (((dstr (dv (restS s).data.toList)).size : Nat) : Int) := by rw [dstr_size]; unfold Ok at hok; omega
  generalize dv (restS s).data.toList = n at HI hok hz
  have HC := Lib.hid (fun W => refcheck_any t W (by omega))
  rw [h2] at HC
  unfold E2
  generalize minusB s = m at HI
  clear hs ht h1 h2 hi hr hok
  go_enter Tryz.func92, Tryz.ntmps92
  go_wp2_with fail
  refine (HI.out _).mono ?_
  rintro e w1 ⟨rfl, rfl⟩
  go_wp2_with fail
  refine (HC.out _).mono ?_
  rintro e w1 ⟨rfl, rfl⟩
  go_wp2_with fail
  go_ret2
  exact ⟨rfl, HB.out⟩

set_option maxHeartbeats 3200000 in
set_option maxRecDepth 100000 in
theorem rMake_q {s t : ByteArray} (w : World) (hs : s.size ≤ 1000000) (ht : t.size ≤ 1000000) (h1 : chkI s = 0) (h2 : chk t.data.toList = 0) (h3 : dv t.data.toList ≠ 0) :
    Calls Tryz.prog 92 #[.string s, .string t] w (RQ (mkQ (minusB s) (dv (restS s).data.toList) (dv t.data.toList)) w) := by
  have hne : (t.toList == [48]) = false := by
    rw [toList_eq]
    rw [decide_eq_false]
    intro e
    rw [e] at h3
    exact h3 rfl
  have HI := Lib.hid (fun W => integer_any s W (by omega))
  have HB := Lib.hid (Below.refl w.heap.size w)
  obtain ⟨hi, hr, hok⟩ := chkI_str h1
  rw [hi, hr] at HI
  have hz : ¬ (4000 : Int) < (((dstr (dv (restS s).data.toList)).size : Nat) : Int) := by rw [dstr_size]; unfold Ok at hok; omega
  generalize dv (restS s).data.toList = n at HI hok hz ⊢
  have HC := Lib.hid (fun W => refcheck_any t W (by omega))
  rw [h2] at HC
  obtain ⟨ht2, hok2⟩ := chk_str h2
  have HT := Lib.hid ht2
  generalize dv t.data.toList = d at HT hok2 h3 ⊢
  have l1 := hok.ln
  have l2 := hok2.ln
  have HRN := Lib.hid (fun W => iread_d n W hok)
  have HRD := Lib.hid (fun W => iread_d d W hok2)
  rw [← HT.out] at HRD
  have HQL := Lib.hid (show QL 445 (mkQ (minusB s) n d) by
    obtain ⟨r1, r2, _⟩ := red_parts (minusB s) n h3
    exact ⟨by rw [r1]; exact ln_div l1, by rw [r2]; exact ln_div l2⟩)
  have HRE := Lib.hid (fun (W : World) (x y : Value) (hx : INum W x n) (hy : INum W y d) => rreduce_q (m := minusB s) hx hy (by omega) (by omega) h3)
  generalize mkQ (minusB s) n d = q at HQL HRE ⊢
  generalize minusB s = m at HI HRE
  have HWR := Lib.hid (fun (W : World) (z : Value) (h : QQ W z q) => rwrite_q h (HQL.out.mono (by omega)))
  unfold RQ at HWR ⊢
  generalize wQ q = T at HWR ⊢
  obtain ⟨t1, t2⟩ := T
  clear hs ht h1 h2 h3 hi hr hok hok2 l1 l2 ht2 HQL HB HT
  go_enter Tryz.func92, Tryz.ntmps92
  go_wp2_with fail
  refine (HI.out _).mono ?_
  rintro e w1 ⟨rfl, rfl⟩
  go_wp2_with fail
  refine (HC.out _).mono ?_
  rintro e w1 ⟨rfl, rfl⟩
  go_wp2_with fail
  refine (HRN.out _).mono ?_
  rintro e w1 ⟨x, rfl, hx, hb1⟩
  obtain ⟨a1, k1, rfl⟩ := islice_any hx
  have HX := Lib.hid hx
  have HB := Lib.hid hb1
  clear hx hb1
  go_wp2_with fail
  refine (HRD.out _).mono ?_
  rintro e w2 ⟨y, rfl, hy, hb2⟩
  obtain ⟨a2, k2, rfl⟩ := islice_any hy
  have HY := Lib.hid hy
  replace HX := Lib.hid (HX.out.below hb2)
  replace HB := Lib.hid (HB.out.trans (hb2.mono HB.out.size))
  clear hy hb2
  go_wp2_with fail
  refine (HRE.out _ _ _ HX.out HY.out).mono ?_
  rintro e w3 ⟨z, rfl, hz3, hb3⟩
  obtain ⟨a5, k5, a6, k6, hzz⟩ := hz3.form
  subst hzz
  have hy4 := HWR.out _ _ hz3
  replace HB := Lib.hid (HB.out.trans (hb3.mono HB.out.size))
  clear hz3 hb3 HRE HX HY
  go_wp2_with fail
  refine hy4.mono ?_
  rintro e w4 ⟨rfl, hb4⟩
  replace HB := Lib.hid (HB.out.trans (hb4.mono HB.out.size))
  clear hb4 hy4
  go_wp2_with fail
  go_ret2
  exact ⟨rfl, HB.out⟩

open Go.RowKit NV
open Go.Lib (decDigits)

/-- A text and an error. -/
def PR (T : ByteArray × Nat) (w : World) (e : Ending) (w' : World) : Prop := e = .returned (.tuple #[.string T.1, .int .i64 ((T.2 : Nat) : Int)]) ∧ Below w.heap.size w w'

theorem two_texts {s t : ByteArray} (h : (if rchk s ≠ 0 then rchk s else rchk t) = 0) : ∃ p q, s = qstr p ∧ t = qstr q ∧ QOk p ∧ QOk q := by
  by_cases h1 : rchk s = 0
  · rw [if_neg (by simp [h1])] at h
    obtain ⟨p, e1, op⟩ := rchk_rat h1
    obtain ⟨q, e2, oq⟩ := rchk_rat h
    exact ⟨p, q, e1, e2, op, oq⟩
  · rw [if_pos h1] at h; exact absurd h h1

theorem both_Make (s t : ByteArray) (hs : s.size ≤ 1000000) (ht : t.size ≤ 1000000) :
    ∃ T : ByteArray × Nat, (∀ w, Tab w → ML w → Calls Tryz.prog 97 #[.string s, .string t] w (PR T w)) ∧ (∀ w, Calls Tryz.prog 92 #[.string s, .string t] w (PR T w)) := by
  by_cases h1 : chkI s = 0
  · by_cases h2 : chk t.data.toList = 0
    · by_cases h3 : dv t.data.toList = 0
      · have hz : (t.toList == [48]) = true := by
          obtain ⟨e, _⟩ := chk_str h2
          rw [h3] at e
          rw [e, dstr_is 0 48 (by decide)]
          decide
        exact ⟨(⟨#[]⟩, 6), fun w _ _ => Make_err0 s t w hs ht h1 h2 hz, fun w => rMake_err0 w hs ht h1 h2 hz⟩
      · exact ⟨wQ (mkQ (minusB s) (dv (restS s).data.toList) (dv t.data.toList)), fun w htab _ => Make_ok s t w htab h1 h2 h3, fun w => rMake_q w hs ht h1 h2 h3⟩
    · exact ⟨(⟨#[]⟩, _), fun w _ _ => Make_err2 s t w hs ht h1 h2, fun w => rMake_err2 w hs ht h1 h2⟩
  · exact ⟨(⟨#[]⟩, _), fun w _ _ => Make_err1 s t w hs h1, fun w => rMake_err1 w hs h1⟩

open Go.RowKit NV
open Go.Lib (decDigits)

/-- Is no text longer than d? -/
def allL (d : Nat) (ss : List ByteArray) : Bool := ss.all (fun s => decide (s.size ≤ d))
theorem allL_no {d : Nat} {ss : List ByteArray} {s : ByteArray} (h : s ∈ ss) (hs : ¬ s.size ≤ d) : false = allL d ss := by
  symm; unfold allL
  rw [List.all_eq_false]
  exact ⟨s, h, by simpa using hs⟩
theorem allL_yes {d : Nat} {ss : List ByteArray} (h : ∀ s ∈ ss, s.size ≤ d) : true = allL d ss := by
  symm; unfold allL
  rw [List.all_eq_true]
  intro s hs
  simpa using h s hs

theorem two_cells {w : World} (s t : ByteArray) (e : TypeId) : ∀ j, j < [s, t].length → (w.alloc (.cells #[.string s, .string t] e)).cell? ⟨w.heap.size, j, none⟩ = some (.string ([s, t].getD j ByteArray.empty)) := by
  intro j hj
  rw [Lib.cell_of_heap (heap_alloc_new w _)]
  match j, hj with
  | 0, _ => rfl
  | 1, _ => rfl

end Go.Proofs.YteojekiocecdnaaGreatDoor
