/-
  rat's functions of two texts: the errors. The reference of rat: Make. rat's functions of two texts and the reference's return the same. light, same; RatPairs returns true.
-/
import Derived.Test.YtkponlbpgmnpgaaGreatDoorHD
import Derived.Test.YtkponlbpgmnpgaaGreatDoorHH
import Derived.Test.YtkponlbpgmnpgaaGreatDoorHR
import Derived.Test.YtkponlbpgmnpgaaGreatDoorHL
namespace Go.Proofs.YtkponlbpgmnpgaaGreatDoor
open Go.RowKit NV
open Go.Lib (decDigits)
theorem withTwo_errI (h : Nat) (s t : ByteArray) (w : World) (hs : s.size ≤ 1000000) (ht : t.size ≤ 1000000) (hm : ML w) {c : Nat} (hc : (if rchk s ≠ 0 then rchk s else rchk t) = c) (h0 : c ≠ 0) :
  Calls Tryz.prog 204 #[.string s, .string t, .func (.func h) #[] #[]] w (E2i c w) := by
 by_cases h1 : rchk s = 0
 ·rw [if_neg (by simp [h1])] at hc
  subst hc
  exact withTwo_err2I h s t w hs ht hm (ml_pos hm) h1 h0
 ·rw [if_pos h1] at hc
  subst hc
  exact withTwo_err1I h s t w hs hm (ml_pos hm) h1
set_option maxHeartbeats 1600000 in
theorem Cmp_err {s t : ByteArray} (w : World) (hs : s.size ≤ 1000000) (ht : t.size ≤ 1000000) (hm : ML w) {c : Nat} (hc : (if rchk s ≠ 0 then rchk s else rchk t) = c) (h0 : c ≠ 0) :
  Calls Tryz.prog 135 #[.string s, .string t] w (E2i c w) := by
 have HC := Lib.hid (withTwo_errI 205 s t w hs ht hm hc h0)
 unfold E2i at HC ⊢
 clear hm hs ht hc h0
 go_enter Tryz.func135, Tryz.ntmps135
 go_wp2_with fail
 refine HC.out.mono ?_
 rintro e w1 ⟨rfl, hb⟩
 have HB := Lib.hid hb
 clear hb HC
 go_wp2_with fail
 go_ret2
 exact ⟨rfl, HB.out⟩
open Go.RowKit NV
open Go.Lib (decDigits)
theorem chkI_str {s : ByteArray} (h : chkI s = 0) : intOk s = true ∧ restS s = dstr (dv (restS s).data.toList) ∧ Ok (dv (restS s).data.toList) := by
 have hi : intOk s = true := by
  cases hi : intOk s with
  | true => rfl
  | false => rw [(chkI_cases s).1 hi] at h; simp at h
 obtain ⟨h1, _⟩ := (chkI_cases s).2 hi
 rw [h] at h1
 obtain ⟨e, l⟩ := dec_of_chk h1.symm
 exact ⟨hi, dstr_of e.symm, by unfold Ok; rw [e]; exact l⟩
theorem chk_str {t : ByteArray} (h : chk t.data.toList = 0) : t = dstr (dv t.data.toList) ∧ Ok (dv t.data.toList) := by
 obtain ⟨e, l⟩ := dec_of_chk h
 exact ⟨dstr_of e.symm, by unfold Ok; rw [e]; exact l⟩
set_option maxHeartbeats 3200000 in
set_option maxRecDepth 100000 in
theorem rMake_q {s t : ByteArray} (w : World) (hs : s.size ≤ 1000000) (ht : t.size ≤ 1000000) (h1 : chkI s = 0) (h2 : chk t.data.toList = 0) (h3 : dv t.data.toList ≠ 0) :
  Calls Tryz.prog 116 #[.string s, .string t] w (RQ (mkQ (minusB s) (dv (restS s).data.toList) (dv t.data.toList)) w) := by
 have hne : (t.toList == [48]) = false := by
  rw [toList_eq]
  rw [decide_eq_false]
  intro e
  rw [e] at h3
  exact h3 rfl
 have HI := Lib.hid (fun W => integer_any s W (by omega))
 have HB := Lib.hid (Below.refl w.heap.size w)
 obtain ⟨hi, hr, hok⟩ := chkI_str h1
 rw [hi, hr] at HI
 have hz : ¬ (4000 : Int) < (((dstr (dv (restS s).data.toList)).size : Nat) : Int) := by rw [dstr_size]; unfold Ok at hok; omega
 generalize dv (restS s).data.toList = n at HI hok hz ⊢
 have HC := Lib.hid (fun W => refcheck_any t W (by omega))
 rw [h2] at HC
 obtain ⟨ht2, hok2⟩ := chk_str h2
 have HT := Lib.hid ht2
 generalize dv t.data.toList = d at HT hok2 h3 ⊢
 have l1 := hok.ln
 have l2 := hok2.ln
 have HRN := Lib.hid (fun W => iread_d n W hok)
 have HRD := Lib.hid (fun W => iread_d d W hok2)
 rw [← HT.out] at HRD
 have HQL := Lib.hid (show QL 445 (mkQ (minusB s) n d) by
  obtain ⟨r1, r2, _⟩ := red_parts (minusB s) n h3
  exact ⟨by rw [r1]; exact ln_div l1, by rw [r2]; exact ln_div l2⟩)
 have HRE := Lib.hid (fun (W : World) (x y : Value) (hx : INum W x n) (hy : INum W y d) => rreduce_q (m := minusB s) hx hy (by omega) (by omega) h3)
 generalize mkQ (minusB s) n d = q at HQL HRE ⊢
 generalize minusB s = m at HI HRE
 have HWR := Lib.hid (fun (W : World) (z : Value) (h : QQ W z q) => rwrite_q h (HQL.out.mono (by omega)))
 unfold RQ at HWR ⊢
 generalize wQ q = T at HWR ⊢
 obtain ⟨t1, t2⟩ := T
 clear hs ht h1 h2 h3 hi hr hok hok2 l1 l2 ht2 HQL HB HT
 go_enter Tryz.func116, Tryz.ntmps116
 go_wp2_with fail
 refine (HI.out _).mono ?_
 rintro e w1 ⟨rfl, rfl⟩
 go_wp2_with fail
 refine (HC.out _).mono ?_
 rintro e w1 ⟨rfl, rfl⟩
 go_wp2_with fail
 refine (HRN.out _).mono ?_
 rintro e w1 ⟨x, rfl, hx, hb1⟩
 obtain ⟨a1, k1, rfl⟩ := islice_any hx
 have HX := Lib.hid hx
 have HB := Lib.hid hb1
 clear hx hb1
 go_wp2_with fail
 refine (HRD.out _).mono ?_
 rintro e w2 ⟨y, rfl, hy, hb2⟩
 obtain ⟨a2, k2, rfl⟩ := islice_any hy
 have HY := Lib.hid hy
 replace HX := Lib.hid (HX.out.below hb2)
 replace HB := Lib.hid (HB.out.trans (hb2.mono HB.out.size))
 clear hy hb2
 go_wp2_with fail
 refine (HRE.out _ _ _ HX.out HY.out).mono ?_
 rintro e w3 ⟨z, rfl, hz3, hb3⟩
 obtain ⟨a5, k5, a6, k6, hzz⟩ := hz3.form
 subst hzz
 have hy4 := HWR.out _ _ hz3
 replace HB := Lib.hid (HB.out.trans (hb3.mono HB.out.size))
 clear hz3 hb3 HRE HX HY
 go_wp2_with fail
 refine hy4.mono ?_
 rintro e w4 ⟨rfl, hb4⟩
 replace HB := Lib.hid (HB.out.trans (hb4.mono HB.out.size))
 clear hb4 hy4
 go_wp2_with fail
 go_ret2
 exact ⟨rfl, HB.out⟩
open Go.RowKit NV
open Go.Lib (decDigits)
def PR (T : ByteArray × Nat) (w : World) (e : Ending) (w' : World) : Prop := e = .returned (.tuple #[.string T.1, .int .i64 ((T.2 : Nat) : Int)]) ∧ Below w.heap.size w w'
open Go.RowKit NV
open Go.Lib (decDigits)
end Go.Proofs.YtkponlbpgmnpgaaGreatDoor
