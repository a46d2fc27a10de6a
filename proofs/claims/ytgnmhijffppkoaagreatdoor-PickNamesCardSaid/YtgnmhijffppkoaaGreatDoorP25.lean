/-
  rat's Make of two texts without an error.
-/
import Derived.Test.YtgnmhijffppkoaaGreatDoorHI
namespace Go.Proofs.YtgnmhijffppkoaaGreatDoor
open Go.RowKit NV
open Go.Lib (decDigits)

theorem chkI_digs {s : ByteArray} (h : chkI s = 0) : Digs (Lib.trimPrefix s.data.toList [45]) ∧ (restS s).size ≤ 4000 := by
  have hi : intOk s = true := by
    cases hi : intOk s with
    | true => rfl
    | false => rw [(chkI_cases s).1 hi] at h; simp at h
  obtain ⟨h1, h2⟩ := (chkI_cases s).2 hi
  rw [h] at h1
  obtain ⟨_, d, _⟩ := good_parts h2
  refine ⟨by rw [← rest_list]; exact d, ?_⟩
  rw [Go.Lib.size_eq]
  exact (dec_of_chk h1.symm).2

theorem rest_size (s : ByteArray) : s.size ≤ (restS s).size + 1 := by
  unfold restS
  split
  · rw [ByteArray.size_extract]; omega
  · omega

set_option maxHeartbeats 6400000 in
set_option maxRecDepth 100000 in
theorem Make_ok (s t : ByteArray) (w : World) (htab : Tab w) (h1 : chkI s = 0) (h2 : chk t.data.toList = 0) (h3 : dv t.data.toList ≠ 0) :
    Calls Tryz.prog 72 #[.string s, .string t] w (RQ (mkQ (minusB s) (dv (restS s).data.toList) (dv t.data.toList)) w) := by
  obtain ⟨d1, z1⟩ := chkI_digs h1
  have zr := rest_size s
  obtain ⟨e2, z2⟩ := dec_of_chk h2
  rw [← Go.Lib.size_eq] at z2
  have d2 : Digs t.data.toList := by rw [← e2]; exact digs_dec _
  have hne : (t.toList == [48]) = false := by
    rw [toList_eq]
    rw [decide_eq_false]
    intro e
    rw [e] at h3
    exact h3 rfl
  have HC1 := Lib.hid (checkInteger_any s w (by omega))
  rw [h1] at HC1
  have HC2 := Lib.hid (check_any t w (by omega))
  rw [h2] at HC2
  have hpa := fun W => rparse_any s t W (by omega) (by omega) d1 d2
  rw [prefix_minus, ← rest_list] at hpa
  have HPA := Lib.hid hpa
  have l1 : ln (dv (restS s).data.toList) ≤ 445 := digs_ln (by rw [rest_list]; exact d1) (by rw [← Go.Lib.size_eq]; omega)
  have l2 : ln (dv t.data.toList) ≤ 445 := digs_ln d2 (by rw [← Go.Lib.size_eq]; omega)
  have HT := Lib.hid htab
  have HL := Lib.hid (And.intro l1 (And.intro l2 h3))
  clear h1 h2 h3 d1 z1 zr e2 z2 d2 htab hpa l1 l2
  generalize dv (restS s).data.toList = n at *
  generalize dv t.data.toList = d at *
  go_enter Tryz.func72, Tryz.ntmps72
  go_wp2_with fail
  refine HC1.out.mono ?_
  rintro e w1 ⟨rfl, rfl⟩
  go_wp2_with fail
  refine HC2.out.mono ?_
  rintro e w1 ⟨rfl, rfl⟩
  go_wp2_with fail
  refine (HPA.out _).mono ?_
  rintro e w1 ⟨v, rfl, ⟨x, y, rfl, hx, hy⟩, hb1⟩
  obtain ⟨a1, k1, rfl⟩ := slice_any hx
  obtain ⟨a2, k2, rfl⟩ := slice_any hy
  have hb2 : Below w1.heap.size w1 (w1.alloc (.cells #[.bool (minusB s), .slice a1 (ln n) k1, .slice a2 (ln d) k2] 167)) := (Below.refl _ _).alloc (Nat.le_refl _) _
  have HX := Lib.hid (hx.below hb2)
  have HY := Lib.hid (hy.below hb2)
  have HB := Lib.hid (hb1.trans (hb2.mono hb1.size))
  replace HT := Lib.hid (HT.out.below HB.out)
  clear hx hy hb1 hb2 HC1 HC2 HPA
  go_wp2_with fail
  generalize w1.alloc (.cells #[.bool (minusB s), .slice a1 (ln n) k1, .slice a2 (ln d) k2] 167) = w2 at HX HY HB HT ⊢
  refine (reduced_q (m := minusB s) HX.out HY.out (Nat.le_trans HL.out.1 (by omega)) (Nat.le_trans HL.out.2.1 (by omega)) HL.out.2.2).mono ?_
  rintro e w3 ⟨z, rfl, hz, hb3⟩
  obtain ⟨a5, k5, a6, k6, rfl⟩ := hz.form
  have HZ := Lib.hid hz
  replace HT := Lib.hid (HT.out.below hb3)
  replace HB := Lib.hid (HB.out.trans (hb3.mono HB.out.size))
  have HQ := Lib.hid (show QL 445 (mkQ (minusB s) n d) by
    obtain ⟨r1, r2, _⟩ := red_parts (minusB s) n HL.out.2.2
    exact ⟨by rw [r1]; exact ln_div HL.out.1, by rw [r2]; exact ln_div HL.out.2.1⟩)
  clear hz hb3 HX HY
  go_wp2_with fail
  refine (write_q HZ.out (HQ.out.mono (by omega)) HT.out).mono ?_
  rintro e w4 ⟨rfl, hb4⟩
  replace HB := Lib.hid (HB.out.trans (hb4.mono HB.out.size))
  clear hb4
  go_wp2_with fail
  go_ret2
  exact ⟨rfl, HB.out⟩

end Go.Proofs.YtgnmhijffppkoaaGreatDoor
