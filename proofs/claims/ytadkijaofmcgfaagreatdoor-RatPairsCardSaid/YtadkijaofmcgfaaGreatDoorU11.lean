/-
  rat's functions of two texts and the reference's return the same.
-/
import Derived.Test.YtadkijaofmcgfaaGreatDoorU10
namespace Go.Proofs.YtadkijaofmcgfaaGreatDoor
open Go.RowKit NV
open Go.Lib (decDigits)

/-- A text and an error. -/
def PR (T : ByteArray × Nat) (w : World) (e : Ending) (w' : World) : Prop := e = .returned (.tuple #[.string T.1, .int .i64 ((T.2 : Nat) : Int)]) ∧ Below w.heap.size w w'

theorem two_texts {s t : ByteArray} (h : (if rchk s ≠ 0 then rchk s else rchk t) = 0) : ∃ p q, s = qstr p ∧ t = qstr q ∧ QOk p ∧ QOk q := by
  by_cases h1 : rchk s = 0
  · rw [if_neg (by simp [h1])] at h
    obtain ⟨p, e1, op⟩ := rchk_rat h1
    obtain ⟨q, e2, oq⟩ := rchk_rat h
    exact ⟨p, q, e1, e2, op, oq⟩
  · rw [if_pos h1] at h; exact absurd h h1

theorem Div_z (p q : Rat) (hp : QOk p) (hq : QOk q) (w : World) (hm : ML w) (h0 : q = 0) :
    Calls Tryz.prog 16 #[.string (qstr p), .string (qstr q)] w (E2 6 w) := by
  have e1 : ∀ args w, (callFunc 68 args).run Tryz.prog w = .ok (.enter 68 args) w := enters_of Tryz.func68 (by kernel_rfl) rfl
  have HC := Lib.hid (withTwo_ok 68 e1 (qstr p) (qstr q) w (qsmall hp) (qsmall hq) hm (ml_pos hm) (qstr_chk hp) (qstr_chk hq) (.string ⟨#[]⟩) (.int .i64 6)
    (fun W v u hb hv hu => div_zero_clo (fq_of hv) (fq_of hu) h0))
  unfold E2
  clear hm hp hq h0
  go_enter Tryz.func16, Tryz.ntmps16
  go_wp2_with fail
  refine HC.out.mono ?_
  rintro e w1 ⟨rfl, hb⟩
  have HB := Lib.hid hb
  clear hb HC
  go_wp2_with fail
  go_ret2
  exact ⟨rfl, HB.out⟩

theorem both_Add (s t : ByteArray) (hs : s.size ≤ 1000000) (ht : t.size ≤ 1000000) :
    ∃ T : ByteArray × Nat, (∀ w, Tab w → ML w → Calls Tryz.prog 24 #[.string s, .string t] w (PR T w)) ∧ (∀ w, Calls Tryz.prog 29 #[.string s, .string t] w (PR T w)) := by
  by_cases h0 : (if rchk s ≠ 0 then rchk s else rchk t) = 0
  · obtain ⟨p, q, rfl, rfl, op, oq⟩ := two_texts h0
    exact ⟨wQ (p + q), fun w htab hm => Add_q p q op oq w htab hm, fun w => rAdd_q w op oq⟩
  · exact ⟨(⟨#[]⟩, _), fun w _ hm => Add_err w hs ht hm rfl h0, fun w => rAdd_err w (by omega) (by omega) rfl h0⟩

theorem both_Sub (s t : ByteArray) (hs : s.size ≤ 1000000) (ht : t.size ≤ 1000000) :
    ∃ T : ByteArray × Nat, (∀ w, Tab w → ML w → Calls Tryz.prog 14 #[.string s, .string t] w (PR T w)) ∧ (∀ w, Calls Tryz.prog 30 #[.string s, .string t] w (PR T w)) := by
  by_cases h0 : (if rchk s ≠ 0 then rchk s else rchk t) = 0
  · obtain ⟨p, q, rfl, rfl, op, oq⟩ := two_texts h0
    exact ⟨wQ (p + -q), fun w htab hm => Sub_q p q op oq w htab hm, fun w => rSub_q w op oq⟩
  · exact ⟨(⟨#[]⟩, _), fun w _ hm => Sub_err w hs ht hm rfl h0, fun w => rSub_err w (by omega) (by omega) rfl h0⟩

theorem both_Mul (s t : ByteArray) (hs : s.size ≤ 1000000) (ht : t.size ≤ 1000000) :
    ∃ T : ByteArray × Nat, (∀ w, Tab w → ML w → Calls Tryz.prog 15 #[.string s, .string t] w (PR T w)) ∧ (∀ w, Calls Tryz.prog 31 #[.string s, .string t] w (PR T w)) := by
  by_cases h0 : (if rchk s ≠ 0 then rchk s else rchk t) = 0
  · obtain ⟨p, q, rfl, rfl, op, oq⟩ := two_texts h0
    exact ⟨wQ (p * q), fun w htab hm => Mul_q p q op oq w htab hm, fun w => rMul_q w op oq⟩
  · exact ⟨(⟨#[]⟩, _), fun w _ hm => Mul_err w hs ht hm rfl h0, fun w => rMul_err w (by omega) (by omega) rfl h0⟩

theorem both_Div (s t : ByteArray) (hs : s.size ≤ 1000000) (ht : t.size ≤ 1000000) :
    ∃ T : ByteArray × Nat, (∀ w, Tab w → ML w → Calls Tryz.prog 16 #[.string s, .string t] w (PR T w)) ∧ (∀ w, Calls Tryz.prog 32 #[.string s, .string t] w (PR T w)) := by
  by_cases h0 : (if rchk s ≠ 0 then rchk s else rchk t) = 0
  · obtain ⟨p, q, rfl, rfl, op, oq⟩ := two_texts h0
    by_cases hz : q = 0
    · exact ⟨(⟨#[]⟩, 6), fun w _ hm => Div_z p q op oq w hm hz, fun w => rDiv_z w op oq hz⟩
    · exact ⟨wQ (p * q⁻¹), fun w htab hm => Div_q p q op oq w htab hm hz _ rfl, fun w => rDiv_q w op oq hz rfl⟩
  · exact ⟨(⟨#[]⟩, _), fun w _ hm => Div_err w hs ht hm rfl h0, fun w => rDiv_err w (by omega) (by omega) rfl h0⟩

theorem both_Min (s t : ByteArray) (hs : s.size ≤ 1000000) (ht : t.size ≤ 1000000) :
    ∃ T : ByteArray × Nat, (∀ w, Tab w → ML w → Calls Tryz.prog 34 #[.string s, .string t] w (PR T w)) ∧ (∀ w, Calls Tryz.prog 35 #[.string s, .string t] w (PR T w)) := by
  by_cases h0 : (if rchk s ≠ 0 then rchk s else rchk t) = 0
  · obtain ⟨p, q, rfl, rfl, op, oq⟩ := two_texts h0
    refine ⟨(if cmpQ p q < 0 then qstr p else qstr q, 0), fun w _ hm => Min_q p q op oq w hm, fun w => ?_⟩
    have he : qstr (if cmpQ p q ≤ 0 then p else q) = if cmpQ p q < 0 then qstr p else qstr q := by
      by_cases h : cmpQ p q < 0
      · rw [if_pos h, if_pos (by omega)]
      · by_cases h2 : cmpQ p q ≤ 0
        · rw [if_neg h, if_pos h2, cmpQ_zero.1 (show cmpQ p q = 0 by omega)]
        · rw [if_neg h, if_neg h2]
    unfold PR
    rw [← he]
    exact rMin_q w op oq
  · exact ⟨(⟨#[]⟩, _), fun w _ hm => Min_err w hs ht hm rfl h0, fun w => rMin_err w (by omega) (by omega) rfl h0⟩

theorem both_Max (s t : ByteArray) (hs : s.size ≤ 1000000) (ht : t.size ≤ 1000000) :
    ∃ T : ByteArray × Nat, (∀ w, Tab w → ML w → Calls Tryz.prog 21 #[.string s, .string t] w (PR T w)) ∧ (∀ w, Calls Tryz.prog 36 #[.string s, .string t] w (PR T w)) := by
  by_cases h0 : (if rchk s ≠ 0 then rchk s else rchk t) = 0
  · obtain ⟨p, q, rfl, rfl, op, oq⟩ := two_texts h0
    refine ⟨(if 0 < cmpQ p q then qstr p else qstr q, 0), fun w _ hm => Max_q p q op oq w hm, fun w => ?_⟩
    have he : qstr (if 0 ≤ cmpQ p q then p else q) = if 0 < cmpQ p q then qstr p else qstr q := by
      by_cases h : 0 < cmpQ p q
      · rw [if_pos h, if_pos (by omega)]
      · by_cases h2 : 0 ≤ cmpQ p q
        · rw [if_neg h, if_pos h2, cmpQ_zero.1 (show cmpQ p q = 0 by omega)]
        · rw [if_neg h, if_neg h2]
    unfold PR
    rw [← he]
    exact rMax_q w op oq
  · exact ⟨(⟨#[]⟩, _), fun w _ hm => Max_err w hs ht hm rfl h0, fun w => rMax_err w (by omega) (by omega) rfl h0⟩

theorem both_Make (s t : ByteArray) (hs : s.size ≤ 1000000) (ht : t.size ≤ 1000000) :
    ∃ T : ByteArray × Nat, (∀ w, Tab w → ML w → Calls Tryz.prog 23 #[.string s, .string t] w (PR T w)) ∧ (∀ w, Calls Tryz.prog 37 #[.string s, .string t] w (PR T w)) := by
  by_cases h1 : chkI s = 0
  · by_cases h2 : chk t.data.toList = 0
    · by_cases h3 : dv t.data.toList = 0
      · have hz : (t.toList == [48]) = true := by
          obtain ⟨e, _⟩ := chk_str h2
          rw [h3] at e
          rw [e, dstr_is 0 48 (by decide)]
          decide
        exact ⟨(⟨#[]⟩, 6), fun w _ _ => Make_err0 s t w hs ht h1 h2 hz, fun w => rMake_err0 w hs ht h1 h2 hz⟩
      · exact ⟨wQ (mkQ (minusB s) (dv (restS s).data.toList) (dv t.data.toList)), fun w htab _ => Make_ok s t w htab h1 h2 h3, fun w => rMake_q w hs ht h1 h2 h3⟩
    · exact ⟨(⟨#[]⟩, _), fun w _ _ => Make_err2 s t w hs ht h1 h2, fun w => rMake_err2 w hs ht h1 h2⟩
  · exact ⟨(⟨#[]⟩, _), fun w _ _ => Make_err1 s t w hs h1, fun w => rMake_err1 w hs h1⟩

theorem both_Cmp (s t : ByteArray) (hs : s.size ≤ 1000000) (ht : t.size ≤ 1000000) :
    ∃ x y : Int, (∀ w, ML w → Calls Tryz.prog 20 #[.string s, .string t] w fun e w' => e = .returned (.tuple #[.int .i64 x, .int .i64 y]) ∧ Below w.heap.size w w') ∧
      (∀ w, Calls Tryz.prog 38 #[.string s, .string t] w fun e w' => e = .returned (.tuple #[.int .i64 x, .int .i64 y]) ∧ Below w.heap.size w w') := by
  by_cases h0 : (if rchk s ≠ 0 then rchk s else rchk t) = 0
  · obtain ⟨p, q, rfl, rfl, op, oq⟩ := two_texts h0
    exact ⟨cmpQ p q, 0, fun w hm => Cmp_q p q op oq w hm, fun w => rCmp_q w op oq⟩
  · exact ⟨0, _, fun w hm => Cmp_err w hs ht hm rfl h0, fun w => rCmp_err w (by omega) (by omega) rfl h0⟩

end Go.Proofs.YtadkijaofmcgfaaGreatDoor
