/-
  Texts of rational numbers.
-/
import Derived.Test.YtadkijaofmcgfaaGreatDoorGI
import Derived.Test.YtadkijaofmcgfaaGreatDoorS1
namespace Go.Proofs.YtadkijaofmcgfaaGreatDoor
open Go.RowKit NV
open Go.Lib (decDigits)

theorem ba_ext {a b : ByteArray} (h : a.data.toList = b.data.toList) : a = b := by
  cases a; cases b
  simp only at h
  rw [Array.toList_inj.1 h]

theorem app_list (a b : ByteArray) : (a ++ b).data.toList = a.data.toList ++ b.data.toList := by
  rw [ByteArray.data_append, Array.toList_append]

/-- The text of a rational number. -/
def qstr (q : Rat) : ByteArray := rstr (ng q) (tp q) q.den
/-- Both numbers of q fit into a text. -/
def QOk (q : Rat) : Prop := Ok (tp q) ∧ Ok q.den

theorem dstr_of_good {s : ByteArray} (h : badB s.data.toList = false) : s = dstr (dv s.data.toList) := by
  obtain ⟨h1, h2, h3⟩ := good_parts h
  exact dstr_of (dec_of_digs h1 h2 h3).symm

theorem cutAt_some : ∀ (l r : List UInt8), (∀ c ∈ l, c.toNat ≠ 47) → cutAt (l ++ 47 :: r) = l.length
  | [], r, _ => rfl
  | c :: l, r, h => by
    have h0 : (c.toNat == 47) = false := by rw [beq_eq_false_iff_ne]; exact h c (by simp)
    have ih := cutAt_some l r (fun x hx => h x (by simp [hx]))
    unfold cutAt at ih ⊢
    rw [List.cons_append, List.findIdx_cons, h0, ih]
    rfl

theorem cutAt_none : ∀ (l : List UInt8), (∀ c ∈ l, c.toNat ≠ 47) → cutAt l = l.length
  | [], _ => rfl
  | c :: l, h => by
    have h0 : (c.toNat == 47) = false := by rw [beq_eq_false_iff_ne]; exact h c (by simp)
    have ih := cutAt_none l (fun x hx => h x (by simp [hx]))
    unfold cutAt at ih ⊢
    rw [List.findIdx_cons, h0, ih]
    rfl

/-- The integer before the line. -/
def istr (m : Bool) (n : Nat) : ByteArray := if m then ⟨#[45]⟩ ++ dstr n else dstr n
theorem istr_list (m : Bool) (n : Nat) : (istr m n).data.toList = (if m then [45] else []) ++ decDigits n := by
  cases m
  · simp [istr, dstr_list]
  · show ((⟨#[45]⟩ : ByteArray) ++ dstr n).data.toList = _
    rw [app_list, dstr_list]; rfl
theorem rstr_eq (m : Bool) (n d : Nat) : rstr m n d = if d = 1 then istr m n else istr m n ++ ⟨#[47]⟩ ++ dstr d := by
  unfold rstr istr
  rfl
theorem istr_no (m : Bool) (n : Nat) : ∀ c ∈ (istr m n).data.toList, c.toNat ≠ 47 := by
  intro c hc
  rw [istr_list] at hc
  rcases List.mem_append.1 hc with h | h
  · cases m
    · simp at h
    · simp at h; subst h; decide
  · have := digs_dec n c h; omega

theorem istr_minus (m : Bool) (n : Nat) : minusB (istr m n) = m := by
  unfold minusB
  rw [istr_list]
  cases m
  · simp only [Bool.false_eq_true, if_false, List.nil_append]
    rw [decide_eq_false]
    intro h
    cases hd : decDigits n with
    | nil => exact dec_ne_nil n hd
    | cons c l =>
      rw [hd] at h
      have := digs_dec n c (by rw [hd]; simp)
      have hc : c = 45 := h
      subst hc
      revert this; decide
  · rfl

theorem istr_rest (m : Bool) (n : Nat) : restS (istr m n) = dstr n := by
  apply ba_ext
  rw [rest_list, Lib.trimPrefix, prefix_minus, istr_minus, istr_list, dstr_list]
  cases m <;> rfl

theorem rstr_cut (m : Bool) (n d : Nat) : numS (rstr m n d) = istr m n ∧ denS (rstr m n d) = dstr d ∧ (cutAt (rstr m n d).data.toList < (rstr m n d).size ↔ d ≠ 1) := by
  rw [rstr_eq]
  by_cases h : d = 1
  · rw [if_pos h]
    have hc : cutAt (istr m n).data.toList = (istr m n).size := by rw [Go.Lib.size_eq]; exact cutAt_none _ (istr_no m n)
    refine ⟨?_, ?_, ?_⟩
    · unfold numS; rw [hc]
      apply ba_ext
      rw [Go.Lib.extract_data, Go.Lib.size_eq, List.drop_zero, Nat.sub_zero, List.take_length]
    · unfold denS; rw [hc, if_neg (by omega), h]
      apply ba_ext; rw [dstr_list, dec_one]
    · rw [hc]; constructor
      · intro h2; omega
      · intro h2; exact absurd h h2
  · rw [if_neg h]
    have hl : (istr m n ++ ⟨#[47]⟩ ++ dstr d).data.toList = (istr m n).data.toList ++ 47 :: decDigits d := by
      rw [app_list, app_list, dstr_list]
      simp
    have hc : cutAt (istr m n ++ ⟨#[47]⟩ ++ dstr d).data.toList = (istr m n).size := by
      rw [hl, Go.Lib.size_eq]; exact cutAt_some _ _ (istr_no m n)
    have hs : (istr m n ++ ⟨#[47]⟩ ++ dstr d).size = (istr m n).size + 1 + (decDigits d).length := by
      rw [Go.Lib.size_eq, hl, Go.Lib.size_eq]; simp; omega
    refine ⟨?_, ?_, ?_⟩
    · unfold numS; rw [hc]
      apply ba_ext
      rw [Go.Lib.extract_data, hl, Go.Lib.size_eq, List.drop_zero, Nat.sub_zero, List.take_left']
      rfl
    · unfold denS; rw [hc, if_pos (by omega)]
      apply ba_ext
      rw [Go.Lib.extract_data, hl, hs, Go.Lib.size_eq, dstr_list]
      rw [show (istr m n).data.toList ++ 47 :: decDigits d = ((istr m n).data.toList ++ [47]) ++ decDigits d by simp]
      rw [List.drop_left' (by simp)]
      exact List.take_of_length_le (by omega)
    · rw [hc, hs]; constructor
      · intro _; exact h
      · intro _; omega

theorem dstr_is (n : Nat) (k : UInt8) (hk : 48 ≤ k.toNat ∧ k.toNat ≤ 57) : ((dstr n).toList == [k]) = decide (n = k.toNat - 48) := by
  rw [toList_eq, dstr_list]
  apply decide_eq_decide.2
  constructor
  · intro h
    have := dv_dec n
    rw [h] at this
    rw [← this, dv]
    simp
  · intro h
    rw [h, dec_small (by omega)]
    congr 1
    apply UInt8.toNat_inj.1
    rw [byte_toNat (by omega)]
    omega

/-- What a text's reader finds in the text of a number. -/
theorem rchk_rstr {m : Bool} {n d : Nat} (hn : Ok n) (hd : Ok d) (hd0 : d ≠ 0) (hc : Nat.gcd n d = 1) (hz : m = true → n ≠ 0) :
    rchk (rstr m n d) = 0 := by
  obtain ⟨h1, h2, h3⟩ := rstr_cut m n d
  have hsn : ¬ 4000 < (dstr n).size := by rw [dstr_size]; unfold Ok at hn; omega
  have hsd : ¬ 4000 < (dstr d).size := by rw [dstr_size]; unfold Ok at hd; omega
  have hio : intOk (istr m n) = true := by
    unfold intOk
    rw [istr_rest, istr_minus, dstr_list, bad_dec, dstr_is n 48 (by decide)]
    cases m
    · rfl
    · have := hz rfl; simp; exact this
  have hR : isR (rstr m n d) = true := by
    unfold isR
    rw [h1, h2, istr_rest, hio]
    split
    · rename_i hlt
      have hd1 := h3.1 hlt
      rw [dstr_list, bad_dec, dstr_is n 48 (by decide), dstr_is d 48 (by decide), dstr_is d 49 (by decide)]
      have : n ≠ 0 := by
        intro e; subst e
        rw [Nat.gcd_zero_left] at hc; exact hd1 hc
      simp [this, hd0, hd1]
    · rfl
  unfold rchk
  rw [hR, if_pos rfl, h1, h2, istr_rest, if_neg (by omega), dstr_list, dstr_list, dv_dec, dv_dec, if_pos hc]

/-- A text without error is the text of a rational number. -/
theorem rchk_rat {s : ByteArray} (h : rchk s = 0) : ∃ q : Rat, s = qstr q ∧ QOk q := by
  unfold rchk at h
  by_cases hR : isR s = true
  · rw [hR, if_pos rfl] at h
    by_cases hsz : 4000 < (restS (numS s)).size ∨ 4000 < (denS s).size
    · rw [if_pos hsz] at h; simp at h
    · rw [if_neg hsz] at h
      by_cases hg : Nat.gcd (dv (restS (numS s)).data.toList) (dv (denS s).data.toList) = 1
      · obtain ⟨b1, b2⟩ := isR_digs hR
        have e1 := dstr_of_good b1
        have e2 := dstr_of_good b2
        generalize hn : dv (restS (numS s)).data.toList = n at *
        generalize hd : dv (denS s).data.toList = d at *
        have hi : intOk (numS s) = true := by
          unfold isR at hR
          split at hR
          · simp only [Bool.and_eq_true] at hR; exact hR.1.1.1.1
          · exact hR
        have hz : minusB (numS s) = true → n ≠ 0 := by
          intro hm e
          rw [intOk, hm, e1, e, dstr_is 0 48 (by decide)] at hi
          simp at hi
        have hnum : numS s = istr (minusB (numS s)) n := by
          apply ba_ext
          rw [istr_list]
          have hr := congrArg (fun x => x.data.toList) e1
          simp only [dstr_list] at hr
          rw [rest_list, Lib.trimPrefix, prefix_minus] at hr
          cases hm : minusB (numS s) with
          | false => rw [hm] at hr; simpa using hr
          | true =>
            rw [hm] at hr
            simp only [if_true] at hr ⊢
            rw [minusB] at hm
            cases hl : (numS s).data.toList with
            | nil => rw [hl] at hm; simp at hm
            | cons c l =>
              rw [hl] at hm hr
              have hc : c = 45 := by simpa using hm
              rw [hc]
              simp at hr
              rw [← hr]; rfl
        have hd1 : d = 1 ↔ ¬ cutAt s.data.toList < s.size := by
          constructor
          · intro e hlt
            unfold isR at hR
            rw [if_pos hlt, e2, dstr_is d 49 (by decide), decide_eq_true (by simpa using e)] at hR
            simp at hR
          · intro hlt
            rw [← hd]
            unfold denS
            rw [if_neg hlt]; rfl
        have hd0 : d ≠ 0 := by
          intro e
          by_cases hlt : cutAt s.data.toList < s.size
          · unfold isR at hR
            rw [if_pos hlt, e2, dstr_is d 48 (by decide), decide_eq_true (by simpa using e)] at hR
            simp at hR
          · have := hd1.2 hlt; omega
        have hs : s = rstr (minusB (numS s)) n d := by
          rw [rstr_eq, ← hnum]
          by_cases hlt : cutAt s.data.toList < s.size
          · rw [if_neg (fun e => hd1.1 e hlt), ← e2]
            apply ba_ext
            rw [app_list, app_list]
            unfold numS denS
            rw [if_pos hlt, Go.Lib.extract_data, Go.Lib.extract_data]
            rw [Go.Lib.size_eq] at hlt ⊢
            have hb : s.data.toList[cutAt s.data.toList]'hlt = 47 := by
              have := List.findIdx_getElem (p := fun c : UInt8 => c.toNat == 47) (xs := s.data.toList) (w := hlt)
              apply UInt8.toNat_inj.1
              exact beq_iff_eq.1 this
            generalize cutAt s.data.toList = k at *
            simp only [List.drop_zero, Nat.sub_zero]
            rw [List.take_of_length_le (l := List.drop (k + 1) s.data.toList) (by simp)]
            have : s.data.toList = s.data.toList.take k ++ (s.data.toList[k] :: s.data.toList.drop (k + 1)) := by
              rw [← List.drop_eq_getElem_cons hlt, List.take_append_drop]
            rw [hb] at this
            simpa using this
          · rw [if_pos (hd1.2 hlt)]
            apply ba_ext
            unfold numS
            have hc : cutAt s.data.toList = s.data.toList.length := by
              have := cutAt_le s.data.toList
              rw [Go.Lib.size_eq] at hlt; omega
            rw [hc, Go.Lib.extract_data, List.drop_zero, Nat.sub_zero, List.take_length]
        have hon : Ok n := by unfold Ok; rw [← dstr_size, ← e1]; omega
        have hod : Ok d := by unfold Ok; rw [← dstr_size, ← e2]; omega
        obtain ⟨q, q1, q2, q3⟩ := rat_of hd0 hg hz
        exact ⟨q, by rw [qstr, q1, q2, q3]; exact hs, by rw [QOk, q2, q3]; exact ⟨hon, hod⟩⟩
      · rw [if_neg hg] at h; simp at h
  · rw [if_neg hR] at h; simp at h

theorem qcop (q : Rat) : Nat.gcd (tp q) q.den = 1 := q.reduced

/-- What is in the text of a rational number. -/
theorem qstr_parts (q : Rat) : numS (qstr q) = istr (ng q) (tp q) ∧ denS (qstr q) = dstr q.den ∧ minusB (numS (qstr q)) = ng q ∧ restS (numS (qstr q)) = dstr (tp q) ∧ dv (restS (numS (qstr q))).data.toList = tp q ∧ dv (denS (qstr q)).data.toList = q.den := by
  obtain ⟨h1, h2, _⟩ := rstr_cut (ng q) (tp q) q.den
  unfold qstr
  refine ⟨h1, h2, by rw [h1, istr_minus], by rw [h1, istr_rest], ?_, ?_⟩
  · rw [h1, istr_rest, dstr_list, dv_dec]
  · rw [h2, dstr_list, dv_dec]

theorem qstr_chk {q : Rat} (h : QOk q) : rchk (qstr q) = 0 := rchk_rstr h.1 h.2 q.den_nz (qcop q) ng_zero

theorem qstr_inj {p q : Rat} (h : qstr p = qstr q) : p = q := by
  obtain ⟨_, _, a1, _, a2, a3⟩ := qstr_parts p
  obtain ⟨_, _, b1, _, b2, b3⟩ := qstr_parts q
  rw [h] at a1 a2 a3
  exact rat_ext (a1.symm.trans b1) (a2.symm.trans b2) (a3.symm.trans b3)

theorem qstr_size {q : Rat} (h : QOk q) : (qstr q).size ≤ 8002 := by
  have h1 : (dstr (tp q)).size ≤ 4000 := by rw [dstr_size]; exact h.1
  have h2 : (dstr q.den).size ≤ 4000 := by rw [dstr_size]; exact h.2
  have hi : (istr (ng q) (tp q)).size ≤ 4001 := by
    unfold istr; split
    · rw [ByteArray.size_append]; have : (⟨#[45]⟩ : ByteArray).size = 1 := rfl; omega
    · omega
  unfold qstr; rw [rstr_eq]; split
  · omega
  · rw [ByteArray.size_append, ByteArray.size_append]; have : (⟨#[47]⟩ : ByteArray).size = 1 := rfl; omega

/-- What write returns of a rational number. -/
theorem wR_ok {q : Rat} (h : QOk q) : wR (ng q) (tp q) q.den = (qstr q, 0) := if_pos h

end Go.Proofs.YtadkijaofmcgfaaGreatDoor
