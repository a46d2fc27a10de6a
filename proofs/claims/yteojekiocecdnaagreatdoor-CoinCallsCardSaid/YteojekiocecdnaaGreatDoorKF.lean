/-
  CoinNear: mathematics; the errors of Law and Late for other ints. CoinNear returns true for any text and int.
-/
import Derived.Test.YteojekiocecdnaaGreatDoorKE
import Derived.Test.YteojekiocecdnaaGreatDoorHD
import Derived.Test.YteojekiocecdnaaGreatDoorHG
import Derived.Test.YteojekiocecdnaaGreatDoorU19
namespace Go.Proofs.YteojekiocecdnaaGreatDoor
open Go.RowKit NV
open Go.Lib (decDigits)

theorem qstr_int {q : Rat} (hn : ng q = false) (hd : q.den = 1) : qstr q = dstr (tp q) := by
  unfold qstr; rw [rstr_eq, if_pos hd, hn]; rfl
theorem cQ_zero (n : Nat) : qstr (cQ 0 n) = ⟨#[48]⟩ := by
  have h : cQ 0 n = 0 := by unfold cQ mkQ; simp
  rw [h, zero_str]; exact qstr_int rfl rfl
theorem cQ_nz {k n : Nat} (h : ((qstr (cQ k n)).toList == [48]) = true) : k = 0 := by
  have h1 : qstr (cQ k n) = qstr 0 := by
    have h2 : (qstr (cQ k n)).data.toList = [48] := by rw [← Go.Lib.toList_data]; exact beq_iff_eq.1 h
    have h3 : qstr (0 : Rat) = ⟨#[48]⟩ := (qstr_int (q := 0) rfl rfl).trans zero_str.symm
    rw [h3]; exact ba_ext h2
  have h4 := qstr_inj h1
  unfold cQ mkQ at h4
  simp only [Bool.false_eq_true, if_false] at h4
  have h5 := (Rat.mkRat_eq_zero (n := (k : Int)) (d := 2 ^ n) (Nat.pos_iff_ne_zero.1 (Nat.pow_pos (by omega)))).1 h4
  omega
theorem cQ_is (k n : Nat) : ((qstr (cQ k n)).toList == [48]) = decide (k = 0) := by
  by_cases h : k = 0
  · subst h; rw [cQ_zero, decide_eq_true rfl]; exact lit_eq [48] _ rfl
  · rw [decide_eq_false h]
    cases hb : ((qstr (cQ k n)).toList == [48]) with
    | false => rfl
    | true => exact absurd (cQ_nz hb) h

theorem mk_pos (a b : Nat) : mkQ false a b = mkRat (a : Int) b := by unfold mkQ; simp
theorem mk_neg (a b : Nat) : mkQ true a b = mkRat (-(a : Int)) b := by unfold mkQ; simp
theorem q_mk {q : Rat} (hn : ng q = false) : mkQ false (tp q) q.den = q := by
  have h := mkQ_self q
  rw [hn] at h; exact h
theorem two_nz (n : Nat) : (2 ^ n : Nat) ≠ 0 := Nat.pos_iff_ne_zero.1 (Nat.pow_pos (by omega))

/-- What a probability lies above the chance of 1. -/
def gapQ (q : Rat) (n : Nat) : Rat := mkQ false (tp q * 2 ^ n % q.den) (q.den * 2 ^ n)
theorem near_sum {q : Rat} (hn : ng q = false) (n : Nat) : cQ (cOne q n) n + gapQ q n = q := by
  have h2 := two_nz n
  have hd := q.den_nz
  have hdm := Nat.div_add_mod (tp q * 2 ^ n) q.den
  rw [show tp q * 2 ^ n / q.den = cOne q n from rfl] at hdm
  conv => rhs; rw [← q_mk hn]
  unfold cQ gapQ
  generalize tp q * 2 ^ n % q.den = R at *
  generalize cOne q n = O at *
  generalize hA : 2 ^ n = A at *
  generalize q.den = D at *
  generalize tp q = t at *
  rw [mk_pos, mk_pos, mk_pos, Rat.mkRat_add_mkRat _ _ h2 (Nat.mul_ne_zero hd h2), Rat.mkRat_eq_iff (Nat.mul_ne_zero h2 (Nat.mul_ne_zero hd h2)) hd]
  have e : (O * (D * A) + R * A) * D = t * (A * (D * A)) := by
    have e1 : O * (D * A) + R * A = (D * O + R) * A := by
      rw [Nat.add_mul]; congr 1; ac_rfl
    rw [e1, hdm]; ac_rfl
  exact_mod_cast e
theorem near_gap {q : Rat} (hn : ng q = false) (n : Nat) : q + -(cQ (cOne q n) n) = gapQ q n := by
  have h := near_sum hn n
  generalize cQ (cOne q n) n = c at h ⊢
  generalize gapQ q n = g at h ⊢
  rw [← h, Rat.add_comm c g, Rat.add_assoc, Rat.add_neg_cancel, Rat.add_zero]

theorem gap_ng (q : Rat) (n : Nat) : ng (gapQ q n) = false := by
  obtain ⟨_, _, h⟩ := red_parts false (tp q * 2 ^ n % q.den) (Nat.mul_ne_zero q.den_nz (two_nz n))
  unfold gapQ; rw [h]; rfl
theorem gap_zero {q : Rat} {n : Nat} (h : tp q * 2 ^ n % q.den = 0) : gapQ q n = 0 := by
  unfold gapQ; rw [h]; exact mkQ_zero _ _
theorem gap_less (q : Rat) (n : Nat) : cmpQ (gapQ q n) (cQ 1 n) < 0 := by
  rw [← cmpQ_sub, sgn_neg_iff]
  have h2 := two_nz n
  have hd := q.den_nz
  have hlt := Nat.mod_lt (tp q * 2 ^ n) q.den_pos
  have key : gapQ q n + -(cQ 1 n) = mkQ true (q.den - tp q * 2 ^ n % q.den) (q.den * 2 ^ n) := by
    have hs : mkQ true (q.den - tp q * 2 ^ n % q.den) (q.den * 2 ^ n) + cQ 1 n = gapQ q n := by
      unfold cQ gapQ
      generalize tp q * 2 ^ n % q.den = R at *
      generalize 2 ^ n = A at *
      generalize q.den = D at *
      obtain ⟨E, rfl⟩ : ∃ E, D = R + E := ⟨D - R, by omega⟩
      rw [Nat.add_sub_cancel_left, mk_pos, mk_pos, mk_neg, Rat.mkRat_add_mkRat _ _ (Nat.mul_ne_zero hd h2) h2, Rat.mkRat_eq_iff (Nat.mul_ne_zero (Nat.mul_ne_zero hd h2) h2) (Nat.mul_ne_zero hd h2)]
      have e : (-(E : Int) * (A : Int) + ((1 : Nat) : Int) * (((R + E) * A : Nat) : Int)) = ((R * A : Nat) : Int) := by
        rw [Nat.add_mul, Int.natCast_add, Int.natCast_mul, Int.natCast_mul, Int.neg_mul]; simp; omega
      rw [e]
      have e2 : (R * A) * ((R + E) * A) = R * ((R + E) * A * A) := by ac_rfl
      exact_mod_cast e2
    rw [← hs, Rat.add_assoc, Rat.add_neg_cancel, Rat.add_zero]
  rw [key]
  obtain ⟨_, _, h⟩ := red_parts true (q.den - tp q * 2 ^ n % q.den) (Nat.mul_ne_zero hd h2)
  rw [h]
  have hpos : 0 < q.den - tp q * 2 ^ n % q.den := by omega
  have hdv := Nat.gcd_dvd_left (q.den - tp q * 2 ^ n % q.den) (q.den * 2 ^ n)
  have h8 := Nat.div_pos (Nat.le_of_dvd hpos hdv) (Nat.gcd_pos_of_pos_left _ hpos)
  rw [decide_eq_false (Nat.pos_iff_ne_zero.1 h8)]; rfl

/-- The probability times 2^n. -/
def scQ (q : Rat) (n : Nat) : Rat := mkQ false (tp q * 2 ^ n) q.den
theorem inv_two (n : Nat) : mkQ false (2 ^ n) 1 = (cQ 1 n)⁻¹ := by
  have h2 := two_nz n
  have hc0 : cQ 1 n ≠ 0 := by
    unfold cQ; rw [mk_pos]
    intro h
    have := (Rat.mkRat_eq_zero h2).1 h
    simp at this
  have h1 : mkQ false (2 ^ n) 1 * cQ 1 n = 1 := by
    unfold cQ
    rw [mk_pos, mk_pos, Rat.mkRat_mul_mkRat]
    have : (1 : Rat) = mkRat 1 1 := by rfl
    rw [this, Rat.mkRat_eq_iff (by simp) (by decide)]
    simp
  have h3 := congrArg (· * (cQ 1 n)⁻¹) h1
  rw [Rat.mul_assoc, Rat.mul_inv_cancel _ hc0, Rat.mul_one, Rat.one_mul] at h3
  exact h3
theorem sc_eq {q : Rat} (hn : ng q = false) (n : Nat) : q * mkQ false (2 ^ n) 1 = scQ q n := by
  conv => lhs; rw [← q_mk hn]
  unfold scQ
  rw [mk_pos, mk_pos, mk_pos, Rat.mkRat_mul_mkRat, Nat.mul_one, Int.natCast_mul]
theorem sc_fl (q : Rat) (n : Nat) : flQ (scQ q n) = scQ q n ↔ tp q * 2 ^ n % q.den = 0 := by
  obtain ⟨f1, f2, f3⟩ := fl_parts (scQ q n)
  obtain ⟨r1, r2, r3⟩ := red_parts false (tp q * 2 ^ n) q.den_nz
  have hd := q.den_pos
  have hng : ng (scQ q n) = false := by unfold scQ; rw [r3]; rfl
  constructor
  · intro h
    rw [h] at f1
    unfold scQ at f1
    rw [r2] at f1
    have hg := Nat.gcd_dvd_right (tp q * 2 ^ n) q.den
    have he : Nat.gcd (tp q * 2 ^ n) q.den = q.den := by
      have := Nat.div_mul_cancel hg
      rw [f1, Nat.one_mul] at this; exact this
    exact Nat.mod_eq_zero_of_dvd (he ▸ Nat.gcd_dvd_left (tp q * 2 ^ n) q.den)
  · intro h
    have he : Nat.gcd (tp q * 2 ^ n) q.den = q.den := Nat.gcd_eq_right (Nat.dvd_of_mod_eq_zero h)
    have hden : (scQ q n).den = 1 := by unfold scQ; rw [r2, he, Nat.div_self hd]
    refine rat_ext f2 ?_ (by rw [f1, hden])
    rw [f3, hng, hden, if_neg (by simp), Nat.div_one, Nat.add_zero]

theorem ok_prodD {q : Rat} (hs : (dstr q.den).size ≤ 1000) {n : Nat} (hn : n ≤ 256) : Ok (q.den * 2 ^ n) := by
  obtain ⟨K, hK⟩ : ∃ K, K = 1000 := ⟨_, rfl⟩
  rw [← hK, dstr_size, dec_len_le (by omega)] at hs
  have h1 : 2 ^ n < 10 ^ (n + 1) := by
    have a : 2 ^ n ≤ 10 ^ n := Nat.pow_le_pow_left (by omega) n
    have b : 10 ^ (n + 1) = 10 ^ n * 10 := by rw [Nat.pow_succ]
    have c : 0 < 10 ^ n := Nat.pow_pos (by omega)
    omega
  have h2 : q.den * 2 ^ n < 10 ^ K * 10 ^ (n + 1) := Nat.mul_lt_mul_of_lt_of_le hs (Nat.le_of_lt h1) (Nat.pow_pos (by omega))
  rw [← Nat.pow_add] at h2
  exact ok_small (by omega) h2
theorem gap_ok {q : Rat} (op : QOk q) (hs : (dstr q.den).size ≤ 1000) {n : Nat} (hn : n ≤ 256) : QOk (gapQ q n) :=
  qok_mk (op.2.mono (Nat.le_of_lt (Nat.mod_lt _ q.den_pos))) (ok_prodD hs hn) (Nat.mul_ne_zero q.den_nz (two_nz n))
theorem sc_ok {q : Rat} (op : QOk q) (hle : tp q ≤ q.den) (hs : (dstr q.den).size ≤ 1000) {n : Nat} (hn : n ≤ 256) : QOk (scQ q n) := qok_mk (ok_prod hle hs hn) op.2 q.den_nz
theorem fl_ok {s : Rat} (h : QOk s) (hn : ng s = false) : QOk (flQ s) := by
  obtain ⟨f1, _, f3⟩ := fl_parts s
  refine ⟨?_, ?_⟩
  · rw [f3, hn, if_neg (by simp), Nat.add_zero]; exact h.1.mono (Nat.div_le_self _ _)
  · rw [f1]; exact ok_two (n := 1) (by omega) (by omega)
theorem sc_ng (q : Rat) (n : Nat) : ng (scQ q n) = false := by
  obtain ⟨_, _, r3⟩ := red_parts false (tp q * 2 ^ n) q.den_nz
  unfold scQ; rw [r3]; rfl

def qHalf : Rat := ⟨1, 2, by decide, by decide⟩
theorem half_str : qstr qHalf = ⟨#[49, 47, 50]⟩ := (frac_str false 1 2 (by omega) (by omega) (by omega)).trans rfl
theorem half_ok : QOk qHalf := ⟨ok_two (n := 2) (by omega) (by decide), ok_two (n := 2) (by omega) (by decide)⟩
theorem half_pow : ∀ n : Nat, qHalf ^ n = cQ 1 n
  | 0 => by rw [Rat.pow_zero]; rfl
  | n + 1 => by
    rw [Rat.pow_succ, half_pow n]
    have h2 := two_nz n
    unfold cQ
    rw [mk_pos, mk_pos, show qHalf = mkRat 1 2 from rfl, Rat.mkRat_mul_mkRat, Nat.pow_succ]; rfl

open Go.RowKit NV
open Go.Lib (decDigits)

set_option maxHeartbeats 3200000 in
set_option maxRecDepth 100000 in
theorem count_r {q : Rat} (op : QOk q) (hpe : probE q = 0) (n : Int) (hn : n < 0 ∨ 256 < n) (w : World) (hm : ML w) :
    Calls Tryz.prog 61 #[.string (qstr q), .int .i64 n] w fun e w' => e = .returned (.tuple #[.agg #[.string ⟨#[]⟩, .string ⟨#[]⟩, .string ⟨#[]⟩, .string ⟨#[]⟩], .int .i64 2]) ∧ Below w.heap.size w w' := by
  have HP := Lib.hid (fun W (h : Below w.heap.size w W) => cparts_ok op hpe W (ml_keep hm (ml_pos hm) h))
  have HB := Lib.hid ((Below.refl w.heap.size w).alloc (Nat.le_refl _) (cObj empB empB empB empB))
  have HR := Lib.hid (CB.new w empB empB empB empB)
  generalize dstr (tp q) = t1 at *
  generalize dstr q.den = t2 at *
  generalize qstr q = s at *
  clear op hpe hm
  rcases hn with hn | hn
  · go_enter Tryz.func61, Tryz.ntmps61
    go_wp2_with fail
    refine (HP.out _ HB.out).mono ?_
    rintro e w1 ⟨rfl, hb1⟩
    have hr := HR.out.below hb1
    obtain ⟨r0, r1, r2, r3⟩ := hr.c
    have q0 := hr.f 0
    have q1 := hr.f 1
    have q2 := hr.f 2
    have q3 := hr.f 3
    have HRES := Lib.hid (And.intro hr (HB.out.trans (hb1.mono HB.out.size)))
    clear hb1 HP HR HB hr
    go_wp2_with fail
    exact bodyPost_ret ((HRES.out.1.st empB empB empB empB).resultC rfl rfl) rfl ⟨rfl, below_sc4 HRES.out.2 (Nat.le_refl _) _ _ _ _⟩
  · have h0 : ¬ n < 0 := by omega
    go_enter Tryz.func61, Tryz.ntmps61
    go_wp2_with fail
    refine (HP.out _ HB.out).mono ?_
    rintro e w1 ⟨rfl, hb1⟩
    have hr := HR.out.below hb1
    obtain ⟨r0, r1, r2, r3⟩ := hr.c
    have q0 := hr.f 0
    have q1 := hr.f 1
    have q2 := hr.f 2
    have q3 := hr.f 3
    have HRES := Lib.hid (And.intro hr (HB.out.trans (hb1.mono HB.out.size)))
    clear hb1 HP HR HB hr
    go_wp2_with fail
    exact bodyPost_ret ((HRES.out.1.st empB empB empB empB).resultC rfl rfl) rfl ⟨rfl, below_sc4 HRES.out.2 (Nat.le_refl _) _ _ _ _⟩

set_option maxHeartbeats 1600000 in
theorem Late_r {q : Rat} (op : QOk q) (hpe : probE q = 0) (n : Int) (hn : n < 0 ∨ 256 < n) (w : World) (hm : ML w) :
    Calls Tryz.prog 13 #[.string (qstr q), .int .i64 n] w fun e w' => e = .returned (.tuple #[.string ⟨#[]⟩, .int .i64 2]) ∧ Below w.heap.size w w' := by
  have HC := Lib.hid (count_r op hpe n hn w hm)
  generalize qstr q = s at *
  clear op hpe hm hn
  go_enter Tryz.func13, Tryz.ntmps13
  go_wp2_with fail
  refine HC.out.mono ?_
  rintro e w1 ⟨rfl, hb1⟩
  have HB := Lib.hid (hb1.alloc hb1.size (cObj empB empB empB empB))
  clear hb1 HC
  go_wp2_with fail
  go_ret2
  exact ⟨rfl, HB.out⟩

set_option maxHeartbeats 1600000 in
theorem Law_r {q : Rat} (op : QOk q) (hpe : probE q = 0) (n : Int) (hn : n < 0 ∨ 256 < n) (w : World) (hm : ML w) :
    Calls Tryz.prog 15 #[.string (qstr q), .int .i64 n] w fun e w' => e = .returned (.tuple #[.slice none 0 0, .int .i64 2]) ∧ Below w.heap.size w w' := by
  have HC := Lib.hid (count_r op hpe n hn w hm)
  generalize qstr q = s at *
  clear op hpe hm hn
  go_enter Tryz.func15, Tryz.ntmps15
  go_wp2_with fail
  refine HC.out.mono ?_
  rintro e w1 ⟨rfl, hb1⟩
  have HB := Lib.hid (hb1.alloc hb1.size (cObj empB empB empB empB))
  clear hb1 HC
  go_wp2_with fail
  go_ret2
  exact ⟨rfl, HB.out⟩

/-- The probability of 1 in a list of outcomes. -/
def oneA (a : ByteArray) (l : List (ByteArray × ByteArray)) : ByteArray := l.foldl (fun a m => if (m.1.toList == [49]) = true then m.2 else a) a
theorem oneA_app (a : ByteArray) (l m : List (ByteArray × ByteArray)) : oneA a (l ++ m) = oneA (oneA a l) m := by unfold oneA; rw [List.foldl_append]
theorem oneA_no {a : ByteArray} {m : ByteArray × ByteArray} (h : (m.1.toList == [49]) = false) : oneA a (fltM [m]) = a := by
  cases hz : (m.2.toList == [48]) with
  | true => rw [fltM_no hz]; rfl
  | false => rw [fltM_yes hz]; show (if (m.1.toList == [49]) = true then m.2 else a) = a; rw [h, if_neg (by simp)]
theorem lit49 : ((⟨#[49]⟩ : ByteArray).toList == [49]) = true := lit_eq [49] _ rfl
theorem not49 {s : ByteArray} {l : List UInt8} (h : s.data.toList = l) (h2 : (l == [49]) = false) : (s.toList == [49]) = false := by rw [Go.Lib.toList_data, h]; exact h2
theorem oneA_law (q : Rat) (n : Nat) : oneA ⟨#[48]⟩ (fltM (lawM q n)) = qstr (cQ (cOne q n) n) := by
  have e : lawM q n = [(⟨#[48]⟩, qstr (cQ (cZero q n) n))] ++ ([(⟨#[49]⟩, qstr (cQ (cOne q n) n))] ++ [(sLate, qstr (cQ (cLate q n) n))]) := rfl
  rw [e, fltM_app, fltM_app, oneA_app, oneA_app, oneA_no (m := (sLate, qstr (cQ (cLate q n) n))) (not49 rfl rfl), oneA_no (m := (⟨#[48]⟩, qstr (cQ (cZero q n) n))) (not49 rfl rfl)]
  cases hz : ((qstr (cQ (cOne q n) n)).toList == [48]) with
  | true =>
    rw [fltM_no hz, cQ_nz hz, cQ_zero]; rfl
  | false =>
    rw [fltM_yes hz]
    show (if ((⟨#[49]⟩ : ByteArray).toList == [49]) = true then _ else _) = _
    rw [if_pos lit49]

end Go.Proofs.YteojekiocecdnaaGreatDoor
