/-
  RatTexts returns true for any two texts. RatNames returns true.
-/
import Derived.Test.YteojekiocecdnaaGreatDoorHH
import Derived.Test.YteojekiocecdnaaGreatDoorT1
import Derived.Test.YteojekiocecdnaaGreatDoorHL
import Derived.Room.AppendFits
import Derived.WalkSmall
namespace Go.Proofs.YteojekiocecdnaaGreatDoor
open Go.RowKit NV
open Go.Lib (decDigits)

theorem itoa_str (n : Int) (h0 : -9223372036854775808 ≤ n) (h1 : n ≤ 9223372036854775807) : (⟨(Lib.itoa n).toArray⟩ : ByteArray) = qstr (n : Rat) := by
  apply ba_ext
  unfold qstr
  rw [rstr_eq, if_pos (Rat.den_intCast n), istr_list]
  show (Lib.itoa n) = _
  unfold Lib.itoa ng tp
  rw [Rat.num_intCast]
  by_cases h : n < 0
  · simp [h]
  · simp [h]
    congr 1; omega

theorem chkI_istr {m : Bool} {n : Nat} (hn : Ok n) (hz : m = true → n ≠ 0) : chkI (istr m n) = 0 := by
  have hio : intOk (istr m n) = true := by
    unfold intOk
    rw [istr_rest, istr_minus, dstr_list, bad_dec, dstr_is n 48 (by decide)]
    cases m
    · rfl
    · have := hz rfl; simp; exact this
  rw [((chkI_cases _).2 hio).1, istr_rest, dstr_list, hn.chk]

theorem Make_q {m : Bool} {n d : Nat} (hn : Ok n) (hd : Ok d) (hd0 : d ≠ 0) (hz : m = true → n ≠ 0) (w : World) (htab : Tab w) :
    Calls Tryz.prog 97 #[.string (istr m n), .string (dstr d)] w (RQ (mkQ m n d) w) := by
  have := Make_ok (istr m n) (dstr d) w htab (chkI_istr hn hz) (by rw [dstr_list, hd.chk]) (by rw [dstr_list, dv_dec]; exact hd0)
  rw [istr_minus, istr_rest, dstr_list, dv_dec, dstr_list, dv_dec] at this
  exact this

theorem mkQ_mul (q : Rat) {k : Nat} (hk : k ≠ 0) : mkQ (ng q) (tp q * k) (q.den * k) = q := by
  unfold mkQ
  have : (if ng q then -((tp q * k : Nat) : Int) else ((tp q * k : Nat) : Int)) = q.num * (k : Int) := by
    rw [num_of q]; cases ng q <;> simp [Int.neg_mul]
  rw [this, Rat.mkRat_mul_right hk, Rat.mkRat_self]

theorem sgn_abs (q : Rat) : ((sgnQ q : Int) : Rat) * absQ q = q := by
  unfold sgnQ absQ
  rcases lt_tri q 0 with h | h | h
  · have hn : ng q = true := by unfold ng; apply decide_eq_true; have := (Rat.lt_iff q 0).1 h; simpa using this
    rw [cmpQ_lt h, hn, if_pos rfl, show (((-1 : Int)) : Rat) = -1 from rfl, Rat.neg_mul, Rat.mul_neg, Rat.one_mul, Rat.neg_neg]
  · subst h; rw [cmpQ_self]; exact Rat.zero_mul _
  · have hn : ng q = false := by unfold ng; apply decide_eq_false; have := (Rat.lt_iff 0 q).1 h; simp at this; omega
    rw [cmpQ_gt h, hn, if_neg (by simp), show (((1 : Int)) : Rat) = 1 from rfl, Rat.one_mul]

theorem sgn_neg_iff (q : Rat) : sgnQ q < 0 ↔ ng q = true := by
  rw [← sgnF_q]
  have := @ng_zero q
  unfold sgnF
  cases h : ng q
  · split <;> simp
  · rw [if_neg (this h)]; simp

theorem Ok.mulk {a b i j : Nat} (ha : a < 10 ^ i) (hb : b < 10 ^ j) (hij : 0 < i + j) (h : i + j ≤ 4000) : Ok (a * b) :=
  Nat.le_trans ((dec_len_le hij).2 (sz_mul ha hb)) h

open Go.RowKit NV
open Go.Lib (decDigits)

/-- n nines are a numeral. -/
theorem dv_nines : ∀ n, dv (List.replicate n (57 : UInt8)) + 1 = 10 ^ n
  | 0 => rfl
  | n + 1 => by
    have h := dv_nines n
    rw [List.replicate_succ', dv_snoc, Nat.pow_succ, ← h]
    show 10 * dv (List.replicate n 57) + 9 + 1 = _
    omega

theorem digs_nines (n : Nat) : Digs (List.replicate n (57 : UInt8)) := by
  intro c hc
  rw [(List.mem_replicate.1 hc).2]
  decide

theorem nines_str {n : Nat} (hn : 0 < n) : (⟨(List.replicate n (57 : UInt8)).toArray⟩ : ByteArray) = dstr (10 ^ n - 1) := by
  have h := dv_nines n
  rw [dstr, show 10 ^ n - 1 = dv (List.replicate n (57 : UInt8)) by omega, dec_of_digs (by cases n with | zero => omega | succ m => simp [List.replicate_succ]) (digs_nines n) (by
    intro h0
    cases n with
    | zero => omega
    | succ m => rw [List.replicate_succ] at h0; simp at h0)]

/-- What Check returns, told of the list of bytes. -/
def rchkL (l : List UInt8) : Nat :=
  if (if cutAt l < l.length then
      (!badB (Lib.trimPrefix (l.take (cutAt l)) [45]) && !(decide ((l.take (cutAt l)).headD 0 = 45) && decide (Lib.trimPrefix (l.take (cutAt l)) [45] = [48]))) && !decide (Lib.trimPrefix (l.take (cutAt l)) [45] = [48]) && !badB (l.drop (cutAt l + 1)) && !decide (l.drop (cutAt l + 1) = [48]) && !decide (l.drop (cutAt l + 1) = [49])
    else !badB (Lib.trimPrefix (l.take (cutAt l)) [45]) && !(decide ((l.take (cutAt l)).headD 0 = 45) && decide (Lib.trimPrefix (l.take (cutAt l)) [45] = [48])))
  then (if 4000 < (Lib.trimPrefix (l.take (cutAt l)) [45]).length ∨ 4000 < (if cutAt l < l.length then l.drop (cutAt l + 1) else [49]).length then 5
    else if Nat.gcd (dv (Lib.trimPrefix (l.take (cutAt l)) [45])) (dv (if cutAt l < l.length then l.drop (cutAt l + 1) else [49])) = 1 then 0 else 3) else 3

theorem num_list (s : ByteArray) : (numS s).data.toList = s.data.toList.take (cutAt s.data.toList) := by
  rw [numS, Go.Lib.extract_data, List.drop_zero, Nat.sub_zero]
theorem den_list (s : ByteArray) : (denS s).data.toList = if cutAt s.data.toList < s.data.toList.length then s.data.toList.drop (cutAt s.data.toList + 1) else [49] := by
  unfold denS
  rw [Go.Lib.size_eq]
  split
  · rw [Go.Lib.extract_data]
    exact List.take_of_length_le (by rw [List.length_drop, ← Go.Lib.size_eq]; omega)
  · rfl
theorem rchk_list (s : ByteArray) : rchk s = rchkL s.data.toList := by
  unfold rchk isR intOk rchkL minusB
  rw [toList_eq, toList_eq, toList_eq, Go.Lib.size_eq (restS (numS s)), Go.Lib.size_eq (denS s), rest_list, den_list, num_list, Go.Lib.size_eq s]
  split
  · rfl
  · rfl

theorem lit_rchk {l : List UInt8} {n : Nat} (h : rchkL l = n) : rchk ⟨l.toArray⟩ = n := by rw [rchk_list]; simpa using h

theorem qstr_nat (n : Nat) : qstr (n : Rat) = dstr n := by
  unfold qstr
  rw [rstr_eq, if_pos (Rat.den_natCast n), show ng (n : Rat) = false from by unfold ng; rw [Rat.num_natCast]; simp, show tp (n : Rat) = n from by unfold tp; rw [Rat.num_natCast]; simp]
  rfl
theorem qstr_neg_nat {n : Nat} (h : n ≠ 0) : qstr (-(n : Rat)) = ⟨#[45]⟩ ++ dstr n := by
  unfold qstr
  rw [rstr_eq, if_pos (show (-(n : Rat)).den = 1 from Rat.den_natCast n), show ng (-(n : Rat)) = true from by unfold ng; rw [Rat.neg_num, Rat.num_natCast]; simp; omega, show tp (-(n : Rat)) = n from by unfold tp; rw [Rat.neg_num, Rat.num_natCast]; simp]
  rfl
theorem nat_ne {n : Nat} (h : n ≠ 0) : (n : Rat) ≠ 0 := fun e => h (by have := congrArg Rat.num e; simpa using this)
theorem inv_nat {n : Nat} (h : n ≠ 0) : tp ((n : Rat)⁻¹) = 1 ∧ ((n : Rat)⁻¹).den = n ∧ ng ((n : Rat)⁻¹) = false := by
  obtain ⟨h1, h2, h3⟩ := inv_parts (nat_ne h)
  refine ⟨by rw [h1]; rfl, by rw [h2]; unfold tp; rw [Rat.num_natCast]; simp, by rw [h3]; unfold ng; rw [Rat.num_natCast]; simp⟩
theorem inv_neg_nat {n : Nat} (h : n ≠ 0) : tp ((-(n : Rat))⁻¹) = 1 ∧ ((-(n : Rat))⁻¹).den = n ∧ ng ((-(n : Rat))⁻¹) = true := by
  have h0 : -(n : Rat) ≠ 0 := fun e => nat_ne h (by have := congrArg (fun x : Rat => -x) e; simpa using this)
  obtain ⟨h1, h2, h3⟩ := inv_parts h0
  refine ⟨by rw [h1]; rfl, by rw [h2]; unfold tp; rw [Rat.neg_num, Rat.num_natCast]; simp, by rw [h3]; unfold ng; rw [Rat.neg_num, Rat.num_natCast]; simp; omega⟩
theorem pre_str (m : Bool) {n : Nat} (h : n ≠ 1) : rstr m 1 n = (if m then ⟨#[45, 49, 47]⟩ else ⟨#[49, 47]⟩) ++ dstr n := by
  rw [rstr_eq, if_neg h]
  apply ba_ext
  rw [app_list, app_list, istr_list, dec_one, app_list]
  cases m <;> simp

theorem Make_err0 (s t : ByteArray) (w : World) (hs : s.size ≤ 1000000) (ht : t.size ≤ 1000000) (h1 : chkI s = 0) (h2 : chk t.data.toList = 0) (h3 : (t.toList == [48]) = true) :
    Calls Tryz.prog 97 #[.string s, .string t] w fun e w' => e = .returned (.tuple #[.string ⟨#[]⟩, .int .i64 6]) ∧ Below w.heap.size w w' := by
  have HC1 := Lib.hid (checkInteger_any s w (by omega))
  rw [h1] at HC1
  have HC2 := Lib.hid (check_any t w (by omega))
  rw [h2] at HC2
  have HB := Lib.hid (Below.refl w.heap.size w)
  clear h1 h2 hs ht
  go_enter Tryz.func97, Tryz.ntmps97
  go_wp2_with fail
  refine HC1.out.mono ?_
  rintro e w1 ⟨rfl, rfl⟩
  go_wp2_with fail
  refine HC2.out.mono ?_
  rintro e w1 ⟨rfl, rfl⟩
  go_wp2_with fail
  go_ret2
  exact ⟨rfl, HB.out⟩

theorem Make_err1 (s t : ByteArray) (w : World) (hs : s.size ≤ 1000000) (h1 : chkI s ≠ 0) :
    Calls Tryz.prog 97 #[.string s, .string t] w fun e w' => e = .returned (.tuple #[.string ⟨#[]⟩, .int .i64 ((chkI s : Nat) : Int)]) ∧ Below w.heap.size w w' := by
  have HC1 := Lib.hid (checkInteger_any s w (by omega))
  have hz : (((chkI s : Nat) : Int) != 0) = true := by rw [bne_iff_ne]; omega
  have HB := Lib.hid (Below.refl w.heap.size w)
  clear h1 hs
  go_enter Tryz.func97, Tryz.ntmps97
  go_wp2_with fail
  refine HC1.out.mono ?_
  rintro e w1 ⟨rfl, rfl⟩
  go_wp2_with fail
  go_ret2
  exact ⟨rfl, HB.out⟩

/-- The texts that are no numbers. -/
def badL : List ByteArray := [⟨#[]⟩, ⟨#[45]⟩, ⟨#[45, 48]⟩, ⟨#[48, 48]⟩, ⟨#[48, 49]⟩, ⟨#[43, 49]⟩, ⟨#[49, 47]⟩, ⟨#[47, 50]⟩, ⟨#[49, 47, 48]⟩, ⟨#[49, 47, 49]⟩, ⟨#[49, 47, 48, 50]⟩, ⟨#[50, 47, 52]⟩, ⟨#[48, 47, 51]⟩, ⟨#[45, 48, 47, 51]⟩, ⟨#[49, 47, 45, 50]⟩, ⟨#[49, 47, 50, 47, 51]⟩, ⟨#[32, 49]⟩, ⟨#[49, 46, 53]⟩, ⟨#[45, 45, 49]⟩]
theorem bad_rchk : ∀ j, j < 19 → rchk (badL.getD j ByteArray.empty) = 3 := by
  intro j hj
  match j, hj with
  | 0, _ => exact lit_rchk (l := []) (by decide +kernel)
  | 1, _ => exact lit_rchk (l := [45]) (by decide +kernel)
  | 2, _ => exact lit_rchk (l := [45, 48]) (by decide +kernel)
  | 3, _ => exact lit_rchk (l := [48, 48]) (by decide +kernel)
  | 4, _ => exact lit_rchk (l := [48, 49]) (by decide +kernel)
  | 5, _ => exact lit_rchk (l := [43, 49]) (by decide +kernel)
  | 6, _ => exact lit_rchk (l := [49, 47]) (by decide +kernel)
  | 7, _ => exact lit_rchk (l := [47, 50]) (by decide +kernel)
  | 8, _ => exact lit_rchk (l := [49, 47, 48]) (by decide +kernel)
  | 9, _ => exact lit_rchk (l := [49, 47, 49]) (by decide +kernel)
  | 10, _ => exact lit_rchk (l := [49, 47, 48, 50]) (by decide +kernel)
  | 11, _ => exact lit_rchk (l := [50, 47, 52]) (by decide +kernel)
  | 12, _ => exact lit_rchk (l := [48, 47, 51]) (by decide +kernel)
  | 13, _ => exact lit_rchk (l := [45, 48, 47, 51]) (by decide +kernel)
  | 14, _ => exact lit_rchk (l := [49, 47, 45, 50]) (by decide +kernel)
  | 15, _ => exact lit_rchk (l := [49, 47, 50, 47, 51]) (by decide +kernel)
  | 16, _ => exact lit_rchk (l := [32, 49]) (by decide +kernel)
  | 17, _ => exact lit_rchk (l := [49, 46, 53]) (by decide +kernel)
  | 18, _ => exact lit_rchk (l := [45, 45, 49]) (by decide +kernel)
  | n + 19, h => exact absurd h (by omega)
theorem bad_size : ∀ j, j < 19 → (badL.getD j ByteArray.empty).size ≤ 1000000 := by
  intro j hj
  match j, hj with
  | 0, _ => exact (by show 0 ≤ 1000000; omega)
  | 1, _ => exact (by show 1 ≤ 1000000; omega)
  | 2, _ => exact (by show 2 ≤ 1000000; omega)
  | 3, _ => exact (by show 2 ≤ 1000000; omega)
  | 4, _ => exact (by show 2 ≤ 1000000; omega)
  | 5, _ => exact (by show 2 ≤ 1000000; omega)
  | 6, _ => exact (by show 2 ≤ 1000000; omega)
  | 7, _ => exact (by show 2 ≤ 1000000; omega)
  | 8, _ => exact (by show 3 ≤ 1000000; omega)
  | 9, _ => exact (by show 3 ≤ 1000000; omega)
  | 10, _ => exact (by show 4 ≤ 1000000; omega)
  | 11, _ => exact (by show 3 ≤ 1000000; omega)
  | 12, _ => exact (by show 3 ≤ 1000000; omega)
  | 13, _ => exact (by show 4 ≤ 1000000; omega)
  | 14, _ => exact (by show 4 ≤ 1000000; omega)
  | 15, _ => exact (by show 5 ≤ 1000000; omega)
  | 16, _ => exact (by show 2 ≤ 1000000; omega)
  | 17, _ => exact (by show 3 ≤ 1000000; omega)
  | 18, _ => exact (by show 3 ≤ 1000000; omega)
  | n + 19, h => exact absurd h (by omega)
theorem bad_cells (w : World) (e : TypeId) : ∀ j, j < 19 → (w.alloc (.cells #[.string ⟨#[]⟩, .string ⟨#[45]⟩, .string ⟨#[45, 48]⟩, .string ⟨#[48, 48]⟩, .string ⟨#[48, 49]⟩, .string ⟨#[43, 49]⟩, .string ⟨#[49, 47]⟩, .string ⟨#[47, 50]⟩, .string ⟨#[49, 47, 48]⟩, .string ⟨#[49, 47, 49]⟩, .string ⟨#[49, 47, 48, 50]⟩, .string ⟨#[50, 47, 52]⟩, .string ⟨#[48, 47, 51]⟩, .string ⟨#[45, 48, 47, 51]⟩, .string ⟨#[49, 47, 45, 50]⟩, .string ⟨#[49, 47, 50, 47, 51]⟩, .string ⟨#[32, 49]⟩, .string ⟨#[49, 46, 53]⟩, .string ⟨#[45, 45, 49]⟩] e)).cell? ⟨w.heap.size, j, none⟩ = some (.string (badL.getD j ByteArray.empty)) := by
  intro j hj
  rw [Lib.cell_of_heap (heap_alloc_new w _)]
  match j, hj with
  | 0, _ => rfl
  | 1, _ => rfl
  | 2, _ => rfl
  | 3, _ => rfl
  | 4, _ => rfl
  | 5, _ => rfl
  | 6, _ => rfl
  | 7, _ => rfl
  | 8, _ => rfl
  | 9, _ => rfl
  | 10, _ => rfl
  | 11, _ => rfl
  | 12, _ => rfl
  | 13, _ => rfl
  | 14, _ => rfl
  | 15, _ => rfl
  | 16, _ => rfl
  | 17, _ => rfl
  | 18, _ => rfl
  | n + 19, h => exact absurd h (by omega)

theorem big_digits {k : Nat} (hk : k = 4000) : Ok (10 ^ k - 1) ∧ ¬ Ok (10 ^ k) := by
  constructor
  · exact Nat.le_trans ((dec_len_le (k := k) (by omega)).2 (by have := Nat.pow_pos (n := k) (show 0 < 10 by omega); omega)) (by omega)
  · intro h
    have : 10 ^ k < 10 ^ k := (dec_len_le (by omega)).1 (by unfold Ok at h; omega)
    exact Nat.lt_irrefl _ this

theorem two_pow_big {k m : Nat} (hk : k = 4000) (hm : 16000 ≤ m) : ¬ Ok (2 ^ m) := by
  intro h
  have h1 : 2 ^ m < 10 ^ k := (dec_len_le (by omega)).1 (by unfold Ok at h; omega)
  have h2 : 2 ^ (4 * k) ≤ 2 ^ m := Nat.pow_le_pow_right (by omega) (by omega)
  have h3 : 10 ^ k ≤ 2 ^ (4 * k) := by
    rw [Nat.pow_mul]
    exact Nat.pow_le_pow_left (by omega) k
  omega

theorem rchk_over {n d : Nat} (hd1 : d ≠ 1) (hd0 : d ≠ 0) (hn0 : n ≠ 0) (ho : 4000 < (decDigits d).length) : rchk (rstr false n d) = 5 := by
  obtain ⟨h1, h2, h3⟩ := rstr_cut false n d
  have hR : isR (rstr false n d) = true := by
    unfold isR
    rw [h1, h2, istr_rest, if_pos (h3.2 hd1)]
    unfold intOk
    rw [istr_rest, istr_minus, dstr_list, bad_dec, dstr_list, bad_dec, dstr_is n 48 (by decide), dstr_is d 48 (by decide), dstr_is d 49 (by decide)]
    simp [hn0, hd0, hd1]
  unfold rchk
  rw [hR, if_pos rfl, h1, h2, istr_rest, if_pos (.inr (by rw [dstr_size]; exact ho))]

def q23m : Rat := ⟨-2, 3, by decide, by decide⟩
def q34 : Rat := ⟨3, 4, by decide, by decide⟩
def q12m : Rat := ⟨-1, 2, by decide, by decide⟩
def q16m : Rat := ⟨-1, 6, by decide, by decide⟩
def q827m : Rat := ⟨-8, 27, by decide, by decide⟩
def q25 : Rat := ⟨2, 5, by decide, by decide⟩
theorem s23m : qstr q23m = ⟨#[45, 50, 47, 51]⟩ := (frac_str true 2 3 (by omega) (by omega) (by omega)).trans rfl
theorem s34 : qstr q34 = ⟨#[51, 47, 52]⟩ := (frac_str false 3 4 (by omega) (by omega) (by omega)).trans rfl
theorem s12m : qstr q12m = ⟨#[45, 49, 47, 50]⟩ := (frac_str true 1 2 (by omega) (by omega) (by omega)).trans rfl
theorem s16m : qstr q16m = ⟨#[45, 49, 47, 54]⟩ := (frac_str true 1 6 (by omega) (by omega) (by omega)).trans rfl
theorem s25 : qstr q25 = ⟨#[50, 47, 53]⟩ := (frac_str false 2 5 (by omega) (by omega) (by omega)).trans rfl
theorem s827m : qstr q827m = ⟨#[45, 56, 47, 50, 55]⟩ := by
  apply ba_ext
  show (rstr true 8 27).data.toList = _
  rw [rstr_eq, if_neg (by omega), app_list, app_list, istr_list, dstr_list, dec_small (n := 8) (by omega), dec_big (n := 27) (by omega), dec_small (n := 27 / 10) (by omega)]
  rfl
/-- A whole number of one digit. -/
theorem int_str (m : Bool) {n : Nat} (h : n < 10) : rstr m n 1 = ⟨((if m then [45] else []) ++ [UInt8.ofNat (48 + n)]).toArray⟩ := by
  apply ba_ext
  rw [rstr_eq, if_pos rfl, istr_list, dec_small h]
theorem sm3 : qstr (-3) = ⟨#[45, 51]⟩ := (int_str true (n := 3) (by omega)).trans rfl
theorem sm2 : qstr (-2) = ⟨#[45, 50]⟩ := (int_str true (n := 2) (by omega)).trans rfl
theorem sm1 : qstr (-1) = ⟨#[45, 49]⟩ := (int_str true (n := 1) (by omega)).trans rfl
theorem s7 : qstr 7 = ⟨#[55]⟩ := (int_str false (n := 7) (by omega)).trans rfl

theorem pow_m1 (k : Nat) : ((-1 : Rat)) ^ k = if k % 2 = 1 then -1 else 1 := by
  obtain ⟨h1, h2, h3⟩ := pow_parts (-1) k
  have e1 : tp (-1 : Rat) = 1 := rfl
  have e2 : (-1 : Rat).den = 1 := rfl
  have e3 : ng (-1 : Rat) = true := rfl
  rw [e1, Nat.one_pow] at h1
  rw [e2, Nat.one_pow] at h2
  rw [e3, Bool.true_and] at h3
  split
  · rename_i h
    exact rat_ext (h3.trans (by rw [decide_eq_true h]; rfl)) (h1.trans rfl) (h2.trans rfl)
  · rename_i h
    exact rat_ext (h3.trans (by rw [decide_eq_false h]; rfl)) (h1.trans rfl) (h2.trans rfl)

theorem rq_to {f : Nat} {args : Array Value} {w : World} {q r : Rat} {t : ByteArray} (h : Calls Tryz.prog f args w (RQ q w)) (hr : q = r) (ho : QOk r) (ht : qstr r = t) :
    Calls Tryz.prog f args w fun e w' => e = .returned (.tuple #[.string t, .int .i64 0]) ∧ Below w.heap.size w w' := ht ▸ rq_done h hr ho
theorem int_lit {n : Int} {l d : List UInt8} (h : dv d = n.natAbs) (hb : badB d = false) (hn : n < 0) (hl : l = 45 :: d) : (qstr (n : Rat)).data.toList = l := by
  obtain ⟨h1, h2, h3⟩ := good_parts hb
  unfold qstr
  rw [rstr_eq, if_pos (Rat.den_intCast n), istr_list, show ng (n : Rat) = true from by unfold ng; rw [Rat.num_intCast]; exact decide_eq_true hn, show tp (n : Rat) = n.natAbs from by unfold tp; rw [Rat.num_intCast], ← h, dec_of_digs h1 h2 h3, hl]
  rfl

end Go.Proofs.YteojekiocecdnaaGreatDoor
