/-
  RatNames returns true.
-/
import Derived.Test.YtadkijaofmcgfaaGreatDoorP27
import Derived.Test.YtadkijaofmcgfaaGreatDoorP28
import Derived.Test.YtadkijaofmcgfaaGreatDoorR24
import Derived.Test.YtadkijaofmcgfaaGreatDoorL2
import Derived.Room.AppendFits
import Derived.WalkSmall
namespace Go.Proofs.YtadkijaofmcgfaaGreatDoor
open Go.RowKit NV
open Go.Lib (decDigits)

set_option maxHeartbeats 1600000 in
set_option maxRecDepth 100000 in
/-- Times at "9": n nines. -/
theorem times_nine (n : Nat) (hn : n ≤ 1000000) (w : World) :
    Calls Tryz.prog 60 #[.string ⟨#[57]⟩, .int .i64 (n : Int)] w fun e w' => e = .returned (.string ⟨(List.replicate n (57 : UInt8)).toArray⟩) ∧ Below w.heap.size w w' := by
  obtain ⟨i0, hi, hz0, hz1, hz2⟩ := info_parts (show (Tryz.prog.info? 5).map (fun i => (i.zero, i.size, i.bytes)) = some (some (.int .u8 0), 1, 1) by kernel_rfl)
  go_enter Tryz.func60, Tryz.ntmps60
  go_wp2_with (at_make; refine wpList_make_own _ rfl _ _ 103 rfl w.heap.size 5 i0 (.int .u8 0) 1 Tryz.underlying103 hi hz0 hz1 _ _ _ n rfl rfl (by omega) (by rw [hz2]; omega) (by unfold maxLen; omega) (by simp) ?_)
  intro w1 hown1 hgrow1
  have hb1 : Below w.heap.size w w1 := (Below.refl _ _).grown hgrow1 (by simp) (fun k hk => by cases hk)
  clear hgrow1
  go_wp2_with fail
  go_loopw [5, 6] (fun s5 s6 wr => ∃ k : Nat, k ≤ n ∧ s5 = .slice (some ⟨w.heap.size, 0, none⟩) k n ∧ s6 = .int .i64 (k : Int) ∧ wr.ownsRow w.heap.size 5 1 (.slice (some ⟨w.heap.size, 0, none⟩) k n) k (List.replicate k (Value.int .u8 57)) ∧ Below w.heap.size w wr) (fun _ s6 _ => n - (intOf s6).toNat)
  case atStart => exact ⟨0, Nat.zero_le _, rfl, rfl, by simpa using hown1, hb1⟩
  case round =>
    obtain ⟨k, hk, rfl, rfl, hown, hbr⟩ := hrel
    clear hown1 hb1
    by_cases hlt : k < n
    · go_wp2_with (at_builtin; refine Go.Lib.wpList_append_fits_string _ rfl _ _ 103 9 rfl w.heap.size 5 i0 Tryz.underlying103 Tryz.underlying9 hi hz1 _ k n _ rfl hown ⟨#[57]⟩ rfl (by omega) (by show k + 1 ≤ n; exact hlt) ?_)
      intro w3 hown3 hgrow3
      have hb3 : Below w.heap.size w w3 := hbr.grown hgrow3 (by have := hbr.size; omega) (fun b hb => by simp [Value.ownBlock] at hb; omega)
      have e3 : w3.ownsRow w.heap.size 5 1 (.slice (some ⟨w.heap.size, 0, none⟩) (k + 1) n) (k + 1) (List.replicate (k + 1) (Value.int .u8 57)) := by
        rw [List.replicate_succ']; exact hown3
      have HF := Lib.hid (And.intro e3 hb3)
      clear hown3 hgrow3 hb3 e3 hown hbr
      go_wp2_with fail
      go_roundw
      case rel => exact ⟨k + 1, by omega, rfl, by go_num, HF.out.1, HF.out.2⟩
      case measure => simp [intOf]; omega
    · obtain rfl : k = n := by omega
      have hcv := run_convert_bytes_back (P := Tryz.prog) wr 103 9 5 ⟨w.heap.size, 0, none⟩ k (List.replicate k (57 : UInt8)) Tryz.underlying103 Tryz.underlying5 Tryz.underlying9 (fun j hj => by
        have hj' : j < k := by simpa using hj
        rw [Lib.add_plain, Nat.zero_add, hown.cellAt j (by omega)]
        simp [hj'])
      rw [List.length_replicate] at hcv
      have HB := Lib.hid hbr
      clear hown hbr
      go_wp2_with fail
      go_ret
      exact ⟨rfl, HB.out⟩

/-- n nines are a numeral. -/
theorem dv_nines : ∀ n, dv (List.replicate n (57 : UInt8)) + 1 = 10 ^ n
  | 0 => rfl
  | n + 1 => by
    have h := dv_nines n
    rw [List.replicate_succ', dv_snoc, Nat.pow_succ, ← h]
    show 10 * dv (List.replicate n 57) + 9 + 1 = _
    omega

theorem digs_nines (n : Nat) : Digs (List.replicate n (57 : UInt8)) := by
  intro c hc
  rw [(List.mem_replicate.1 hc).2]
  decide

theorem nines_str {n : Nat} (hn : 0 < n) : (⟨(List.replicate n (57 : UInt8)).toArray⟩ : ByteArray) = dstr (10 ^ n - 1) := by
  have h := dv_nines n
  rw [dstr, show 10 ^ n - 1 = dv (List.replicate n (57 : UInt8)) by omega, dec_of_digs (by cases n with | zero => omega | succ m => simp [List.replicate_succ]) (digs_nines n) (by
    intro h0
    cases n with
    | zero => omega
    | succ m => rw [List.replicate_succ] at h0; simp at h0)]

set_option maxHeartbeats 800000 in
theorem nines_any (n : Nat) (hn0 : 0 < n) (hn : n ≤ 1000000) (w : World) :
    Calls Tryz.prog 13 #[.int .i64 (n : Int)] w fun e w' => e = .returned (.string (dstr (10 ^ n - 1))) ∧ Below w.heap.size w w' := by
  have HT := Lib.hid (times_nine n hn w)
  rw [nines_str hn0] at HT
  go_enter Tryz.func13, Tryz.ntmps13
  go_wp2_with fail
  refine HT.out.mono ?_
  rintro e w1 ⟨rfl, hb1⟩
  have HB := Lib.hid hb1
  clear hb1
  go_wp2_with fail
  go_ret
  exact ⟨rfl, HB.out⟩

/-- What Check returns, told of the list of bytes. -/
def rchkL (l : List UInt8) : Nat :=
  if (if cutAt l < l.length then
      (!badB (Lib.trimPrefix (l.take (cutAt l)) [45]) && !(decide ((l.take (cutAt l)).headD 0 = 45) && decide (Lib.trimPrefix (l.take (cutAt l)) [45] = [48]))) && !decide (Lib.trimPrefix (l.take (cutAt l)) [45] = [48]) && !badB (l.drop (cutAt l + 1)) && !decide (l.drop (cutAt l + 1) = [48]) && !decide (l.drop (cutAt l + 1) = [49])
    else !badB (Lib.trimPrefix (l.take (cutAt l)) [45]) && !(decide ((l.take (cutAt l)).headD 0 = 45) && decide (Lib.trimPrefix (l.take (cutAt l)) [45] = [48])))
  then (if 4000 < (Lib.trimPrefix (l.take (cutAt l)) [45]).length ∨ 4000 < (if cutAt l < l.length then l.drop (cutAt l + 1) else [49]).length then 5
    else if Nat.gcd (dv (Lib.trimPrefix (l.take (cutAt l)) [45])) (dv (if cutAt l < l.length then l.drop (cutAt l + 1) else [49])) = 1 then 0 else 3) else 3

theorem num_list (s : ByteArray) : (numS s).data.toList = s.data.toList.take (cutAt s.data.toList) := by
  rw [numS, Go.Lib.extract_data, List.drop_zero, Nat.sub_zero]
theorem den_list (s : ByteArray) : (denS s).data.toList = if cutAt s.data.toList < s.data.toList.length then s.data.toList.drop (cutAt s.data.toList + 1) else [49] := by
  unfold denS
  rw [Go.Lib.size_eq]
  split
  · rw [Go.Lib.extract_data]
    exact List.take_of_length_le (by rw [List.length_drop, ← Go.Lib.size_eq]; omega)
  · rfl
theorem rchk_list (s : ByteArray) : rchk s = rchkL s.data.toList := by
  unfold rchk isR intOk rchkL minusB
  rw [toList_eq, toList_eq, toList_eq, Go.Lib.size_eq (restS (numS s)), Go.Lib.size_eq (denS s), rest_list, den_list, num_list, Go.Lib.size_eq s]
  split
  · rfl
  · rfl

theorem lit_rchk {l : List UInt8} {n : Nat} (h : rchkL l = n) : rchk ⟨l.toArray⟩ = n := by rw [rchk_list]; simpa using h

theorem qstr_nat (n : Nat) : qstr (n : Rat) = dstr n := by
  unfold qstr
  rw [rstr_eq, if_pos (Rat.den_natCast n), show ng (n : Rat) = false from by unfold ng; rw [Rat.num_natCast]; simp, show tp (n : Rat) = n from by unfold tp; rw [Rat.num_natCast]; simp]
  rfl
theorem qstr_neg_nat {n : Nat} (h : n ≠ 0) : qstr (-(n : Rat)) = ⟨#[45]⟩ ++ dstr n := by
  unfold qstr
  rw [rstr_eq, if_pos (show (-(n : Rat)).den = 1 from Rat.den_natCast n), show ng (-(n : Rat)) = true from by unfold ng; rw [Rat.neg_num, Rat.num_natCast]; simp; omega, show tp (-(n : Rat)) = n from by unfold tp; rw [Rat.neg_num, Rat.num_natCast]; simp]
  rfl
theorem nat_ne {n : Nat} (h : n ≠ 0) : (n : Rat) ≠ 0 := fun e => h (by have := congrArg Rat.num e; simpa using this)
theorem inv_nat {n : Nat} (h : n ≠ 0) : tp ((n : Rat)⁻¹) = 1 ∧ ((n : Rat)⁻¹).den = n ∧ ng ((n : Rat)⁻¹) = false := by
  obtain ⟨h1, h2, h3⟩ := inv_parts (nat_ne h)
  refine ⟨by rw [h1]; rfl, by rw [h2]; unfold tp; rw [Rat.num_natCast]; simp, by rw [h3]; unfold ng; rw [Rat.num_natCast]; simp⟩
theorem inv_neg_nat {n : Nat} (h : n ≠ 0) : tp ((-(n : Rat))⁻¹) = 1 ∧ ((-(n : Rat))⁻¹).den = n ∧ ng ((-(n : Rat))⁻¹) = true := by
  have h0 : -(n : Rat) ≠ 0 := fun e => nat_ne h (by have := congrArg (fun x : Rat => -x) e; simpa using this)
  obtain ⟨h1, h2, h3⟩ := inv_parts h0
  refine ⟨by rw [h1]; rfl, by rw [h2]; unfold tp; rw [Rat.neg_num, Rat.num_natCast]; simp, by rw [h3]; unfold ng; rw [Rat.neg_num, Rat.num_natCast]; simp; omega⟩
theorem pre_str (m : Bool) {n : Nat} (h : n ≠ 1) : rstr m 1 n = (if m then ⟨#[45, 49, 47]⟩ else ⟨#[49, 47]⟩) ++ dstr n := by
  rw [rstr_eq, if_neg h]
  apply ba_ext
  rw [app_list, app_list, istr_list, dec_one, app_list]
  cases m <;> simp

theorem Make_err0 (s t : ByteArray) (w : World) (hs : s.size ≤ 1000000) (ht : t.size ≤ 1000000) (h1 : chkI s = 0) (h2 : chk t.data.toList = 0) (h3 : (t.toList == [48]) = true) :
    Calls Tryz.prog 23 #[.string s, .string t] w fun e w' => e = .returned (.tuple #[.string ⟨#[]⟩, .int .i64 6]) ∧ Below w.heap.size w w' := by
  have HC1 := Lib.hid (checkInteger_any s w (by omega))
  rw [h1] at HC1
  have HC2 := Lib.hid (check_any t w (by omega))
  rw [h2] at HC2
  have HB := Lib.hid (Below.refl w.heap.size w)
  clear h1 h2 hs ht
  go_enter Tryz.func23, Tryz.ntmps23
  go_wp2_with fail
  refine HC1.out.mono ?_
  rintro e w1 ⟨rfl, rfl⟩
  go_wp2_with fail
  refine HC2.out.mono ?_
  rintro e w1 ⟨rfl, rfl⟩
  go_wp2_with fail
  go_ret2
  exact ⟨rfl, HB.out⟩

theorem Make_err1 (s t : ByteArray) (w : World) (hs : s.size ≤ 1000000) (h1 : chkI s ≠ 0) :
    Calls Tryz.prog 23 #[.string s, .string t] w fun e w' => e = .returned (.tuple #[.string ⟨#[]⟩, .int .i64 ((chkI s : Nat) : Int)]) ∧ Below w.heap.size w w' := by
  have HC1 := Lib.hid (checkInteger_any s w (by omega))
  have hz : (((chkI s : Nat) : Int) != 0) = true := by rw [bne_iff_ne]; omega
  have HB := Lib.hid (Below.refl w.heap.size w)
  clear h1 hs
  go_enter Tryz.func23, Tryz.ntmps23
  go_wp2_with fail
  refine HC1.out.mono ?_
  rintro e w1 ⟨rfl, rfl⟩
  go_wp2_with fail
  go_ret2
  exact ⟨rfl, HB.out⟩

/-- The texts that are no numbers. -/
def badL : List ByteArray := [⟨#[]⟩, ⟨#[45]⟩, ⟨#[45, 48]⟩, ⟨#[48, 48]⟩, ⟨#[48, 49]⟩, ⟨#[43, 49]⟩, ⟨#[49, 47]⟩, ⟨#[47, 50]⟩, ⟨#[49, 47, 48]⟩, ⟨#[49, 47, 49]⟩, ⟨#[49, 47, 48, 50]⟩, ⟨#[50, 47, 52]⟩, ⟨#[48, 47, 51]⟩, ⟨#[45, 48, 47, 51]⟩, ⟨#[49, 47, 45, 50]⟩, ⟨#[49, 47, 50, 47, 51]⟩, ⟨#[32, 49]⟩, ⟨#[49, 46, 53]⟩, ⟨#[45, 45, 49]⟩]
theorem bad_rchk : ∀ j, j < 19 → rchk (badL.getD j ByteArray.empty) = 3 := by
  intro j hj
  match j, hj with
  | 0, _ => exact lit_rchk (l := []) (by decide +kernel)
  | 1, _ => exact lit_rchk (l := [45]) (by decide +kernel)
  | 2, _ => exact lit_rchk (l := [45, 48]) (by decide +kernel)
  | 3, _ => exact lit_rchk (l := [48, 48]) (by decide +kernel)
  | 4, _ => exact lit_rchk (l := [48, 49]) (by decide +kernel)
  | 5, _ => exact lit_rchk (l := [43, 49]) (by decide +kernel)
  | 6, _ => exact lit_rchk (l := [49, 47]) (by decide +kernel)
  | 7, _ => exact lit_rchk (l := [47, 50]) (by decide +kernel)
  | 8, _ => exact lit_rchk (l := [49, 47, 48]) (by decide +kernel)
  | 9, _ => exact lit_rchk (l := [49, 47, 49]) (by decide +kernel)
  | 10, _ => exact lit_rchk (l := [49, 47, 48, 50]) (by decide +kernel)
  | 11, _ => exact lit_rchk (l := [50, 47, 52]) (by decide +kernel)
  | 12, _ => exact lit_rchk (l := [48, 47, 51]) (by decide +kernel)
  | 13, _ => exact lit_rchk (l := [45, 48, 47, 51]) (by decide +kernel)
  | 14, _ => exact lit_rchk (l := [49, 47, 45, 50]) (by decide +kernel)
  | 15, _ => exact lit_rchk (l := [49, 47, 50, 47, 51]) (by decide +kernel)
  | 16, _ => exact lit_rchk (l := [32, 49]) (by decide +kernel)
  | 17, _ => exact lit_rchk (l := [49, 46, 53]) (by decide +kernel)
  | 18, _ => exact lit_rchk (l := [45, 45, 49]) (by decide +kernel)
  | n + 19, h => exact absurd h (by omega)
theorem bad_size : ∀ j, j < 19 → (badL.getD j ByteArray.empty).size ≤ 1000000 := by
  intro j hj
  match j, hj with
  | 0, _ => exact (by show 0 ≤ 1000000; omega)
  | 1, _ => exact (by show 1 ≤ 1000000; omega)
  | 2, _ => exact (by show 2 ≤ 1000000; omega)
  | 3, _ => exact (by show 2 ≤ 1000000; omega)
  | 4, _ => exact (by show 2 ≤ 1000000; omega)
  | 5, _ => exact (by show 2 ≤ 1000000; omega)
  | 6, _ => exact (by show 2 ≤ 1000000; omega)
  | 7, _ => exact (by show 2 ≤ 1000000; omega)
  | 8, _ => exact (by show 3 ≤ 1000000; omega)
  | 9, _ => exact (by show 3 ≤ 1000000; omega)
  | 10, _ => exact (by show 4 ≤ 1000000; omega)
  | 11, _ => exact (by show 3 ≤ 1000000; omega)
  | 12, _ => exact (by show 3 ≤ 1000000; omega)
  | 13, _ => exact (by show 4 ≤ 1000000; omega)
  | 14, _ => exact (by show 4 ≤ 1000000; omega)
  | 15, _ => exact (by show 5 ≤ 1000000; omega)
  | 16, _ => exact (by show 2 ≤ 1000000; omega)
  | 17, _ => exact (by show 3 ≤ 1000000; omega)
  | 18, _ => exact (by show 3 ≤ 1000000; omega)
  | n + 19, h => exact absurd h (by omega)
theorem bad_cells (w : World) (e : TypeId) : ∀ j, j < 19 → (w.alloc (.cells #[.string ⟨#[]⟩, .string ⟨#[45]⟩, .string ⟨#[45, 48]⟩, .string ⟨#[48, 48]⟩, .string ⟨#[48, 49]⟩, .string ⟨#[43, 49]⟩, .string ⟨#[49, 47]⟩, .string ⟨#[47, 50]⟩, .string ⟨#[49, 47, 48]⟩, .string ⟨#[49, 47, 49]⟩, .string ⟨#[49, 47, 48, 50]⟩, .string ⟨#[50, 47, 52]⟩, .string ⟨#[48, 47, 51]⟩, .string ⟨#[45, 48, 47, 51]⟩, .string ⟨#[49, 47, 45, 50]⟩, .string ⟨#[49, 47, 50, 47, 51]⟩, .string ⟨#[32, 49]⟩, .string ⟨#[49, 46, 53]⟩, .string ⟨#[45, 45, 49]⟩] e)).cell? ⟨w.heap.size, j, none⟩ = some (.string (badL.getD j ByteArray.empty)) := by
  intro j hj
  rw [Lib.cell_of_heap (heap_alloc_new w _)]
  match j, hj with
  | 0, _ => rfl
  | 1, _ => rfl
  | 2, _ => rfl
  | 3, _ => rfl
  | 4, _ => rfl
  | 5, _ => rfl
  | 6, _ => rfl
  | 7, _ => rfl
  | 8, _ => rfl
  | 9, _ => rfl
  | 10, _ => rfl
  | 11, _ => rfl
  | 12, _ => rfl
  | 13, _ => rfl
  | 14, _ => rfl
  | 15, _ => rfl
  | 16, _ => rfl
  | 17, _ => rfl
  | 18, _ => rfl
  | n + 19, h => exact absurd h (by omega)

theorem big_digits {k : Nat} (hk : k = 4000) : Ok (10 ^ k - 1) ∧ ¬ Ok (10 ^ k) := by
  constructor
  · exact Nat.le_trans ((dec_len_le (k := k) (by omega)).2 (by have := Nat.pow_pos (n := k) (show 0 < 10 by omega); omega)) (by omega)
  · intro h
    have : 10 ^ k < 10 ^ k := (dec_len_le (by omega)).1 (by unfold Ok at h; omega)
    exact Nat.lt_irrefl _ this

theorem two_pow_big {k m : Nat} (hk : k = 4000) (hm : 16000 ≤ m) : ¬ Ok (2 ^ m) := by
  intro h
  have h1 : 2 ^ m < 10 ^ k := (dec_len_le (by omega)).1 (by unfold Ok at h; omega)
  have h2 : 2 ^ (4 * k) ≤ 2 ^ m := Nat.pow_le_pow_right (by omega) (by omega)
  have h3 : 10 ^ k ≤ 2 ^ (4 * k) := by
    rw [Nat.pow_mul]
    exact Nat.pow_le_pow_left (by omega) k
  omega

theorem rchk_over {n d : Nat} (hd1 : d ≠ 1) (hd0 : d ≠ 0) (hn0 : n ≠ 0) (ho : 4000 < (decDigits d).length) : rchk (rstr false n d) = 5 := by
  obtain ⟨h1, h2, h3⟩ := rstr_cut false n d
  have hR : isR (rstr false n d) = true := by
    unfold isR
    rw [h1, h2, istr_rest, if_pos (h3.2 hd1)]
    unfold intOk
    rw [istr_rest, istr_minus, dstr_list, bad_dec, dstr_list, bad_dec, dstr_is n 48 (by decide), dstr_is d 48 (by decide), dstr_is d 49 (by decide)]
    simp [hn0, hd0, hd1]
  unfold rchk
  rw [hR, if_pos rfl, h1, h2, istr_rest, if_pos (.inr (by rw [dstr_size]; exact ho))]

def q23m : Rat := ⟨-2, 3, by decide, by decide⟩
def q34 : Rat := ⟨3, 4, by decide, by decide⟩
def q12m : Rat := ⟨-1, 2, by decide, by decide⟩
def q16m : Rat := ⟨-1, 6, by decide, by decide⟩
def q827m : Rat := ⟨-8, 27, by decide, by decide⟩
def q25 : Rat := ⟨2, 5, by decide, by decide⟩
theorem s23m : qstr q23m = ⟨#[45, 50, 47, 51]⟩ := (frac_str true 2 3 (by omega) (by omega) (by omega)).trans rfl
theorem s34 : qstr q34 = ⟨#[51, 47, 52]⟩ := (frac_str false 3 4 (by omega) (by omega) (by omega)).trans rfl
theorem s12m : qstr q12m = ⟨#[45, 49, 47, 50]⟩ := (frac_str true 1 2 (by omega) (by omega) (by omega)).trans rfl
theorem s16m : qstr q16m = ⟨#[45, 49, 47, 54]⟩ := (frac_str true 1 6 (by omega) (by omega) (by omega)).trans rfl
theorem s25 : qstr q25 = ⟨#[50, 47, 53]⟩ := (frac_str false 2 5 (by omega) (by omega) (by omega)).trans rfl
theorem s827m : qstr q827m = ⟨#[45, 56, 47, 50, 55]⟩ := by
  apply ba_ext
  show (rstr true 8 27).data.toList = _
  rw [rstr_eq, if_neg (by omega), app_list, app_list, istr_list, dstr_list, dec_small (n := 8) (by omega), dec_big (n := 27) (by omega), dec_small (n := 27 / 10) (by omega)]
  rfl
/-- A whole number of one digit. -/
theorem int_str (m : Bool) {n : Nat} (h : n < 10) : rstr m n 1 = ⟨((if m then [45] else []) ++ [UInt8.ofNat (48 + n)]).toArray⟩ := by
  apply ba_ext
  rw [rstr_eq, if_pos rfl, istr_list, dec_small h]
theorem sm3 : qstr (-3) = ⟨#[45, 51]⟩ := (int_str true (n := 3) (by omega)).trans rfl
theorem sm2 : qstr (-2) = ⟨#[45, 50]⟩ := (int_str true (n := 2) (by omega)).trans rfl
theorem sm1 : qstr (-1) = ⟨#[45, 49]⟩ := (int_str true (n := 1) (by omega)).trans rfl
theorem s7 : qstr 7 = ⟨#[55]⟩ := (int_str false (n := 7) (by omega)).trans rfl

theorem pow_m1 (k : Nat) : ((-1 : Rat)) ^ k = if k % 2 = 1 then -1 else 1 := by
  obtain ⟨h1, h2, h3⟩ := pow_parts (-1) k
  have e1 : tp (-1 : Rat) = 1 := rfl
  have e2 : (-1 : Rat).den = 1 := rfl
  have e3 : ng (-1 : Rat) = true := rfl
  rw [e1, Nat.one_pow] at h1
  rw [e2, Nat.one_pow] at h2
  rw [e3, Bool.true_and] at h3
  split
  · rename_i h
    exact rat_ext (h3.trans (by rw [decide_eq_true h]; rfl)) (h1.trans rfl) (h2.trans rfl)
  · rename_i h
    exact rat_ext (h3.trans (by rw [decide_eq_false h]; rfl)) (h1.trans rfl) (h2.trans rfl)

theorem rq_to {f : Nat} {args : Array Value} {w : World} {q r : Rat} {t : ByteArray} (h : Calls Tryz.prog f args w (RQ q w)) (hr : q = r) (ho : QOk r) (ht : qstr r = t) :
    Calls Tryz.prog f args w fun e w' => e = .returned (.tuple #[.string t, .int .i64 0]) ∧ Below w.heap.size w w' := ht ▸ rq_done h hr ho
theorem max_to {t : ByteArray} (h1 : QOk q13) (h2 : QOk q25) (w : World) (hm : ML w) (ht : qstr q25 = t) :
    Calls Tryz.prog 21 #[.string (qstr q13), .string (qstr q25)] w fun e w' => e = .returned (.tuple #[.string t, .int .i64 0]) ∧ Below w.heap.size w w' :=
  (Max_q q13 q25 h1 h2 w hm).mono fun e w' ⟨h3, h4⟩ => ⟨h3.trans (by rw [show cmpQ q13 q25 = -1 from cmpQ_lt (by decide +kernel), if_neg (by omega), ht]), h4⟩
theorem int_lit {n : Int} {l d : List UInt8} (h : dv d = n.natAbs) (hb : badB d = false) (hn : n < 0) (hl : l = 45 :: d) : (qstr (n : Rat)).data.toList = l := by
  obtain ⟨h1, h2, h3⟩ := good_parts hb
  unfold qstr
  rw [rstr_eq, if_pos (Rat.den_intCast n), istr_list, show ng (n : Rat) = true from by unfold ng; rw [Rat.num_intCast]; exact decide_eq_true hn, show tp (n : Rat) = n.natAbs from by unfold tp; rw [Rat.num_intCast], ← h, dec_of_digs h1 h2 h3, hl]
  rfl

set_option maxHeartbeats 25600000 in
set_option maxRecDepth 100000 in
theorem names_any (w : World) (htab : Tab w) (hm : ML w) :
    Calls Tryz.prog 3 #[] w fun e w' => e = .returned (.bool true) ∧ Below w.heap.size w w' := by
  have so : ∀ {q : Rat}, tp q < 10 → q.den < 10 → QOk q := fun h1 h2 => small_qok h1 h2
  obtain ⟨K, hK⟩ : ∃ K : Nat, K = 4000 := ⟨_, rfl⟩
  obtain ⟨N, hN⟩ : ∃ N : Nat, N = 10 ^ K - 1 := ⟨_, rfl⟩
  obtain ⟨E, hE⟩ : ∃ E : Nat, E = 9223372036854775808 := ⟨_, rfl⟩
  have h10 : 100 ≤ 10 ^ K := by
    have := Nat.pow_le_pow_right (show 0 < 10 by omega) (show 2 ≤ K by omega)
    omega
  obtain ⟨okN, noN⟩ := big_digits hK
  rw [← hN] at okN
  have hN2 : 99 ≤ N := by omega
  have hN1 : N + 1 = 10 ^ K := by omega
  have ok_N : QOk (N : Rat) := by
    constructor
    · show Ok (tp (N : Rat)); unfold tp; rw [Rat.num_natCast]; simpa using okN
    · rw [Rat.den_natCast]; exact one_ok
  have ok_i : QOk ((N : Rat)⁻¹) := by
    obtain ⟨h1, h2, _⟩ := inv_nat (show N ≠ 0 by omega)
    exact ⟨by rw [h1]; exact one_ok, by rw [h2]; exact okN⟩
  have ok_n : QOk (-(N : Rat)) := ⟨by rw [(neg_parts (N : Rat)).1]; exact ok_N.1, ok_N.2⟩
  have ok_ni : QOk ((-(N : Rat))⁻¹) := by
    obtain ⟨h1, h2, _⟩ := inv_neg_nat (show N ≠ 0 by omega)
    exact ⟨by rw [h1]; exact one_ok, by rw [h2]; exact okN⟩
  have s_i : qstr ((N : Rat)⁻¹) = ⟨#[49, 47]⟩ ++ dstr N := by
    obtain ⟨h1, h2, h3⟩ := inv_nat (show N ≠ 0 by omega)
    unfold qstr; rw [h1, h2, h3, pre_str false (by omega)]; rfl
  have s_ni : qstr ((-(N : Rat))⁻¹) = ⟨#[45, 49, 47]⟩ ++ dstr N := by
    obtain ⟨h1, h2, h3⟩ := inv_neg_nat (show N ≠ 0 by omega)
    unfold qstr; rw [h1, h2, h3, pre_str true (by omega)]; rfl
  have no_s : ¬ QOk ((N : Rat) + 1) := by
    have e : (N : Rat) + 1 = ((N + 1 : Nat) : Rat) := by
      have := Rat.intCast_add (N : Int) 1
      exact this.symm
    intro h
    rw [e, hN1] at h
    have := h.1
    unfold tp at this
    rw [Rat.num_natCast] at this
    exact noN (by simpa using this)
  have no_p : ¬ QOk ((N : Rat)⁻¹ * q12) := by
    intro h
    obtain ⟨h1, h2, _⟩ := inv_nat (show N ≠ 0 by omega)
    obtain ⟨_, m2, _⟩ := mul_parts ((N : Rat)⁻¹) q12 _ _ rfl rfl
    have h3 := h.2
    rw [m2, h1, h2, show tp q12 = 1 from rfl, show q12.den = 2 from rfl, Nat.gcd_one_left, Nat.gcd_one_left, Nat.div_one, Nat.div_one] at h3
    exact noN (h3.mono (by omega))
  have no_2 : ¬ QOk ((2 : Rat) ^ E) := by
    intro h
    have := h.1
    rw [(pow_parts 2 E).1, show tp (2 : Rat) = 2 from rfl] at this
    exact two_pow_big hK (by omega) this
  have hover : rchk (⟨#[49, 47]⟩ ++ dstr N ++ ⟨#[57]⟩) = 5 := by
    have e : dstr N ++ ⟨#[57]⟩ = dstr (10 ^ (K + 1) - 1) := by
      rw [hN, ← nines_str (show 0 < K by omega), ← nines_str (show 0 < K + 1 by omega)]
      apply ba_ext
      rw [app_list]
      simp [List.replicate_succ']
    have e2 : (⟨#[49, 47]⟩ : ByteArray) ++ dstr N ++ ⟨#[57]⟩ = rstr false 1 (10 ^ (K + 1) - 1) := by
      have h11 : 100 ≤ 10 ^ (K + 1) := by rw [Nat.pow_succ]; omega
      rw [pre_str false (by omega), ← e]
      apply ba_ext
      simp
    rw [e2]
    have h11 : 1000 ≤ 10 ^ (K + 1) := by rw [Nat.pow_succ]; omega
    refine rchk_over (by omega) (by omega) (by omega) ?_
    by_cases hlen : (decDigits (10 ^ (K + 1) - 1)).length ≤ K
    · have := (dec_len_le (show 0 < K by omega)).1 hlen
      rw [Nat.pow_succ] at this
      omega
    · omega
  have hbig : rchk (dstr N) = 0 := by rw [← qstr_nat]; exact qstr_chk ok_N
  have hsz : (dstr N).size ≤ 4000 := by rw [dstr_size]; exact okN
  have HL := Lib.hid (lives2_any w htab hm)
  obtain ⟨t0, g0⟩ : ∃ t, qstr (0) = t := ⟨_, rfl⟩
  have et0 := lit_eq [48] t0 (by rw [← g0, qstr_zero])
  obtain ⟨t12m, g12m⟩ : ∃ t, qstr (q12m) = t := ⟨_, rfl⟩
  have et12m := lit_eq [45, 49, 47, 50] t12m (by rw [← g12m, s12m])
  obtain ⟨t16m, g16m⟩ : ∃ t, qstr (q16m) = t := ⟨_, rfl⟩
  have et16m := lit_eq [45, 49, 47, 54] t16m (by rw [← g16m, s16m])
  obtain ⟨t827m, g827m⟩ : ∃ t, qstr (q827m) = t := ⟨_, rfl⟩
  have et827m := lit_eq [45, 56, 47, 50, 55] t827m (by rw [← g827m, s827m])
  obtain ⟨t1, g1⟩ : ∃ t, qstr (1) = t := ⟨_, rfl⟩
  have et1 := lit_eq [49] t1 (by rw [← g1, qstr_one])
  obtain ⟨tm2, gm2⟩ : ∃ t, qstr (-2) = t := ⟨_, rfl⟩
  have etm2 := lit_eq [45, 50] tm2 (by rw [← gm2, sm2])
  obtain ⟨tm1, gm1⟩ : ∃ t, qstr (-1) = t := ⟨_, rfl⟩
  have etm1 := lit_eq [45, 49] tm1 (by rw [← gm1, sm1])
  obtain ⟨t7, g7⟩ : ∃ t, qstr (7) = t := ⟨_, rfl⟩
  have et7 := lit_eq [55] t7 (by rw [← g7, s7])
  obtain ⟨t25, g25⟩ : ∃ t, qstr (q25) = t := ⟨_, rfl⟩
  have et25 := lit_eq [50, 47, 53] t25 (by rw [← g25, s25])
  have okd : QOk q827m := ⟨small_qok (q := 8) (by decide) (by decide) |>.1, by show Ok 27; unfold Ok; rw [dec_big (n := 27) (by omega), dec_small (n := 27 / 10) (by omega)]; simp⟩
  have ck1 : chkI ⟨#[49]⟩ = 0 := by unfold chkI; rw [toList_eq]; rfl
  have ck0 : ((⟨#[48]⟩ : ByteArray).toList == [48]) = true := lit_eq [48] _ rfl
  have ck2 : chkI ⟨#[49, 47, 50]⟩ = 3 := by unfold chkI; rw [toList_eq]; rfl
  have C1 := Lib.hid (fun W (h : Below w.heap.size w W) => nines_any K (by omega) (by omega) W)
  have C2 := Lib.hid (fun W (h : Below w.heap.size w W) => nines_any K (by omega) (by omega) W)
  have A := Lib.hid (fun W (h : Below w.heap.size w W) => rq_to (r := 0) (Sub_q q12 q12 (so (by decide +kernel) (by decide +kernel)) (so (by decide +kernel) (by decide +kernel)) W (htab.below h) (ml_keep hm (ml_pos hm) h)) (by decide +kernel) zero_ok' g0)
  have B := Lib.hid (fun W (h : Below w.heap.size w W) => rq_to (r := q12m) (Mul_q q23m q34 (so (by decide +kernel) (by decide +kernel)) (so (by decide +kernel) (by decide +kernel)) W (htab.below h) (ml_keep hm (ml_pos hm) h)) (by decide +kernel) (so (by decide +kernel) (by decide +kernel)) g12m)
  have C := Lib.hid (fun W (h : Below w.heap.size w W) => rq_to (r := q16m) (Div_q q12 (-3) (so (by decide +kernel) (by decide +kernel)) (so (by decide +kernel) (by decide +kernel)) W (htab.below h) (ml_keep hm (ml_pos hm) h) (by decide +kernel) _ rfl) (by decide +kernel) (so (by decide +kernel) (by decide +kernel)) g16m)
  have D := Lib.hid (fun W (h : Below w.heap.size w W) => rq_to (r := q827m) (Pow_pos q23m (so (by decide +kernel) (by decide +kernel)) 3 (by omega) W (htab.below h) (ml_keep hm (ml_pos hm) h)) (by decide +kernel) okd g827m)
  have E0 := Lib.hid (fun W (h : Below w.heap.size w W) => rq_to (r := 1) (Pow_pos 0 zero_ok' 0 (by omega) W (htab.below h) (ml_keep hm (ml_pos hm) h)) (by decide +kernel) one_ok' g1)
  have F := Lib.hid (fun W (h : Below w.heap.size w W) => Pow_zero (-1) (by omega) W (ml_keep hm (ml_pos hm) h))
  have G := Lib.hid (fun W (h : Below w.heap.size w W) => rq_to (r := -2) (Floor_q q32m (so (by decide +kernel) (by decide +kernel)) W (htab.below h) (ml_keep hm (ml_pos hm) h)) (by decide +kernel) (so (by decide +kernel) (by decide +kernel)) gm2)
  have HH := Lib.hid (fun W (h : Below w.heap.size w W) => rq_to (r := -1) (Ceil_q q32m (so (by decide +kernel) (by decide +kernel)) W (htab.below h) (ml_keep hm (ml_pos hm) h)) (by decide +kernel) (so (by decide +kernel) (by decide +kernel)) gm1)
  have II := Lib.hid (fun W (h : Below w.heap.size w W) => rq_to (r := 7) (Floor_q 7 (so (by decide +kernel) (by decide +kernel)) W (htab.below h) (ml_keep hm (ml_pos hm) h)) (by decide +kernel) (so (by decide +kernel) (by decide +kernel)) g7)
  have J := Lib.hid (fun W (h : Below w.heap.size w W) => Cmp_q q13 q25 (so (by decide +kernel) (by decide +kernel)) (so (by decide +kernel) (by decide +kernel)) W (ml_keep hm (ml_pos hm) h))
  have KK := Lib.hid (fun W (h : Below w.heap.size w W) => max_to (so (by decide +kernel) (by decide +kernel)) (so (by decide +kernel) (by decide +kernel)) W (ml_keep hm (ml_pos hm) h) g25)
  have P1 := Lib.hid (fun W (h : Below w.heap.size w W) => Parts_q q32m (so (by decide +kernel) (by decide +kernel)) W (ml_keep hm (ml_pos hm) h))
  have O := Lib.hid (fun W (h : Below w.heap.size w W) => Make_err0 ⟨#[49]⟩ ⟨#[48]⟩ W (by decide) (by decide) ck1 rfl ck0)
  have PP := Lib.hid (fun W (h : Below w.heap.size w W) => Make_err1 ⟨#[49, 47, 50]⟩ ⟨#[51]⟩ W (by decide) (by rw [ck2]; omega))
  have Q := Lib.hid (fun W (h : Below w.heap.size w W) => Add_q (N : Rat) 1 ok_N one_ok' W (htab.below h) (ml_keep hm (ml_pos hm) h))
  have R := Lib.hid (fun W (h : Below w.heap.size w W) => Mul_q ((N : Rat)⁻¹) q12 ok_i (so (by decide +kernel) (by decide +kernel)) W (htab.below h) (ml_keep hm (ml_pos hm) h))
  have SS := Lib.hid (fun W (h : Below w.heap.size w W) => rq_done (Inv_q (-(N : Rat)) ok_n W (htab.below h) (ml_keep hm (ml_pos hm) h) (fun e => nat_ne (show N ≠ 0 by omega) (by have := congrArg (fun x : Rat => -x) e; simpa using this)) _ rfl) rfl ok_ni)
  have TT := Lib.hid (fun W (h : Below w.heap.size w W) => rq_to (r := 1) (Pow_neg (-1) (so (by decide +kernel) (by decide +kernel)) E (by omega) (by omega) W (htab.below h) (ml_keep hm (ml_pos hm) h) (by decide +kernel) (-1) (by decide +kernel)) (by rw [pow_m1, if_neg (by omega)]) one_ok' g1)
  have U := Lib.hid (fun W (h : Below w.heap.size w W) => rq_to (r := -1) (Pow_pos (-1) (so (by decide +kernel) (by decide +kernel)) (E - 1) (by omega) W (htab.below h) (ml_keep hm (ml_pos hm) h)) (by rw [pow_m1, if_pos (by omega)]) (so (by decide +kernel) (by decide +kernel)) gm1)
  have V := Lib.hid (fun W (h : Below w.heap.size w W) => Pow_neg q12 (so (by decide +kernel) (by decide +kernel)) E (by omega) (by omega) W (htab.below h) (ml_keep hm (ml_pos hm) h) (by decide +kernel) 2 (by decide +kernel))
  have WW := Lib.hid (fun W (h : Below w.heap.size w W) => Sign_q q32m (so (by decide +kernel) (by decide +kernel)) W (ml_keep hm (ml_pos hm) h))
  have X1 := Lib.hid (fun W (h : Below w.heap.size w W) => Int_q (-12) (by omega) (by omega) W (htab.below h))
  have X2 := Lib.hid (fun W (h : Below w.heap.size w W) => Int_q (-9223372036854775808) (by omega) (by omega) W (htab.below h))
  have X3 := Lib.hid (fun W (h : Below w.heap.size w W) => Int_q 0 (by omega) (by omega) W (htab.below h))
  have Y1 := Lib.hid (fun W (h : Below w.heap.size w W) => qcheck_any (⟨#[49, 47]⟩ ++ dstr N ++ ⟨#[57]⟩) W (by rw [ByteArray.size_append, ByteArray.size_append, show (⟨#[49, 47]⟩ : ByteArray).size = 2 from rfl, show (⟨#[57]⟩ : ByteArray).size = 1 from rfl]; omega) (ml_keep hm (ml_pos hm) h))
  have Y2 := Lib.hid (fun W (h : Below w.heap.size w W) => qcheck_any (dstr N) W (by omega) (ml_keep hm (ml_pos hm) h))
  have BD := Lib.hid (fun (j : Nat) (hj : j < 19) W (h : Below w.heap.size w W) => bad_rchk j hj ▸ qcheck_any (badL.getD j ByteArray.empty) W (bad_size j hj) (ml_keep hm (ml_pos hm) h))
  rw [← hN] at C1 C2
  rw [s12] at A
  rw [s23m, s34] at B
  rw [s12, sm3] at C
  rw [s23m] at D
  rw [qstr_zero] at E0 F
  rw [s32m] at G HH WW P1
  rw [s7] at II
  rw [s13, s25, show cmpQ q13 q25 = -1 from cmpQ_lt (by decide +kernel)] at J
  rw [s13, s25] at KK
  rw [qstr_nat, qstr_one] at Q
  unfold RQ at Q R V
  rw [wQ_no no_s] at Q
  rw [wQ_no no_p, s_i, s12] at R
  rw [wQ_no no_2, s12] at V
  rw [qstr_neg_nat (by omega), s_ni] at SS
  rw [sm1] at TT U
  rw [show sgnQ q32m = -1 from cmpQ_lt (by decide +kernel)] at WW
  rw [hover] at Y1
  rw [hbig] at Y2
  rw [ck2] at PP
  have hEi : -(E : Int) = -9223372036854775808 := by omega
  have hEj : ((E - 1 : Nat) : Int) = 9223372036854775807 := by omega
  rw [hEi] at TT V
  rw [hEj] at U
  have hKi : (K : Int) = 4000 := by omega
  rw [hKi] at C1 C2
  have x1 := lit_eq [45, 49, 50] (qstr ((-12 : Int) : Rat)) (int_lit (by decide +kernel) (by decide +kernel) (by decide) rfl)
  have x2 := lit_eq [45, 57, 50, 50, 51, 51, 55, 50, 48, 51, 54, 56, 53, 52, 55, 55, 53, 56, 48, 56] (qstr ((-9223372036854775808 : Int) : Rat)) (int_lit (by decide +kernel) (by decide +kernel) (by decide) rfl)
  have x3 := lit_eq [48] (qstr ((0 : Int) : Rat)) (by rw [show qstr ((0 : Int) : Rat) = qstr 0 from rfl, qstr_zero])
  have y1 := lit_eq [45, 51] (istr (ng q32m) (tp q32m)) (by rw [istr_list]; show [45] ++ decDigits 3 = _; rw [dec_small (by omega)]; rfl)
  have y2 := lit_eq [50] (dstr q32m.den) (by rw [dstr_list]; show decDigits 2 = _; rw [dec_small (by omega)]; rfl)
  generalize qstr ((-12 : Int) : Rat) = u1 at *
  generalize qstr ((-9223372036854775808 : Int) : Rat) = u2 at *
  generalize qstr ((0 : Int) : Rat) = u3 at *
  generalize istr (ng q32m) (tp q32m) = u4 at *
  generalize dstr q32m.den = u5 at *
  generalize dstr N = tb at *
  have HB := Lib.hid (Below.refl w.heap.size w)
  have hszb : tb.size ≤ 4000 := hsz
  clear so hK hN hE h10 okN noN hN2 hN1 ok_N ok_i ok_n ok_ni s_i s_ni no_s no_p no_2 hover hbig hsz okd ck1 ck0 ck2 hEi hEj hKi htab hm g0 g12m g16m g827m g1 gm2 gm1 g7 g25
  go_enter Tryz.func3, Tryz.ntmps3
  go_wp2_with fail
  refine HL.out.mono ?_
  rintro e w1 ⟨rfl, hb1⟩
  replace HB := Lib.hid (HB.out.trans (hb1.mono HB.out.size))
  clear hb1 HL
  go_wp2_with fail
  have hbc := bad_cells w1 23
  have hbb : Below w1.heap.size w1 (w1.alloc (.cells #[.string ⟨#[]⟩, .string ⟨#[45]⟩, .string ⟨#[45, 48]⟩, .string ⟨#[48, 48]⟩, .string ⟨#[48, 49]⟩, .string ⟨#[43, 49]⟩, .string ⟨#[49, 47]⟩, .string ⟨#[47, 50]⟩, .string ⟨#[49, 47, 48]⟩, .string ⟨#[49, 47, 49]⟩, .string ⟨#[49, 47, 48, 50]⟩, .string ⟨#[50, 47, 52]⟩, .string ⟨#[48, 47, 51]⟩, .string ⟨#[45, 48, 47, 51]⟩, .string ⟨#[49, 47, 45, 50]⟩, .string ⟨#[49, 47, 50, 47, 51]⟩, .string ⟨#[32, 49]⟩, .string ⟨#[49, 46, 53]⟩, .string ⟨#[45, 45, 49]⟩] 23)) := (Below.refl _ _).alloc (Nat.le_refl _) _
  have hlt1 : w1.heap.size < (w1.alloc (.cells #[.string ⟨#[]⟩, .string ⟨#[45]⟩, .string ⟨#[45, 48]⟩, .string ⟨#[48, 48]⟩, .string ⟨#[48, 49]⟩, .string ⟨#[43, 49]⟩, .string ⟨#[49, 47]⟩, .string ⟨#[47, 50]⟩, .string ⟨#[49, 47, 48]⟩, .string ⟨#[49, 47, 49]⟩, .string ⟨#[49, 47, 48, 50]⟩, .string ⟨#[50, 47, 52]⟩, .string ⟨#[48, 47, 51]⟩, .string ⟨#[45, 48, 47, 51]⟩, .string ⟨#[49, 47, 45, 50]⟩, .string ⟨#[49, 47, 50, 47, 51]⟩, .string ⟨#[32, 49]⟩, .string ⟨#[49, 46, 53]⟩, .string ⟨#[45, 45, 49]⟩] 23)).heap.size := by simp
  replace HB := Lib.hid (HB.out.trans (hbb.mono HB.out.size))
  clear hbb
  generalize w1.alloc (.cells #[.string ⟨#[]⟩, .string ⟨#[45]⟩, .string ⟨#[45, 48]⟩, .string ⟨#[48, 48]⟩, .string ⟨#[48, 49]⟩, .string ⟨#[43, 49]⟩, .string ⟨#[49, 47]⟩, .string ⟨#[47, 50]⟩, .string ⟨#[49, 47, 48]⟩, .string ⟨#[49, 47, 49]⟩, .string ⟨#[49, 47, 48, 50]⟩, .string ⟨#[50, 47, 52]⟩, .string ⟨#[48, 47, 51]⟩, .string ⟨#[45, 48, 47, 51]⟩, .string ⟨#[49, 47, 45, 50]⟩, .string ⟨#[49, 47, 50, 47, 51]⟩, .string ⟨#[32, 49]⟩, .string ⟨#[49, 46, 53]⟩, .string ⟨#[45, 45, 49]⟩] 23) = wb at hbc hlt1 HB ⊢
  have HC := Lib.hid (show ∀ W, Below wb.heap.size wb W → ∀ j, j < 19 → W.cell? ⟨w1.heap.size, j, none⟩ = some (.string (badL.getD j ByteArray.empty)) from fun W h j hj => (h.cell (p := ⟨w1.heap.size, j, none⟩) hlt1).trans (hbc j hj))
  have HB0 := Lib.hid (Below.refl wb.heap.size wb)
  clear hbc hlt1
  go_loopw [2] (fun i wr => ∃ k : Nat, k ≤ 19 ∧ i = .int .i64 (k : Int) ∧ Below w.heap.size w wr ∧ Below wb.heap.size wb wr) (fun i _ => 19 - (intOf i).toNat)
  case atStart => exact ⟨0, by omega, rfl, HB.out, HB0.out⟩
  case round =>
    obtain ⟨k, hk, rfl, hbw, hbr⟩ := hrel
    by_cases hlt : k < 19
    · have c0 := HC.out _ hbr k hlt
      have HD := Lib.hid (BD.out k hlt _ hbw)
      have HW := Lib.hid (And.intro hbw hbr)
      generalize badL.getD k ByteArray.empty = s at c0 HD
      clear hbw hbr HB HB0
      go_wp2_with fail
      refine HD.out.mono ?_
      rintro e u ⟨rfl, hb⟩
      have HW2 := Lib.hid (And.intro (HW.out.1.trans (hb.mono HW.out.1.size)) (HW.out.2.trans (hb.mono HW.out.2.size)))
      clear hb c0 HD HW
      go_wp2_with fail
      go_roundw
      case rel => exact ⟨k + 1, by omega, by go_num, HW2.out.1, HW2.out.2⟩
      case measure => simp [intOf]; omega
    · obtain rfl : k = 19 := by omega
      replace HB := Lib.hid hbw
      clear hbw hbr HB0 HC BD hk hlt
      go_wp2_with fail
      refine (C1.out _ HB.out).mono ?_
      rintro e v0 ⟨rfl, hb⟩
      replace HB := Lib.hid (HB.out.trans (hb.mono HB.out.size))
      clear hb C1
      go_wp2_with fail
      refine (C2.out _ HB.out).mono ?_
      rintro e v1 ⟨rfl, hb⟩
      replace HB := Lib.hid (HB.out.trans (hb.mono HB.out.size))
      clear hb C2
      go_wp2_with fail
      refine (A.out _ HB.out).mono ?_
      rintro e v2 ⟨rfl, hb⟩
      replace HB := Lib.hid (HB.out.trans (hb.mono HB.out.size))
      clear hb A
      go_wp2_with fail
      refine (B.out _ HB.out).mono ?_
      rintro e v3 ⟨rfl, hb⟩
      replace HB := Lib.hid (HB.out.trans (hb.mono HB.out.size))
      clear hb B
      go_wp2_with fail
      refine (C.out _ HB.out).mono ?_
      rintro e v4 ⟨rfl, hb⟩
      replace HB := Lib.hid (HB.out.trans (hb.mono HB.out.size))
      clear hb C
      go_wp2_with fail
      refine (D.out _ HB.out).mono ?_
      rintro e v5 ⟨rfl, hb⟩
      replace HB := Lib.hid (HB.out.trans (hb.mono HB.out.size))
      clear hb D
      go_wp2_with fail
      refine (E0.out _ HB.out).mono ?_
      rintro e v6 ⟨rfl, hb⟩
      replace HB := Lib.hid (HB.out.trans (hb.mono HB.out.size))
      clear hb E0
      go_wp2_with fail
      refine (F.out _ HB.out).mono ?_
      rintro e v7 ⟨rfl, hb⟩
      replace HB := Lib.hid (HB.out.trans (hb.mono HB.out.size))
      clear hb F
      go_wp2_with fail
      refine (G.out _ HB.out).mono ?_
      rintro e v8 ⟨rfl, hb⟩
      replace HB := Lib.hid (HB.out.trans (hb.mono HB.out.size))
      clear hb G
      go_wp2_with fail
      refine (HH.out _ HB.out).mono ?_
      rintro e v9 ⟨rfl, hb⟩
      replace HB := Lib.hid (HB.out.trans (hb.mono HB.out.size))
      clear hb HH
      go_wp2_with fail
      refine (II.out _ HB.out).mono ?_
      rintro e v10 ⟨rfl, hb⟩
      replace HB := Lib.hid (HB.out.trans (hb.mono HB.out.size))
      clear hb II
      go_wp2_with fail
      refine (J.out _ HB.out).mono ?_
      rintro e v11 ⟨rfl, hb⟩
      replace HB := Lib.hid (HB.out.trans (hb.mono HB.out.size))
      clear hb J
      go_wp2_with fail
      refine (KK.out _ HB.out).mono ?_
      rintro e v12 ⟨rfl, hb⟩
      replace HB := Lib.hid (HB.out.trans (hb.mono HB.out.size))
      clear hb KK
      go_wp2_with fail
      refine (P1.out _ HB.out).mono ?_
      rintro e v13 ⟨rfl, hb⟩
      replace HB := Lib.hid (HB.out.trans (hb.mono HB.out.size))
      clear hb P1
      go_wp2_with fail
      refine (O.out _ HB.out).mono ?_
      rintro e v14 ⟨rfl, hb⟩
      replace HB := Lib.hid (HB.out.trans (hb.mono HB.out.size))
      clear hb O
      go_wp2_with fail
      refine (PP.out _ HB.out).mono ?_
      rintro e v15 ⟨rfl, hb⟩
      replace HB := Lib.hid (HB.out.trans (hb.mono HB.out.size))
      clear hb PP
      go_wp2_with fail
      refine (Q.out _ HB.out).mono ?_
      rintro e v16 ⟨rfl, hb⟩
      replace HB := Lib.hid (HB.out.trans (hb.mono HB.out.size))
      clear hb Q
      go_wp2_with fail
      refine (R.out _ HB.out).mono ?_
      rintro e v17 ⟨rfl, hb⟩
      replace HB := Lib.hid (HB.out.trans (hb.mono HB.out.size))
      clear hb R
      go_wp2_with fail
      refine (SS.out _ HB.out).mono ?_
      rintro e v18 ⟨rfl, hb⟩
      replace HB := Lib.hid (HB.out.trans (hb.mono HB.out.size))
      clear hb SS
      go_wp2_with fail
      refine (TT.out _ HB.out).mono ?_
      rintro e v19 ⟨rfl, hb⟩
      replace HB := Lib.hid (HB.out.trans (hb.mono HB.out.size))
      clear hb TT
      go_wp2_with fail
      refine (U.out _ HB.out).mono ?_
      rintro e v20 ⟨rfl, hb⟩
      replace HB := Lib.hid (HB.out.trans (hb.mono HB.out.size))
      clear hb U
      go_wp2_with fail
      refine (V.out _ HB.out).mono ?_
      rintro e v21 ⟨rfl, hb⟩
      replace HB := Lib.hid (HB.out.trans (hb.mono HB.out.size))
      clear hb V
      go_wp2_with fail
      refine (WW.out _ HB.out).mono ?_
      rintro e v22 ⟨rfl, hb⟩
      replace HB := Lib.hid (HB.out.trans (hb.mono HB.out.size))
      clear hb WW
      go_wp2_with fail
      refine (X1.out _ HB.out).mono ?_
      rintro e v23 ⟨rfl, hb⟩
      replace HB := Lib.hid (HB.out.trans (hb.mono HB.out.size))
      clear hb X1
      go_wp2_with fail
      refine (X2.out _ HB.out).mono ?_
      rintro e v24 ⟨rfl, hb⟩
      replace HB := Lib.hid (HB.out.trans (hb.mono HB.out.size))
      clear hb X2
      go_wp2_with fail
      refine (X3.out _ HB.out).mono ?_
      rintro e v25 ⟨rfl, hb⟩
      replace HB := Lib.hid (HB.out.trans (hb.mono HB.out.size))
      clear hb X3
      go_wp2_with fail
      refine (Y1.out _ HB.out).mono ?_
      rintro e v26 ⟨rfl, hb⟩
      replace HB := Lib.hid (HB.out.trans (hb.mono HB.out.size))
      clear hb Y1
      go_wp2_with fail
      refine (Y2.out _ HB.out).mono ?_
      rintro e v27 ⟨rfl, hb⟩
      replace HB := Lib.hid (HB.out.trans (hb.mono HB.out.size))
      clear hb Y2
      go_wp2_with fail
      go_ret
      exact ⟨rfl, HB.out⟩

end Go.Proofs.YtadkijaofmcgfaaGreatDoor
