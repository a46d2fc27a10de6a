/-
  RatTexts returns true for any two texts.
-/
import Derived.Test.YtadkijaofmcgfaaGreatDoorP27
import Derived.Test.YtadkijaofmcgfaaGreatDoorP28
import Derived.Test.YtadkijaofmcgfaaGreatDoorT1
import Derived.Test.YtadkijaofmcgfaaGreatDoorL2
namespace Go.Proofs.YtadkijaofmcgfaaGreatDoor
open Go.RowKit NV
open Go.Lib (decDigits)

theorem itoa_str (n : Int) (h0 : -9223372036854775808 ≤ n) (h1 : n ≤ 9223372036854775807) : (⟨(Lib.itoa n).toArray⟩ : ByteArray) = qstr (n : Rat) := by
  apply ba_ext
  unfold qstr
  rw [rstr_eq, if_pos (Rat.den_intCast n), istr_list]
  show (Lib.itoa n) = _
  unfold Lib.itoa ng tp
  rw [Rat.num_intCast]
  by_cases h : n < 0
  · simp [h]
  · simp [h]
    congr 1; omega

set_option maxHeartbeats 800000 in
/-- Int writes an int. -/
theorem Int_q (n : Int) (h0 : -9223372036854775808 ≤ n) (h1 : n ≤ 9223372036854775807) (w : World) (htab : Tab w) :
    Calls Tryz.prog 27 #[.int .i64 n] w fun e w' => e = .returned (.string (qstr (n : Rat))) ∧ Below w.heap.size w w' := by
  have HI := Lib.hid (Tryz.strconv_Itoa n h0 h1 w htab)
  rw [itoa_str n h0 h1] at HI
  generalize qstr (n : Rat) = t at *
  clear htab
  go_enter Tryz.func27, Tryz.ntmps27
  go_wp2_with fail
  refine HI.out.mono ?_
  rintro e w1 ⟨rfl, k, os, rfl⟩
  have HB := Lib.hid (Lib.below_grow w.heap.size w (Nat.le_refl _) k os)
  go_wp2_with fail
  go_ret
  exact ⟨rfl, HB.out⟩

theorem chkI_istr {m : Bool} {n : Nat} (hn : Ok n) (hz : m = true → n ≠ 0) : chkI (istr m n) = 0 := by
  have hio : intOk (istr m n) = true := by
    unfold intOk
    rw [istr_rest, istr_minus, dstr_list, bad_dec, dstr_is n 48 (by decide)]
    cases m
    · rfl
    · have := hz rfl; simp; exact this
  rw [((chkI_cases _).2 hio).1, istr_rest, dstr_list, hn.chk]

theorem Make_q {m : Bool} {n d : Nat} (hn : Ok n) (hd : Ok d) (hd0 : d ≠ 0) (hz : m = true → n ≠ 0) (w : World) (htab : Tab w) :
    Calls Tryz.prog 23 #[.string (istr m n), .string (dstr d)] w (RQ (mkQ m n d) w) := by
  have := Make_ok (istr m n) (dstr d) w htab (chkI_istr hn hz) (by rw [dstr_list, hd.chk]) (by rw [dstr_list, dv_dec]; exact hd0)
  rw [istr_minus, istr_rest, dstr_list, dv_dec, dstr_list, dv_dec] at this
  exact this

theorem mkQ_mul (q : Rat) {k : Nat} (hk : k ≠ 0) : mkQ (ng q) (tp q * k) (q.den * k) = q := by
  unfold mkQ
  have : (if ng q then -((tp q * k : Nat) : Int) else ((tp q * k : Nat) : Int)) = q.num * (k : Int) := by
    rw [num_of q]; cases ng q <;> simp [Int.neg_mul]
  rw [this, Rat.mkRat_mul_right hk, Rat.mkRat_self]

theorem sgn_abs (q : Rat) : ((sgnQ q : Int) : Rat) * absQ q = q := by
  unfold sgnQ absQ
  rcases lt_tri q 0 with h | h | h
  · have hn : ng q = true := by unfold ng; apply decide_eq_true; have := (Rat.lt_iff q 0).1 h; simpa using this
    rw [cmpQ_lt h, hn, if_pos rfl, show (((-1 : Int)) : Rat) = -1 from rfl, Rat.neg_mul, Rat.mul_neg, Rat.one_mul, Rat.neg_neg]
  · subst h; rw [cmpQ_self]; exact Rat.zero_mul _
  · have hn : ng q = false := by unfold ng; apply decide_eq_false; have := (Rat.lt_iff 0 q).1 h; simp at this; omega
    rw [cmpQ_gt h, hn, if_neg (by simp), show (((1 : Int)) : Rat) = 1 from rfl, Rat.one_mul]

theorem sgn_neg_iff (q : Rat) : sgnQ q < 0 ↔ ng q = true := by
  rw [← sgnF_q]
  have := @ng_zero q
  unfold sgnF
  cases h : ng q
  · split <;> simp
  · rw [if_neg (this h)]; simp

theorem Ok.mulk {a b i j : Nat} (ha : a < 10 ^ i) (hb : b < 10 ^ j) (hij : 0 < i + j) (h : i + j ≤ 4000) : Ok (a * b) :=
  Nat.le_trans ((dec_len_le hij).2 (sz_mul ha hb)) h

set_option maxHeartbeats 3200000 in
set_option maxRecDepth 100000 in
theorem texts_no1 (s t : ByteArray) (w : World) (htab : Tab w) (hm : ML w) (hs : s.size ≤ 140737488351232) (_ht : t.size ≤ 140737488351232) (hv : allV2 1000 [s] = false)  :
    Calls Tryz.prog 8 #[.string s, .string t] w fun e w' => e = .returned (.bool true) ∧ Below w.heap.size w w' := by
  have HL := Lib.hid (lives2_any w htab hm)
  have HV := Lib.hid (fun (W : World) => valid2_any (W.alloc (.cells #[.string s] 23)) W.heap.size 1000 [s] (by simp) (by simp) (by omega) (by intro x hx; simp at hx; rcases hx with rfl; assumption) (one_cell2 s _))
  rw [hv] at HV
  clear htab hm hv
  go_enter Tryz.func8, Tryz.ntmps8
  go_wp2_with fail
  refine HL.out.mono ?_
  rintro e w1 ⟨rfl, hb1⟩
  have HB1 := Lib.hid hb1
  clear hb1
  go_wp2_with fail
  refine (HV.out w1).mono ?_
  rintro e w2 ⟨rfl, hb2⟩
  have hb3 := HB1.out.alloc HB1.out.size (.cells #[.string s] 23)
  have HB2 := Lib.hid (hb3.trans (hb2.mono hb3.size))
  clear hb2 hb3
  go_wp2_with fail
  go_ret
  exact ⟨rfl, HB2.out⟩

set_option maxHeartbeats 3200000 in
set_option maxRecDepth 100000 in
theorem texts_no2 (s t : ByteArray) (w : World) (htab : Tab w) (hm : ML w) (hs : s.size ≤ 140737488351232) (_ht : t.size ≤ 140737488351232) (hv : allV2 1000 [s] = true) (hk : 1000 < t.size) :
    Calls Tryz.prog 8 #[.string s, .string t] w fun e w' => e = .returned (.bool true) ∧ Below w.heap.size w w' := by
  have HL := Lib.hid (lives2_any w htab hm)
  have HV := Lib.hid (fun (W : World) => valid2_any (W.alloc (.cells #[.string s] 23)) W.heap.size 1000 [s] (by simp) (by simp) (by omega) (by intro x hx; simp at hx; rcases hx with rfl; assumption) (one_cell2 s _))
  rw [hv] at HV
  have hk2 : ¬ ((t.size : Int) ≤ 1000) := by omega
  clear htab hm hv
  go_enter Tryz.func8, Tryz.ntmps8
  go_wp2_with fail
  refine HL.out.mono ?_
  rintro e w1 ⟨rfl, hb1⟩
  have HB1 := Lib.hid hb1
  clear hb1
  go_wp2_with fail
  refine (HV.out w1).mono ?_
  rintro e w2 ⟨rfl, hb2⟩
  have hb3 := HB1.out.alloc HB1.out.size (.cells #[.string s] 23)
  have HB2 := Lib.hid (hb3.trans (hb2.mono hb3.size))
  clear hb2 hb3
  go_wp2_with fail
  go_ret
  exact ⟨rfl, HB2.out⟩

set_option maxHeartbeats 3200000 in
set_option maxRecDepth 100000 in
theorem texts_no3 (s t : ByteArray) (w : World) (htab : Tab w) (hm : ML w) (hs : s.size ≤ 140737488351232) (ht : t.size ≤ 140737488351232) (hv : allV2 1000 [s] = true) (hk : t.size ≤ 1000) (hc : chk t.data.toList ≠ 0) :
    Calls Tryz.prog 8 #[.string s, .string t] w fun e w' => e = .returned (.bool true) ∧ Below w.heap.size w w' := by
  have HL := Lib.hid (lives2_any w htab hm)
  have HV := Lib.hid (fun (W : World) => valid2_any (W.alloc (.cells #[.string s] 23)) W.heap.size 1000 [s] (by simp) (by simp) (by omega) (by intro x hx; simp at hx; rcases hx with rfl; assumption) (one_cell2 s _))
  rw [hv] at HV
  have HC := Lib.hid (fun W => refcheck_any t W ht)
  have hk2 : ((t.size : Int) ≤ 1000) := by omega
  have hz : (((chk t.data.toList : Nat) : Int) != 0) = true := by rw [bne_iff_ne]; omega
  clear hc
  clear htab hm hv
  go_enter Tryz.func8, Tryz.ntmps8
  go_wp2_with fail
  refine HL.out.mono ?_
  rintro e w1 ⟨rfl, hb1⟩
  have HB1 := Lib.hid hb1
  clear hb1
  go_wp2_with fail
  refine (HV.out w1).mono ?_
  rintro e w2 ⟨rfl, hb2⟩
  have hb3 := HB1.out.alloc HB1.out.size (.cells #[.string s] 23)
  have HB2 := Lib.hid (hb3.trans (hb2.mono hb3.size))
  clear hb2 hb3
  go_wp2_with fail
  refine (HC.out _).mono ?_
  rintro e w3 ⟨rfl, rfl⟩
  go_wp2_with fail
  go_ret
  exact ⟨rfl, HB2.out⟩

set_option maxHeartbeats 3200000 in
set_option maxRecDepth 100000 in
theorem texts_no4 (s t : ByteArray) (w : World) (htab : Tab w) (hm : ML w) (hs : s.size ≤ 140737488351232) (ht : t.size ≤ 140737488351232) (hv : allV2 1000 [s] = true) (hk : t.size ≤ 1000) (hc : chk t.data.toList = 0) (hz0 : (t.toList == [48]) = true) :
    Calls Tryz.prog 8 #[.string s, .string t] w fun e w' => e = .returned (.bool true) ∧ Below w.heap.size w w' := by
  have HL := Lib.hid (lives2_any w htab hm)
  have HV := Lib.hid (fun (W : World) => valid2_any (W.alloc (.cells #[.string s] 23)) W.heap.size 1000 [s] (by simp) (by simp) (by omega) (by intro x hx; simp at hx; rcases hx with rfl; assumption) (one_cell2 s _))
  rw [hv] at HV
  have HC := Lib.hid (fun W => refcheck_any t W ht)
  rw [hc] at HC
  have hk2 : ((t.size : Int) ≤ 1000) := by omega
  clear hc
  clear htab hm hv
  go_enter Tryz.func8, Tryz.ntmps8
  go_wp2_with fail
  refine HL.out.mono ?_
  rintro e w1 ⟨rfl, hb1⟩
  have HB1 := Lib.hid hb1
  clear hb1
  go_wp2_with fail
  refine (HV.out w1).mono ?_
  rintro e w2 ⟨rfl, hb2⟩
  have hb3 := HB1.out.alloc HB1.out.size (.cells #[.string s] 23)
  have HB2 := Lib.hid (hb3.trans (hb2.mono hb3.size))
  clear hb2 hb3
  go_wp2_with fail
  refine (HC.out _).mono ?_
  rintro e w3 ⟨rfl, rfl⟩
  go_wp2_with fail
  go_ret
  exact ⟨rfl, HB2.out⟩

set_option maxHeartbeats 12800000 in
set_option maxRecDepth 100000 in
theorem texts_neg (a : Rat) (k : Nat) (w : World) (htab : Tab w) (hm : ML w) (hv : allV2 1000 [qstr a] = true) (hA : Sz 1000 a) (hk : k < 10 ^ 1000) (hk0 : k ≠ 0) (hng : ng a = true) :
    Calls Tryz.prog 8 #[.string (qstr a), .string (dstr k)] w fun e w' => e = .returned (.bool true) ∧ Below w.heap.size w w' := by
  have ok_a : QOk a := hA.qok (by omega) (by omega)
  have ok_c : QOk (absQ a) := by
    obtain ⟨h1, h2, h3⟩ := abs_parts a
    exact ⟨by rw [h3]; exact ok_a.1, by rw [h1]; exact ok_a.2⟩
  have ok_k : Ok k := Nat.le_trans ((dec_len_le (by omega)).2 hk) (by omega)
  have ok_nk : Ok (tp a * k) := Ok.mulk hA.1 hk (by omega) (by omega)
  have ok_dk : Ok (a.den * k) := Ok.mulk hA.2 hk (by omega) (by omega)
  have hsr := cmpQ_range a 0
  have ok_s : QOk ((sgnQ a : Int) : Rat) := by
    rw [show cmpQ a 0 = sgnQ a from rfl] at hsr
    rcases hsr with h | h | h <;> rw [h] <;> exact small_qok (by decide) (by decide)
  have hsb : -9223372036854775808 ≤ sgnQ a ∧ sgnQ a ≤ 9223372036854775807 := by
    rw [show cmpQ a 0 = sgnQ a from rfl] at hsr
    omega
  have hzn : ng a = true → tp a * k ≠ 0 := fun h e => by
    rcases Nat.mul_eq_zero.1 e with h2 | h2
    · exact ng_zero h h2
    · exact hk0 h2
  have HL := Lib.hid (lives2_any w htab hm)
  have HV := Lib.hid (fun (W : World) => valid2_any (W.alloc (.cells #[.string (qstr a)] 23)) W.heap.size 1000 [qstr a] (by simp) (by simp) (by omega) (by intro x hx; simp at hx; rcases hx with rfl; exact Nat.le_trans (qstr_size ok_a) (by omega)) (one_cell2 _ _))
  rw [hv] at HV
  have hkc := fun W => refcheck_any (dstr k) W (small_str ok_k)
  rw [dstr_list, ok_k.chk] at hkc
  have HC := Lib.hid hkc
  have hksz : (((dstr k).size : Nat) : Int) ≤ 1000 := by rw [dstr_size]; have := (dec_len_le (n := k) (k := 1000) (by omega)).2 hk; omega
  have hkz : ((dstr k).toList == [48]) = false := by rw [dstr_is k 48 (by decide), decide_eq_false (by simpa using hk0)]
  have hone : ((dstr 1).toList == [49]) = true := lit_eq [49] _ (by rw [dstr_one])
  have hs0 : sgnQ a < 0 := (sgn_neg_iff a).2 hng
  have I1 := Lib.hid (fun W (h : Below w.heap.size w W) => Parts_q a ok_a W (ml_keep hm (ml_pos hm) h))
  have I2 := Lib.hid (fun W (h : Below w.heap.size w W) => rq_done (r := a) (Make_q ok_a.1 ok_a.2 a.den_nz ng_zero W (htab.below h)) (mkQ_self a) ok_a)
  have I3 := Lib.hid (fun W (h : Below w.heap.size w W) => rq_done (Abs_q a ok_a W (htab.below h) (ml_keep hm (ml_pos hm) h)) rfl ok_c)
  have I4 := Lib.hid (fun W (h : Below w.heap.size w W) => Sign_q a ok_a W (ml_keep hm (ml_pos hm) h))
  have I5 := Lib.hid (fun W (h : Below w.heap.size w W) => Int_q (sgnQ a) hsb.1 hsb.2 W (htab.below h))
  have I6 := Lib.hid (fun W (h : Below w.heap.size w W) => product_of (rq_done (r := a) (Mul_q ((sgnQ a : Int) : Rat) (absQ a) ok_s ok_c W (htab.below h) (ml_keep hm (ml_pos hm) h)) (sgn_abs a) ok_a))
  have I7 := Lib.hid (fun W (h : Below w.heap.size w W) => iMul (tp a) k ok_a.1 ok_k W)
  have I8 := Lib.hid (fun W (h : Below w.heap.size w W) => iMul a.den k ok_a.2 ok_k W)
  have I9 := Lib.hid (fun W (h : Below w.heap.size w W) => iGcd (tp a) a.den ok_a.1 ok_a.2 W)
  have I10 := Lib.hid (fun W (h : Below w.heap.size w W) => rq_done (r := a) (Make_q ok_nk ok_dk (Nat.mul_ne_zero a.den_nz hk0) hzn W (htab.below h)) (mkQ_mul a hk0) ok_a)
  rw [outR_yes ok_nk] at I7
  rw [outR_yes ok_dk] at I8
  rw [qcop a, outR_yes one_ok] at I9
  rw [hng] at I1 I2 I10
  have hext : (istr true (tp a)).extract 1 (istr true (tp a)).size = dstr (tp a) := by
    have := istr_rest true (tp a)
    rw [restS, istr_minus, if_pos rfl] at this
    exact this
  rw [← hext] at I7 I9
  have hips : 0 < (istr true (tp a)).size := by rw [Go.Lib.size_eq, istr_list]; simp
  have hipi : (0 : Int) < (((istr true (tp a)).size : Nat) : Int) := by omega
  have hps : (dstr (tp a * k)).size ≤ 4000 := by rw [dstr_size]; exact ok_nk
  rw [show istr true (tp a * k) = ⟨#[45]⟩ ++ dstr (tp a * k) from rfl] at I10
  generalize qstr ((sgnQ a : Int) : Rat) = ti at *
  generalize sgnQ a = sg at *
  generalize qstr (absQ a) = tc at *
  generalize qstr a = ta at *
  generalize dstr (tp a * k) = tnk at *
  generalize dstr (a.den * k) = tdk at *
  clear hext
  generalize istr true (tp a) = tn at *
  generalize dstr a.den = td at *
  generalize dstr 1 = t1 at *
  generalize dstr k = tk at *
  have HB := Lib.hid (Below.refl w.heap.size w)
  clear htab hm hv hA hk hk0 hng ok_a ok_c ok_k ok_nk ok_dk hsr ok_s hsb hzn hkc
  go_enter Tryz.func8, Tryz.ntmps8
  go_wp2_with fail
  refine HL.out.mono ?_
  rintro e w1 ⟨rfl, hb1⟩
  replace HB := Lib.hid (HB.out.trans (hb1.mono HB.out.size))
  clear hb1 HL
  go_wp2_with fail
  refine (HV.out w1).mono ?_
  rintro e w2 ⟨rfl, hb2⟩
  have hb3 := HB.out.alloc HB.out.size (.cells #[.string ta] 23)
  replace HB := Lib.hid (hb3.trans (hb2.mono hb3.size))
  clear hb2 hb3 HV
  go_wp2_with fail
  refine (HC.out _).mono ?_
  rintro e w3 ⟨rfl, rfl⟩
  clear HC
  go_wp2_with fail
  refine (I1.out _ HB.out).mono ?_
  rintro e u0 ⟨rfl, hb⟩
  replace HB := Lib.hid (HB.out.trans (hb.mono HB.out.size))
  clear hb I1
  go_wp2_with fail
  refine (I2.out _ HB.out).mono ?_
  rintro e u1 ⟨rfl, hb⟩
  replace HB := Lib.hid (HB.out.trans (hb.mono HB.out.size))
  clear hb I2
  go_wp2_with fail
  refine (I3.out _ HB.out).mono ?_
  rintro e u2 ⟨rfl, hb⟩
  replace HB := Lib.hid (HB.out.trans (hb.mono HB.out.size))
  clear hb I3
  go_wp2_with fail
  refine (I4.out _ HB.out).mono ?_
  rintro e u3 ⟨rfl, hb⟩
  replace HB := Lib.hid (HB.out.trans (hb.mono HB.out.size))
  clear hb I4
  go_wp2_with fail
  refine (I5.out _ HB.out).mono ?_
  rintro e u4 ⟨rfl, hb⟩
  replace HB := Lib.hid (HB.out.trans (hb.mono HB.out.size))
  clear hb I5
  go_wp2_with fail
  refine (I6.out _ HB.out).mono ?_
  rintro e u5 ⟨rfl, hb⟩
  replace HB := Lib.hid (HB.out.trans (hb.mono HB.out.size))
  clear hb I6
  go_wp2_with fail
  refine (I7.out _ HB.out).mono ?_
  rintro e u6 ⟨rfl, hb⟩
  replace HB := Lib.hid (HB.out.trans (hb.mono HB.out.size))
  clear hb I7
  go_wp2_with fail
  refine (I8.out _ HB.out).mono ?_
  rintro e u7 ⟨rfl, hb⟩
  replace HB := Lib.hid (HB.out.trans (hb.mono HB.out.size))
  clear hb I8
  go_wp2_with fail
  refine (I9.out _ HB.out).mono ?_
  rintro e u8 ⟨rfl, hb⟩
  replace HB := Lib.hid (HB.out.trans (hb.mono HB.out.size))
  clear hb I9
  go_wp2_with fail
  refine (I10.out _ HB.out).mono ?_
  rintro e u9 ⟨rfl, hb⟩
  replace HB := Lib.hid (HB.out.trans (hb.mono HB.out.size))
  clear hb I10
  go_wp2_with fail
  go_ret
  exact ⟨rfl, HB.out⟩

set_option maxHeartbeats 12800000 in
set_option maxRecDepth 100000 in
theorem texts_pos (a : Rat) (k : Nat) (w : World) (htab : Tab w) (hm : ML w) (hv : allV2 1000 [qstr a] = true) (hA : Sz 1000 a) (hk : k < 10 ^ 1000) (hk0 : k ≠ 0) (hng : ng a = false) :
    Calls Tryz.prog 8 #[.string (qstr a), .string (dstr k)] w fun e w' => e = .returned (.bool true) ∧ Below w.heap.size w w' := by
  have ok_a : QOk a := hA.qok (by omega) (by omega)
  have ok_c : QOk (absQ a) := by
    obtain ⟨h1, h2, h3⟩ := abs_parts a
    exact ⟨by rw [h3]; exact ok_a.1, by rw [h1]; exact ok_a.2⟩
  have ok_k : Ok k := Nat.le_trans ((dec_len_le (by omega)).2 hk) (by omega)
  have ok_nk : Ok (tp a * k) := Ok.mulk hA.1 hk (by omega) (by omega)
  have ok_dk : Ok (a.den * k) := Ok.mulk hA.2 hk (by omega) (by omega)
  have hsr := cmpQ_range a 0
  have ok_s : QOk ((sgnQ a : Int) : Rat) := by
    rw [show cmpQ a 0 = sgnQ a from rfl] at hsr
    rcases hsr with h | h | h <;> rw [h] <;> exact small_qok (by decide) (by decide)
  have hsb : -9223372036854775808 ≤ sgnQ a ∧ sgnQ a ≤ 9223372036854775807 := by
    rw [show cmpQ a 0 = sgnQ a from rfl] at hsr
    omega
  have hzn : ng a = true → tp a * k ≠ 0 := fun h e => by
    rcases Nat.mul_eq_zero.1 e with h2 | h2
    · exact ng_zero h h2
    · exact hk0 h2
  have HL := Lib.hid (lives2_any w htab hm)
  have HV := Lib.hid (fun (W : World) => valid2_any (W.alloc (.cells #[.string (qstr a)] 23)) W.heap.size 1000 [qstr a] (by simp) (by simp) (by omega) (by intro x hx; simp at hx; rcases hx with rfl; exact Nat.le_trans (qstr_size ok_a) (by omega)) (one_cell2 _ _))
  rw [hv] at HV
  have hkc := fun W => refcheck_any (dstr k) W (small_str ok_k)
  rw [dstr_list, ok_k.chk] at hkc
  have HC := Lib.hid hkc
  have hksz : (((dstr k).size : Nat) : Int) ≤ 1000 := by rw [dstr_size]; have := (dec_len_le (n := k) (k := 1000) (by omega)).2 hk; omega
  have hkz : ((dstr k).toList == [48]) = false := by rw [dstr_is k 48 (by decide), decide_eq_false (by simpa using hk0)]
  have hone : ((dstr 1).toList == [49]) = true := lit_eq [49] _ (by rw [dstr_one])
  have hs0 : ¬ sgnQ a < 0 := fun h => by rw [(sgn_neg_iff a).1 h] at hng; simp at hng
  have I1 := Lib.hid (fun W (h : Below w.heap.size w W) => Parts_q a ok_a W (ml_keep hm (ml_pos hm) h))
  have I2 := Lib.hid (fun W (h : Below w.heap.size w W) => rq_done (r := a) (Make_q ok_a.1 ok_a.2 a.den_nz ng_zero W (htab.below h)) (mkQ_self a) ok_a)
  have I3 := Lib.hid (fun W (h : Below w.heap.size w W) => rq_done (Abs_q a ok_a W (htab.below h) (ml_keep hm (ml_pos hm) h)) rfl ok_c)
  have I4 := Lib.hid (fun W (h : Below w.heap.size w W) => Sign_q a ok_a W (ml_keep hm (ml_pos hm) h))
  have I5 := Lib.hid (fun W (h : Below w.heap.size w W) => Int_q (sgnQ a) hsb.1 hsb.2 W (htab.below h))
  have I6 := Lib.hid (fun W (h : Below w.heap.size w W) => product_of (rq_done (r := a) (Mul_q ((sgnQ a : Int) : Rat) (absQ a) ok_s ok_c W (htab.below h) (ml_keep hm (ml_pos hm) h)) (sgn_abs a) ok_a))
  have I7 := Lib.hid (fun W (h : Below w.heap.size w W) => iMul (tp a) k ok_a.1 ok_k W)
  have I8 := Lib.hid (fun W (h : Below w.heap.size w W) => iMul a.den k ok_a.2 ok_k W)
  have I9 := Lib.hid (fun W (h : Below w.heap.size w W) => iGcd (tp a) a.den ok_a.1 ok_a.2 W)
  have I10 := Lib.hid (fun W (h : Below w.heap.size w W) => rq_done (r := a) (Make_q ok_nk ok_dk (Nat.mul_ne_zero a.den_nz hk0) hzn W (htab.below h)) (mkQ_mul a hk0) ok_a)
  rw [outR_yes ok_nk] at I7
  rw [outR_yes ok_dk] at I8
  rw [qcop a, outR_yes one_ok] at I9
  rw [hng] at I1 I2 I10
  rw [show istr false (tp a) = dstr (tp a) from rfl] at I1 I2
  rw [show istr false (tp a * k) = dstr (tp a * k) from rfl] at I10
  generalize qstr ((sgnQ a : Int) : Rat) = ti at *
  generalize sgnQ a = sg at *
  generalize qstr (absQ a) = tc at *
  generalize qstr a = ta at *
  generalize dstr (tp a * k) = tnk at *
  generalize dstr (a.den * k) = tdk at *
  generalize dstr (tp a) = tn at *
  generalize dstr a.den = td at *
  generalize dstr 1 = t1 at *
  generalize dstr k = tk at *
  have HB := Lib.hid (Below.refl w.heap.size w)
  clear htab hm hv hA hk hk0 hng ok_a ok_c ok_k ok_nk ok_dk hsr ok_s hsb hzn hkc
  go_enter Tryz.func8, Tryz.ntmps8
  go_wp2_with fail
  refine HL.out.mono ?_
  rintro e w1 ⟨rfl, hb1⟩
  replace HB := Lib.hid (HB.out.trans (hb1.mono HB.out.size))
  clear hb1 HL
  go_wp2_with fail
  refine (HV.out w1).mono ?_
  rintro e w2 ⟨rfl, hb2⟩
  have hb3 := HB.out.alloc HB.out.size (.cells #[.string ta] 23)
  replace HB := Lib.hid (hb3.trans (hb2.mono hb3.size))
  clear hb2 hb3 HV
  go_wp2_with fail
  refine (HC.out _).mono ?_
  rintro e w3 ⟨rfl, rfl⟩
  clear HC
  go_wp2_with fail
  refine (I1.out _ HB.out).mono ?_
  rintro e u0 ⟨rfl, hb⟩
  replace HB := Lib.hid (HB.out.trans (hb.mono HB.out.size))
  clear hb I1
  go_wp2_with fail
  refine (I2.out _ HB.out).mono ?_
  rintro e u1 ⟨rfl, hb⟩
  replace HB := Lib.hid (HB.out.trans (hb.mono HB.out.size))
  clear hb I2
  go_wp2_with fail
  refine (I3.out _ HB.out).mono ?_
  rintro e u2 ⟨rfl, hb⟩
  replace HB := Lib.hid (HB.out.trans (hb.mono HB.out.size))
  clear hb I3
  go_wp2_with fail
  refine (I4.out _ HB.out).mono ?_
  rintro e u3 ⟨rfl, hb⟩
  replace HB := Lib.hid (HB.out.trans (hb.mono HB.out.size))
  clear hb I4
  go_wp2_with fail
  refine (I5.out _ HB.out).mono ?_
  rintro e u4 ⟨rfl, hb⟩
  replace HB := Lib.hid (HB.out.trans (hb.mono HB.out.size))
  clear hb I5
  go_wp2_with fail
  refine (I6.out _ HB.out).mono ?_
  rintro e u5 ⟨rfl, hb⟩
  replace HB := Lib.hid (HB.out.trans (hb.mono HB.out.size))
  clear hb I6
  go_wp2_with fail
  refine (I7.out _ HB.out).mono ?_
  rintro e u6 ⟨rfl, hb⟩
  replace HB := Lib.hid (HB.out.trans (hb.mono HB.out.size))
  clear hb I7
  go_wp2_with fail
  refine (I8.out _ HB.out).mono ?_
  rintro e u7 ⟨rfl, hb⟩
  replace HB := Lib.hid (HB.out.trans (hb.mono HB.out.size))
  clear hb I8
  go_wp2_with fail
  refine (I9.out _ HB.out).mono ?_
  rintro e u8 ⟨rfl, hb⟩
  replace HB := Lib.hid (HB.out.trans (hb.mono HB.out.size))
  clear hb I9
  go_wp2_with fail
  refine (I10.out _ HB.out).mono ?_
  rintro e u9 ⟨rfl, hb⟩
  replace HB := Lib.hid (HB.out.trans (hb.mono HB.out.size))
  clear hb I10
  go_wp2_with fail
  go_ret
  exact ⟨rfl, HB.out⟩

end Go.Proofs.YtadkijaofmcgfaaGreatDoor
