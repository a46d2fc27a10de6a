/-
  Merged of I14, N2, I15, R8.
-/
import Derived.Test.YtiocehlefpbbhaaGreatDoorKB
import Derived.Test.YtiocehlefpbbhaaGreatDoorKA
import Derived.Test.YtiocehlefpbbhaaGreatDoorN1
import Derived.Test.YtiocehlefpbbhaaGreatDoorW13
import Derived.Test.YtiocehlefpbbhaaGreatDoorW21
import Derived.Test.YtiocehlefpbbhaaGreatDoorW35
import Derived.Test.YtiocehlefpbbhaaGreatDoorW22
namespace Go.Proofs.YtiocehlefpbbhaaGreatDoor
open Go.RowKit NV
open Go.Lib (decDigits)

theorem ln_add_le {a b N : Nat} (ha : ln a ≤ N) (hb : ln b ≤ N) : ln (a + b) ≤ N + 1 := ln_le (add_lt ha hb)

theorem iread_dec (a : Nat) (ha : Ok a) (w : World) :
    Calls Tryz.prog 32 #[.string (dstr a)] w fun e w' => ∃ v, e = .returned v ∧ INum w' v a ∧ Below w.heap.size w w' := by
  have hr := iread_any (dstr a) w (by rw [dstr_size]; exact dec_len_pos a) (by rw [dstr_size]; unfold Ok at ha; omega) (by rw [dstr_list]; exact digs_dec a)
  rw [dstr_list, dv_dec] at hr
  exact hr

set_option maxHeartbeats 800000 in
/-- both returns the first error. -/
theorem iboth_any (s t : ByteArray) (w : World) (hs : s.size ≤ 140737488351232) (ht : t.size ≤ 140737488351232) :
    Calls Tryz.prog 29 #[.string s, .string t] w fun e w' => e = .returned (.int .i64 ((both s.data.toList t.data.toList : Nat) : Int)) ∧ w = w' := by
  have HS := Lib.hid (refcheck_any s w hs)
  have HT := Lib.hid (refcheck_any t w ht)
  by_cases h : chk s.data.toList = 0
  · have HB := Lib.hid (show chk t.data.toList = both s.data.toList t.data.toList by rw [both, if_pos h])
    rw [h] at HS
    clear h
    go_enter Tryz.func29, Tryz.ntmps29
    go_wp2_with fail
    refine HS.out.mono ?_
    rintro e w1 ⟨rfl, rfl⟩
    go_wp2_with fail
    refine HT.out.mono ?_
    rintro e w1 ⟨rfl, rfl⟩
    go_wp2_with fail
    go_ret
    exact ⟨ret_int (by rw [HB.out]), rfl⟩
  · have HB := Lib.hid (show chk s.data.toList = both s.data.toList t.data.toList by rw [both, if_neg h])
    have hz : (((chk s.data.toList : Nat) : Int) != 0) = true := by rw [bne_iff_ne]; omega
    clear h
    go_enter Tryz.func29, Tryz.ntmps29
    go_wp2_with fail
    refine HS.out.mono ?_
    rintro e w1 ⟨rfl, rfl⟩
    go_wp2_with fail
    go_ret
    exact ⟨ret_int (by rw [HB.out]), rfl⟩

theorem iboth_ok (a b : Nat) (ha : Ok a) (hb : Ok b) (w : World) :
    Calls Tryz.prog 29 #[.string (dstr a), .string (dstr b)] w fun e w' => e = .returned (.int .i64 0) ∧ w = w' := by
  have h := iboth_any (dstr a) (dstr b) w (small_str ha) (small_str hb)
  rw [dstr_list, dstr_list, both_ok ha hb] at h
  exact h

set_option maxHeartbeats 800000 in
theorem iAdd_bad (s t : ByteArray) (hs : s.size ≤ 140737488351232) (ht : t.size ≤ 140737488351232) (hb : both s.data.toList t.data.toList ≠ 0) (w : World) :
    Calls Tryz.prog 7 #[.string s, .string t] w fun e w' => e = .returned (.tuple #[.string ⟨#[]⟩, .int .i64 ((both s.data.toList t.data.toList : Nat) : Int)]) ∧ Below w.heap.size w w' := by
  have hz : (((both s.data.toList t.data.toList : Nat) : Int) != 0) = true := by rw [bne_iff_ne]; omega
  have HCA := Lib.hid (iboth_any s t w hs ht)
  clear hb
  go_enter Tryz.func7, Tryz.ntmps7
  go_wp2_with fail
  refine HCA.out.mono ?_
  rintro e w1 ⟨rfl, rfl⟩
  go_wp2_with fail
  go_ret2
  exact ⟨rfl, Below.refl _ _⟩

set_option maxHeartbeats 800000 in
theorem iSub_bad (s t : ByteArray) (hs : s.size ≤ 140737488351232) (ht : t.size ≤ 140737488351232) (hb : both s.data.toList t.data.toList ≠ 0) (w : World) :
    Calls Tryz.prog 9 #[.string s, .string t] w fun e w' => e = .returned (.tuple #[.string ⟨#[]⟩, .int .i64 ((both s.data.toList t.data.toList : Nat) : Int)]) ∧ Below w.heap.size w w' := by
  have hz : (((both s.data.toList t.data.toList : Nat) : Int) != 0) = true := by rw [bne_iff_ne]; omega
  have HCA := Lib.hid (iboth_any s t w hs ht)
  clear hb
  go_enter Tryz.func9, Tryz.ntmps9
  go_wp2_with fail
  refine HCA.out.mono ?_
  rintro e w1 ⟨rfl, rfl⟩
  go_wp2_with fail
  go_ret2
  exact ⟨rfl, Below.refl _ _⟩

set_option maxHeartbeats 800000 in
theorem iMul_bad (s t : ByteArray) (hs : s.size ≤ 140737488351232) (ht : t.size ≤ 140737488351232) (hb : both s.data.toList t.data.toList ≠ 0) (w : World) :
    Calls Tryz.prog 11 #[.string s, .string t] w fun e w' => e = .returned (.tuple #[.string ⟨#[]⟩, .int .i64 ((both s.data.toList t.data.toList : Nat) : Int)]) ∧ Below w.heap.size w w' := by
  have hz : (((both s.data.toList t.data.toList : Nat) : Int) != 0) = true := by rw [bne_iff_ne]; omega
  have HCA := Lib.hid (iboth_any s t w hs ht)
  clear hb
  go_enter Tryz.func11, Tryz.ntmps11
  go_wp2_with fail
  refine HCA.out.mono ?_
  rintro e w1 ⟨rfl, rfl⟩
  go_wp2_with fail
  go_ret2
  exact ⟨rfl, Below.refl _ _⟩

set_option maxHeartbeats 800000 in
theorem iGcd_bad (s t : ByteArray) (hs : s.size ≤ 140737488351232) (ht : t.size ≤ 140737488351232) (hb : both s.data.toList t.data.toList ≠ 0) (w : World) :
    Calls Tryz.prog 15 #[.string s, .string t] w fun e w' => e = .returned (.tuple #[.string ⟨#[]⟩, .int .i64 ((both s.data.toList t.data.toList : Nat) : Int)]) ∧ Below w.heap.size w w' := by
  have hz : (((both s.data.toList t.data.toList : Nat) : Int) != 0) = true := by rw [bne_iff_ne]; omega
  have HCA := Lib.hid (iboth_any s t w hs ht)
  clear hb
  go_enter Tryz.func15, Tryz.ntmps15
  go_wp2_with fail
  refine HCA.out.mono ?_
  rintro e w1 ⟨rfl, rfl⟩
  go_wp2_with fail
  go_ret2
  exact ⟨rfl, Below.refl _ _⟩

set_option maxHeartbeats 800000 in
theorem iDivMod_bad (s t : ByteArray) (hs : s.size ≤ 140737488351232) (ht : t.size ≤ 140737488351232) (hb : both s.data.toList t.data.toList ≠ 0) (w : World) :
    Calls Tryz.prog 13 #[.string s, .string t] w fun e w' => e = .returned (.tuple #[.string ⟨#[]⟩, .string ⟨#[]⟩, .int .i64 ((both s.data.toList t.data.toList : Nat) : Int)]) ∧ Below w.heap.size w w' := by
  have hz : (((both s.data.toList t.data.toList : Nat) : Int) != 0) = true := by rw [bne_iff_ne]; omega
  have HCA := Lib.hid (iboth_any s t w hs ht)
  clear hb
  go_enter Tryz.func13, Tryz.ntmps13
  go_wp2_with fail
  refine HCA.out.mono ?_
  rintro e w1 ⟨rfl, rfl⟩
  go_wp2_with fail
  go_ret3
  exact ⟨rfl, Below.refl _ _⟩

set_option maxHeartbeats 800000 in
theorem iCmp_bad (s t : ByteArray) (hs : s.size ≤ 140737488351232) (ht : t.size ≤ 140737488351232) (hb : both s.data.toList t.data.toList ≠ 0) (w : World) :
    Calls Tryz.prog 23 #[.string s, .string t] w fun e w' => e = .returned (.int .i64 0) ∧ Below w.heap.size w w' := by
  have hz : (((both s.data.toList t.data.toList : Nat) : Int) != 0) = true := by rw [bne_iff_ne]; omega
  have HCA := Lib.hid (iboth_any s t w hs ht)
  clear hb
  go_enter Tryz.func23, Tryz.ntmps23
  go_wp2_with fail
  refine HCA.out.mono ?_
  rintro e w1 ⟨rfl, rfl⟩
  go_wp2_with fail
  go_ret
  exact ⟨rfl, Below.refl _ _⟩

set_option maxHeartbeats 1600000 in
set_option maxRecDepth 100000 in
theorem iAdd (a b : Nat) (ha : Ok a) (hb : Ok b) (w : World) :
    Calls Tryz.prog 7 #[.string (dstr a), .string (dstr b)] w fun e w' => e = .returned (.tuple #[.string (outR (a + b)).1, .int .i64 ((outR (a + b)).2 : Int)]) ∧ Below w.heap.size w w' := by
  have hla := ha.ln
  have hlb := hb.ln
  have HC := Lib.hid (iboth_ok a b ha hb w)
  have HRA := Lib.hid (fun W => iread_dec a ha W)
  have HRB := Lib.hid (fun W => iread_dec b hb W)
  have hls : ln (a + b) ≤ 446 := ln_add_le hla hlb
  go_enter Tryz.func7, Tryz.ntmps7
  go_wp2_with fail
  refine HC.out.mono ?_
  rintro e w1 ⟨rfl, rfl⟩
  go_wp2_with fail
  refine (HRA.out _).mono ?_
  rintro e w2 ⟨x, rfl, hx, hb2⟩
  have HX2 := Lib.hid hx
  have HB2 := Lib.hid hb2
  clear hx hb2
  go_wp2_with fail
  refine (HRB.out _).mono ?_
  rintro e w3 ⟨y, rfl, hy, hb3⟩
  have HY := Lib.hid hy
  have HX := Lib.hid (HX2.out.below hb3)
  have HB3 := Lib.hid (HB2.out.trans (hb3.mono HB2.out.size))
  clear hy hb3
  have HP := Lib.hid (iplus_any HX.out HY.out (by omega) (by omega) (by omega))
  go_wp2_with fail
  refine HP.out.mono ?_
  rintro e w4 ⟨z, rfl, hz, hb4⟩
  have HN := Lib.hid (inumber_any hz (by omega))
  have HB4 := Lib.hid (HB3.out.trans (hb4.mono HB3.out.size))
  clear hz hb4
  go_wp2_with fail
  refine HN.out.mono ?_
  rintro e w5 ⟨rfl, hb5⟩
  have HB5 := Lib.hid (HB4.out.trans (hb5.mono HB4.out.size))
  clear hb5
  go_wp2_with fail
  go_ret2
  exact ⟨rfl, HB5.out⟩

set_option maxHeartbeats 1600000 in
set_option maxRecDepth 100000 in
theorem iMul (a b : Nat) (ha : Ok a) (hb : Ok b) (w : World) :
    Calls Tryz.prog 11 #[.string (dstr a), .string (dstr b)] w fun e w' => e = .returned (.tuple #[.string (outR (a * b)).1, .int .i64 ((outR (a * b)).2 : Int)]) ∧ Below w.heap.size w w' := by
  have hla := ha.ln
  have hlb := hb.ln
  have HC := Lib.hid (iboth_ok a b ha hb w)
  have HRA := Lib.hid (fun W => iread_dec a ha W)
  have HRB := Lib.hid (fun W => iread_dec b hb W)
  have hls : ln (a * b) ≤ 890 := Nat.le_trans (ln_le (mul_lt_pow (lt_pow_ln a) (lt_pow_ln b))) (by omega)
  go_enter Tryz.func11, Tryz.ntmps11
  go_wp2_with fail
  refine HC.out.mono ?_
  rintro e w1 ⟨rfl, rfl⟩
  go_wp2_with fail
  refine (HRA.out _).mono ?_
  rintro e w2 ⟨x, rfl, hx, hb2⟩
  have HX2 := Lib.hid hx
  have HB2 := Lib.hid hb2
  clear hx hb2
  go_wp2_with fail
  refine (HRB.out _).mono ?_
  rintro e w3 ⟨y, rfl, hy, hb3⟩
  have HY := Lib.hid hy
  have HX := Lib.hid (HX2.out.below hb3)
  have HB3 := Lib.hid (HB2.out.trans (hb3.mono HB2.out.size))
  clear hy hb3
  have HP := Lib.hid (itimes_any HX.out HY.out (by omega) (by omega))
  go_wp2_with fail
  refine HP.out.mono ?_
  rintro e w4 ⟨z, rfl, hz, hb4⟩
  have HN := Lib.hid (inumber_any hz (by omega))
  have HB4 := Lib.hid (HB3.out.trans (hb4.mono HB3.out.size))
  clear hz hb4
  go_wp2_with fail
  refine HN.out.mono ?_
  rintro e w5 ⟨rfl, hb5⟩
  have HB5 := Lib.hid (HB4.out.trans (hb5.mono HB4.out.size))
  clear hb5
  go_wp2_with fail
  go_ret2
  exact ⟨rfl, HB5.out⟩

set_option maxHeartbeats 1600000 in
set_option maxRecDepth 100000 in
theorem iGcd (a b : Nat) (ha : Ok a) (hb : Ok b) (w : World) :
    Calls Tryz.prog 15 #[.string (dstr a), .string (dstr b)] w fun e w' => e = .returned (.tuple #[.string (outR (Nat.gcd a b)).1, .int .i64 ((outR (Nat.gcd a b)).2 : Int)]) ∧ Below w.heap.size w w' := by
  have hla := ha.ln
  have hlb := hb.ln
  have HC := Lib.hid (iboth_ok a b ha hb w)
  have HRA := Lib.hid (fun W => iread_dec a ha W)
  have HRB := Lib.hid (fun W => iread_dec b hb W)
  have hls : ln (Nat.gcd a b) ≤ 890 := by
    by_cases h : a = 0
    · rw [h, Nat.gcd_zero_left]; omega
    · have := ln_mono (Nat.le_of_dvd (Nat.pos_of_ne_zero h) (Nat.gcd_dvd_left a b)); omega
  go_enter Tryz.func15, Tryz.ntmps15
  go_wp2_with fail
  refine HC.out.mono ?_
  rintro e w1 ⟨rfl, rfl⟩
  go_wp2_with fail
  refine (HRA.out _).mono ?_
  rintro e w2 ⟨x, rfl, hx, hb2⟩
  have HX2 := Lib.hid hx
  have HB2 := Lib.hid hb2
  clear hx hb2
  go_wp2_with fail
  refine (HRB.out _).mono ?_
  rintro e w3 ⟨y, rfl, hy, hb3⟩
  have HY := Lib.hid hy
  have HX := Lib.hid (HX2.out.below hb3)
  have HB3 := Lib.hid (HB2.out.trans (hb3.mono HB2.out.size))
  clear hy hb3
  have HP := Lib.hid (icommon_any HX.out HY.out (by omega) (by omega))
  go_wp2_with fail
  refine HP.out.mono ?_
  rintro e w4 ⟨z, rfl, hz, hb4⟩
  have HN := Lib.hid (inumber_any hz (by omega))
  have HB4 := Lib.hid (HB3.out.trans (hb4.mono HB3.out.size))
  clear hz hb4
  go_wp2_with fail
  refine HN.out.mono ?_
  rintro e w5 ⟨rfl, hb5⟩
  have HB5 := Lib.hid (HB4.out.trans (hb5.mono HB4.out.size))
  clear hb5
  go_wp2_with fail
  go_ret2
  exact ⟨rfl, HB5.out⟩

set_option maxHeartbeats 1600000 in
set_option maxRecDepth 100000 in
theorem iCmp (a b : Nat) (ha : Ok a) (hb : Ok b) (w : World) :
    Calls Tryz.prog 23 #[.string (dstr a), .string (dstr b)] w fun e w' => e = .returned (.int .i64 (cmpN a b)) ∧ Below w.heap.size w w' := by
  have hla := ha.ln
  have hlb := hb.ln
  have HC := Lib.hid (iboth_ok a b ha hb w)
  have HRA := Lib.hid (fun W => iread_dec a ha W)
  have HRB := Lib.hid (fun W => iread_dec b hb W)
  go_enter Tryz.func23, Tryz.ntmps23
  go_wp2_with fail
  refine HC.out.mono ?_
  rintro e w1 ⟨rfl, rfl⟩
  go_wp2_with fail
  refine (HRA.out _).mono ?_
  rintro e w2 ⟨x, rfl, hx, hb2⟩
  have HX2 := Lib.hid hx
  have HB2 := Lib.hid hb2
  clear hx hb2
  go_wp2_with fail
  refine (HRB.out _).mono ?_
  rintro e w3 ⟨y, rfl, hy, hb3⟩
  have HY := Lib.hid hy
  have HX := Lib.hid (HX2.out.below hb3)
  have HB3 := Lib.hid (HB2.out.trans (hb3.mono HB2.out.size))
  clear hy hb3
  have HP := Lib.hid (iorder_any HX.out HY.out (by omega) (by omega))
  go_wp2_with fail
  refine HP.out.mono ?_
  rintro e w4 ⟨rfl, hb4⟩
  have HB4 := Lib.hid (HB3.out.trans (hb4.mono HB3.out.size))
  clear hb4
  go_wp2_with fail
  go_ret
  exact ⟨rfl, HB4.out⟩

set_option maxHeartbeats 1600000 in
set_option maxRecDepth 100000 in
theorem iSub_low (a b : Nat) (ha : Ok a) (hb : Ok b) (hab : a < b) (w : World) :
    Calls Tryz.prog 9 #[.string (dstr a), .string (dstr b)] w fun e w' => e = .returned (.tuple #[.string ⟨#[]⟩, .int .i64 2]) ∧ Below w.heap.size w w' := by
  have hla := ha.ln
  have hlb := hb.ln
  have HC := Lib.hid (iboth_ok a b ha hb w)
  have HRA := Lib.hid (fun W => iread_dec a ha W)
  have HRB := Lib.hid (fun W => iread_dec b hb W)
  have hlow := cmpN_low hab
  clear hab
  go_enter Tryz.func9, Tryz.ntmps9
  go_wp2_with fail
  refine HC.out.mono ?_
  rintro e w1 ⟨rfl, rfl⟩
  go_wp2_with fail
  refine (HRA.out _).mono ?_
  rintro e w2 ⟨x, rfl, hx, hb2⟩
  have HX2 := Lib.hid hx
  have HB2 := Lib.hid hb2
  clear hx hb2
  go_wp2_with fail
  refine (HRB.out _).mono ?_
  rintro e w3 ⟨y, rfl, hy, hb3⟩
  have HY := Lib.hid hy
  have HX := Lib.hid (HX2.out.below hb3)
  have HB3 := Lib.hid (HB2.out.trans (hb3.mono HB2.out.size))
  clear hy hb3
  have HP := Lib.hid (iorder_any HX.out HY.out (by omega) (by omega))
  go_wp2_with fail
  refine HP.out.mono ?_
  rintro e w4 ⟨rfl, hb4⟩
  have HB4 := Lib.hid (HB3.out.trans (hb4.mono HB3.out.size))
  clear hb4
  go_wp2_with fail
  go_ret2
  exact ⟨rfl, HB4.out⟩

set_option maxHeartbeats 1600000 in
set_option maxRecDepth 100000 in
theorem iSub_ok (a b : Nat) (ha : Ok a) (hb : Ok b) (hba : b ≤ a) (w : World) :
    Calls Tryz.prog 9 #[.string (dstr a), .string (dstr b)] w fun e w' => e = .returned (.tuple #[.string (outR (a - b)).1, .int .i64 ((outR (a - b)).2 : Int)]) ∧ Below w.heap.size w w' := by
  have hla := ha.ln
  have hlb := hb.ln
  have HC := Lib.hid (iboth_ok a b ha hb w)
  have HRA := Lib.hid (fun W => iread_dec a ha W)
  have HRB := Lib.hid (fun W => iread_dec b hb W)
  have hhigh := cmpN_high hba
  have hls : ln (a - b) ≤ 445 := Nat.le_trans (ln_mono (Nat.sub_le a b)) hla
  have HBA := Lib.hid hba
  clear hba
  go_enter Tryz.func9, Tryz.ntmps9
  go_wp2_with fail
  refine HC.out.mono ?_
  rintro e w1 ⟨rfl, rfl⟩
  go_wp2_with fail
  refine (HRA.out _).mono ?_
  rintro e w2 ⟨x, rfl, hx, hb2⟩
  have HX2 := Lib.hid hx
  have HB2 := Lib.hid hb2
  clear hx hb2
  go_wp2_with fail
  refine (HRB.out _).mono ?_
  rintro e w3 ⟨y, rfl, hy, hb3⟩
  have HY := Lib.hid hy
  have HX := Lib.hid (HX2.out.below hb3)
  have HB3 := Lib.hid (HB2.out.trans (hb3.mono HB2.out.size))
  clear hy hb3
  have HO := Lib.hid (iorder_any HX.out HY.out (by omega) (by omega))
  go_wp2_with fail
  refine HO.out.mono ?_
  rintro e w6 ⟨rfl, hb6⟩
  have HP := Lib.hid (iminus_any (HX.out.below hb6) (HY.out.below hb6) (by omega) HBA.out)
  have HB6 := Lib.hid (HB3.out.trans (hb6.mono HB3.out.size))
  clear hb6 HB3
  have HB3 := HB6
  go_wp2_with fail
  refine HP.out.mono ?_
  rintro e w4 ⟨z, rfl, hz, hb4⟩
  have HN := Lib.hid (inumber_any hz (by omega))
  have HB4 := Lib.hid (HB3.out.trans (hb4.mono HB3.out.size))
  clear hz hb4
  go_wp2_with fail
  refine HN.out.mono ?_
  rintro e w5 ⟨rfl, hb5⟩
  have HB5 := Lib.hid (HB4.out.trans (hb5.mono HB4.out.size))
  clear hb5
  go_wp2_with fail
  go_ret2
  exact ⟨rfl, HB5.out⟩

set_option maxHeartbeats 1600000 in
set_option maxRecDepth 100000 in
theorem iDivMod_zero (a : Nat) (ha : Ok a) (w : World) :
    Calls Tryz.prog 13 #[.string (dstr a), .string (dstr 0)] w fun e w' => e = .returned (.tuple #[.string ⟨#[]⟩, .string ⟨#[]⟩, .int .i64 6]) ∧ Below w.heap.size w w' := by
  have HC := Lib.hid (iboth_ok a 0 ha zero_ok w)
  have hz : ((dstr 0).toList == [48]) = true := by rw [Go.Lib.toList_data, dstr_list, dec_small (by omega)]; rfl
  go_enter Tryz.func13, Tryz.ntmps13
  go_wp2_with fail
  refine HC.out.mono ?_
  rintro e w1 ⟨rfl, rfl⟩
  go_wp2_with fail
  go_ret3
  exact ⟨rfl, Below.refl _ _⟩

set_option maxHeartbeats 1600000 in
set_option maxRecDepth 100000 in
theorem iDivMod_ok (a b : Nat) (ha : Ok a) (hb : Ok b) (hb0 : b ≠ 0) (w : World) :
    Calls Tryz.prog 13 #[.string (dstr a), .string (dstr b)] w fun e w' => e = .returned (.tuple #[.string (dstr (a / b)), .string (dstr (a % b)), .int .i64 0]) ∧ Below w.heap.size w w' := by
  have hla := ha.ln
  have hlb := hb.ln
  have HC := Lib.hid (iboth_ok a b ha hb w)
  have HRA := Lib.hid (fun W => iread_dec a ha W)
  have HRB := Lib.hid (fun W => iread_dec b hb W)
  have hz : ((dstr b).toList == [48]) = false := dstr_ne_zero hb0
  have hlq : ln (a / b) ≤ 445 := Nat.le_trans (ln_mono (Nat.div_le_self a b)) hla
  have hlr : ln (a % b) ≤ 445 := Nat.le_trans (ln_mono (Nat.mod_le a b)) hla
  have HB0 := Lib.hid hb0
  clear hb0
  go_enter Tryz.func13, Tryz.ntmps13
  go_wp2_with fail
  refine HC.out.mono ?_
  rintro e w1 ⟨rfl, rfl⟩
  go_wp2_with fail
  refine (HRA.out _).mono ?_
  rintro e w2 ⟨x, rfl, hx, hb2⟩
  have HX2 := Lib.hid hx
  have HB2 := Lib.hid hb2
  clear hx hb2
  go_wp2_with fail
  refine (HRB.out _).mono ?_
  rintro e w3 ⟨y, rfl, hy, hb3⟩
  have HY := Lib.hid hy
  have HX := Lib.hid (HX2.out.below hb3)
  have HB3 := Lib.hid (HB2.out.trans (hb3.mono HB2.out.size))
  clear hy hb3
  have HP := Lib.hid (idivide_any HX.out HY.out (by omega) (by omega) HB0.out)
  go_wp2_with fail
  refine HP.out.mono ?_
  rintro e w4 ⟨q, r, rfl, hq, hr, hb4⟩
  have HR := Lib.hid hr
  have HWQ := Lib.hid (iwrite_any hq (by omega))
  have HB4 := Lib.hid (HB3.out.trans (hb4.mono HB3.out.size))
  clear hq hr hb4
  go_wp2_with fail
  refine HWQ.out.mono ?_
  rintro e w5 ⟨rfl, hb5⟩
  have HWR := Lib.hid (iwrite_any (HR.out.below hb5) (by omega))
  have HB5 := Lib.hid (HB4.out.trans (hb5.mono HB4.out.size))
  clear hb5
  go_wp2_with fail
  refine HWR.out.mono ?_
  rintro e w6 ⟨rfl, hb6⟩
  have HB6 := Lib.hid (HB5.out.trans (hb6.mono HB5.out.size))
  clear hb6
  go_wp2_with fail
  go_ret3
  exact ⟨rfl, HB6.out⟩

end Go.Proofs.YtiocehlefpbbhaaGreatDoor

namespace Go.Proofs.YtiocehlefpbbhaaGreatDoor
open Go.RowKit NV
open Go.Lib (decDigits)

set_option maxHeartbeats 800000 in
theorem nAdd_bad (s t : ByteArray) (hs : s.size ≤ 140737488351232) (ht : t.size ≤ 140737488351232) (hb : both s.data.toList t.data.toList ≠ 0) (w : World) :
    Calls Tryz.prog 6 #[.string s, .string t] w fun e w' => e = .returned (.tuple #[.string ⟨#[]⟩, .int .i64 ((both s.data.toList t.data.toList : Nat) : Int)]) ∧ Below w.heap.size w w' := by
  have hz : (((both s.data.toList t.data.toList : Nat) : Int) != 0) = true := by rw [bne_iff_ne]; omega
  have HCA := Lib.hid (checkAll_any s t (w.alloc (.cells #[.string s, .string t] 22)) w.heap.size hs ht (two_cells s t _).1 (two_cells s t _).2)
  clear hb
  go_enter Tryz.func6, Tryz.ntmps6
  go_wp2_with fail
  refine HCA.out.mono ?_
  rintro e w1 ⟨rfl, rfl⟩
  go_wp2_with fail
  go_ret2
  exact ⟨rfl, (Below.refl _ _).alloc (Nat.le_refl _) _⟩

set_option maxHeartbeats 800000 in
theorem nSub_bad (s t : ByteArray) (hs : s.size ≤ 140737488351232) (ht : t.size ≤ 140737488351232) (hb : both s.data.toList t.data.toList ≠ 0) (w : World) :
    Calls Tryz.prog 8 #[.string s, .string t] w fun e w' => e = .returned (.tuple #[.string ⟨#[]⟩, .int .i64 ((both s.data.toList t.data.toList : Nat) : Int)]) ∧ Below w.heap.size w w' := by
  have hz : (((both s.data.toList t.data.toList : Nat) : Int) != 0) = true := by rw [bne_iff_ne]; omega
  have HCA := Lib.hid (checkAll_any s t (w.alloc (.cells #[.string s, .string t] 22)) w.heap.size hs ht (two_cells s t _).1 (two_cells s t _).2)
  clear hb
  go_enter Tryz.func8, Tryz.ntmps8
  go_wp2_with fail
  refine HCA.out.mono ?_
  rintro e w1 ⟨rfl, rfl⟩
  go_wp2_with fail
  go_ret2
  exact ⟨rfl, (Below.refl _ _).alloc (Nat.le_refl _) _⟩

set_option maxHeartbeats 800000 in
theorem nMul_bad (s t : ByteArray) (hs : s.size ≤ 140737488351232) (ht : t.size ≤ 140737488351232) (hb : both s.data.toList t.data.toList ≠ 0) (w : World) :
    Calls Tryz.prog 10 #[.string s, .string t] w fun e w' => e = .returned (.tuple #[.string ⟨#[]⟩, .int .i64 ((both s.data.toList t.data.toList : Nat) : Int)]) ∧ Below w.heap.size w w' := by
  have hz : (((both s.data.toList t.data.toList : Nat) : Int) != 0) = true := by rw [bne_iff_ne]; omega
  have HCA := Lib.hid (checkAll_any s t (w.alloc (.cells #[.string s, .string t] 22)) w.heap.size hs ht (two_cells s t _).1 (two_cells s t _).2)
  clear hb
  go_enter Tryz.func10, Tryz.ntmps10
  go_wp2_with fail
  refine HCA.out.mono ?_
  rintro e w1 ⟨rfl, rfl⟩
  go_wp2_with fail
  go_ret2
  exact ⟨rfl, (Below.refl _ _).alloc (Nat.le_refl _) _⟩

set_option maxHeartbeats 800000 in
theorem nGcd_bad (s t : ByteArray) (hs : s.size ≤ 140737488351232) (ht : t.size ≤ 140737488351232) (hb : both s.data.toList t.data.toList ≠ 0) (w : World) :
    Calls Tryz.prog 14 #[.string s, .string t] w fun e w' => e = .returned (.tuple #[.string ⟨#[]⟩, .int .i64 ((both s.data.toList t.data.toList : Nat) : Int)]) ∧ Below w.heap.size w w' := by
  have hz : (((both s.data.toList t.data.toList : Nat) : Int) != 0) = true := by rw [bne_iff_ne]; omega
  have HCA := Lib.hid (checkAll_any s t (w.alloc (.cells #[.string s, .string t] 22)) w.heap.size hs ht (two_cells s t _).1 (two_cells s t _).2)
  clear hb
  go_enter Tryz.func14, Tryz.ntmps14
  go_wp2_with fail
  refine HCA.out.mono ?_
  rintro e w1 ⟨rfl, rfl⟩
  go_wp2_with fail
  go_ret2
  exact ⟨rfl, (Below.refl _ _).alloc (Nat.le_refl _) _⟩

set_option maxHeartbeats 800000 in
theorem nDivMod_bad (s t : ByteArray) (hs : s.size ≤ 140737488351232) (ht : t.size ≤ 140737488351232) (hb : both s.data.toList t.data.toList ≠ 0) (w : World) :
    Calls Tryz.prog 12 #[.string s, .string t] w fun e w' => e = .returned (.tuple #[.string ⟨#[]⟩, .string ⟨#[]⟩, .int .i64 ((both s.data.toList t.data.toList : Nat) : Int)]) ∧ Below w.heap.size w w' := by
  have hz : (((both s.data.toList t.data.toList : Nat) : Int) != 0) = true := by rw [bne_iff_ne]; omega
  have HCA := Lib.hid (checkAll_any s t (w.alloc (.cells #[.string s, .string t] 22)) w.heap.size hs ht (two_cells s t _).1 (two_cells s t _).2)
  clear hb
  go_enter Tryz.func12, Tryz.ntmps12
  go_wp2_with fail
  refine HCA.out.mono ?_
  rintro e w1 ⟨rfl, rfl⟩
  go_wp2_with fail
  go_ret3
  exact ⟨rfl, (Below.refl _ _).alloc (Nat.le_refl _) _⟩

set_option maxHeartbeats 800000 in
theorem nToInt_bad (s : ByteArray) (hs : s.size ≤ 140737488351232) (hb : chk s.data.toList ≠ 0) (w : World) :
    Calls Tryz.prog 16 #[.string s] w fun e w' => e = .returned (.tuple #[.int .i64 0, .int .i64 ((chk s.data.toList : Nat) : Int)]) ∧ Below w.heap.size w w' := by
  have hz : (((chk s.data.toList : Nat) : Int) != 0) = true := by rw [bne_iff_ne]; omega
  have HCA := Lib.hid (check_any s w hs)
  clear hb
  go_enter Tryz.func16, Tryz.ntmps16
  go_wp2_with fail
  refine HCA.out.mono ?_
  rintro e w1 ⟨rfl, rfl⟩
  go_wp2_with fail
  go_ret2
  exact ⟨rfl, Below.refl _ _⟩

set_option maxHeartbeats 800000 in
theorem nBits_bad (s : ByteArray) (hs : s.size ≤ 140737488351232) (hb : chk s.data.toList ≠ 0) (w : World) :
    Calls Tryz.prog 18 #[.string s] w fun e w' => e = .returned (.tuple #[.int .i64 0, .int .i64 ((chk s.data.toList : Nat) : Int)]) ∧ Below w.heap.size w w' := by
  have hz : (((chk s.data.toList : Nat) : Int) != 0) = true := by rw [bne_iff_ne]; omega
  have HCA := Lib.hid (check_any s w hs)
  clear hb
  go_enter Tryz.func18, Tryz.ntmps18
  go_wp2_with fail
  refine HCA.out.mono ?_
  rintro e w1 ⟨rfl, rfl⟩
  go_wp2_with fail
  go_ret2
  exact ⟨rfl, Below.refl _ _⟩

set_option maxHeartbeats 1600000 in
set_option maxRecDepth 100000 in
theorem Mul_over (a b : Nat) (ha : Ok a) (hb : Ok b) (hab : ¬ Ok (a * b)) (w : World) :
    Calls Tryz.prog 10 #[.string (dstr a), .string (dstr b)] w fun e w' => e = .returned (.tuple #[.string ⟨#[]⟩, .int .i64 5]) ∧ Below w.heap.size w w' := by
  have hla := ha.ln
  have hlb := hb.ln
  have hlm : ln (a * b) ≤ 890 := Nat.le_trans (ln_le (mul_lt_pow (lt_pow_ln a) (lt_pow_ln b))) (by omega)
  go_enter Tryz.func10, Tryz.ntmps10
  go_wp2_with fail
  refine (checkAll_ok a b ha hb w _).mono ?_
  rintro e w1 ⟨rfl, rfl⟩
  go_wp2_with fail
  have hb1 : Below w.heap.size w (w.alloc (.cells #[.string (dstr a), .string (dstr b)] 22)) := (Below.refl _ _).alloc (Nat.le_refl _) _
  have HB1 := Lib.hid hb1
  generalize w.alloc (.cells #[.string (dstr a), .string (dstr b)] 22) = w1 at HB1 ⊢
  clear hb1
  refine (parse_dec a ha w1).mono ?_
  rintro e w2 ⟨x, rfl, hx, hb2⟩
  have HX := Lib.hid hx.num
  have HB2 := Lib.hid hb2
  clear hx hb2
  go_wp2_with fail
  refine (parse_dec b hb w2).mono ?_
  rintro e w3 ⟨y, rfl, hy, hb3⟩
  have HP := Lib.hid (times_any (HX.out.below hb3) hy.num (by omega) (by omega))
  have HB3 := Lib.hid (HB1.out.trans ((HB2.out.mono HB1.out.size).trans (hb3.mono (Nat.le_trans HB1.out.size HB2.out.size))))
  clear hy hb3 HB2 HX
  go_wp2_with fail
  refine HP.out.mono ?_
  rintro e w4 ⟨z, rfl, hz, hb4⟩
  have hb5 := HB3.out.trans (hb4.mono HB3.out.size)
  have HR := Lib.hid (result_over hz hab (by omega))
  have HB4 := Lib.hid hb5
  clear hz hb4 hb5 HP
  go_wp2_with fail
  refine HR.out.mono ?_
  rintro e w5 ⟨rfl, rfl⟩
  go_wp2_with fail
  go_ret2
  exact ⟨rfl, HB4.out⟩


theorem parse_or : ∀ (l : List UInt8) (acc : Nat), Digs l → Lib.parseUint10 acc l = .range ∨ Lib.parseUint10 acc l = .ok (acc * 10 ^ l.length + dv l)
  | [], acc, _ => .inr (by simp [Lib.parseUint10, dv_nil])
  | c :: r, acc, hd => by
    have hc := hd c (by simp)
    have hr : Digs r := fun x hx => hd x (by simp [hx])
    have e : acc * 10 ^ (c :: r).length + dv (c :: r) = (acc * 10 + (c.toNat - 48)) * 10 ^ r.length + dv r := by
      rw [dv_cons, List.length_cons, Nat.pow_succ, Nat.add_mul]
      have : acc * (10 ^ r.length * 10) = acc * 10 * 10 ^ r.length := by rw [Nat.mul_comm (10 ^ r.length) 10, Nat.mul_assoc]
      omega
    rw [e, Lib.parseUint10, if_pos hc]
    split
    · exact .inl rfl
    · split
      · exact .inl rfl
      · exact parse_or r _ hr

theorem atoi_big (n : Nat) (hn : 9223372036854775807 < n) : Lib.atoiAll (decDigits n) = .range := by
  have hd := digs_dec n
  have hv := dv_dec n
  have hp := parse_or (decDigits n) 0 hd
  rw [hv, Nat.zero_mul, Nat.zero_add] at hp
  cases hl : decDigits n with
  | nil => have := dec_len_pos n; rw [hl] at this; simp at this
  | cons c r =>
    rw [hl] at hd hp
    have hc := hd c (by simp)
    have h43 : ¬ (c.toNat = 43 ∨ c.toNat = 45) := by omega
    have h45 : ¬ c.toNat = 45 := by omega
    have hne : ¬ (c :: r = []) := by simp
    rcases hp with hp | hp
    · simp only [Lib.atoiAll, if_neg h43, Lib.parseMag, if_neg hne, hp]
    · simp only [Lib.atoiAll, if_neg h43, Lib.parseMag, if_neg hne, hp]
      rw [if_pos ⟨h45, by omega⟩]

/-! ### What the functions of two texts and of one return -/

def twoR (s t : ByteArray) (r : ByteArray × Nat) : ByteArray × Nat := if both s.data.toList t.data.toList = 0 then r else (⟨#[]⟩, both s.data.toList t.data.toList)
def subR (a b : Nat) : ByteArray × Nat := if a < b then (⟨#[]⟩, 2) else outR (a - b)
def divR (s t : ByteArray) : ByteArray × ByteArray × Nat :=
  if both s.data.toList t.data.toList = 0 then (if dv t.data.toList = 0 then (⟨#[]⟩, ⟨#[]⟩, 6) else (dstr (dv s.data.toList / dv t.data.toList), dstr (dv s.data.toList % dv t.data.toList), 0))
  else (⟨#[]⟩, ⟨#[]⟩, both s.data.toList t.data.toList)
def cmpR (s t : ByteArray) : Int := if both s.data.toList t.data.toList = 0 then cmpN (dv s.data.toList) (dv t.data.toList) else 0
def toIntR (s : ByteArray) : Int × Nat := if chk s.data.toList = 0 then (if 9223372036854775807 < dv s.data.toList then (0, 2) else ((dv s.data.toList : Int), 0)) else (0, chk s.data.toList)
def bitsR (s : ByteArray) : Nat × Nat := if chk s.data.toList = 0 then (bl (dv s.data.toList), 0) else (0, chk s.data.toList)

theorem both_texts {s t : ByteArray} (h : both s.data.toList t.data.toList = 0) : ∃ a b, s = dstr a ∧ t = dstr b ∧ Ok a ∧ Ok b := by
  have h1 : chk s.data.toList = 0 := by
    by_cases h1 : chk s.data.toList = 0
    · exact h1
    · rw [both, if_neg h1] at h; exact absurd h h1
  rw [both, if_pos h1] at h
  obtain ⟨a, ha, oa⟩ := text_of_chk h1
  obtain ⟨b, hb, ob⟩ := text_of_chk h
  exact ⟨a, b, ha, hb, oa, ob⟩

theorem dv_dstr (a : Nat) : dv (dstr a).data.toList = a := by rw [dstr_list, dv_dec]

theorem nAdd_any (s t : ByteArray) (hs : s.size ≤ 140737488351232) (ht : t.size ≤ 140737488351232) (w : World) (htab : Tab w) :
    Calls Tryz.prog 6 #[.string s, .string t] w fun e w' => e = .returned (.tuple #[.string (twoR s t (outR (dv s.data.toList + dv t.data.toList))).1, .int .i64 ((twoR s t (outR (dv s.data.toList + dv t.data.toList))).2 : Int)]) ∧ Below w.heap.size w w' := by
  by_cases h : both s.data.toList t.data.toList = 0
  · obtain ⟨a, b, rfl, rfl, oa, ob⟩ := both_texts h
    rw [twoR, if_pos h, dv_dstr, dv_dstr]
    by_cases hp : Ok (a + b)
    · rw [outR_yes hp]; exact Add_ok a b oa ob hp w htab
    · rw [outR_no hp]; exact Add_over a b oa ob hp w
  · rw [twoR, if_neg h]
    exact nAdd_bad s t hs ht h w

theorem nMul_any (s t : ByteArray) (hs : s.size ≤ 140737488351232) (ht : t.size ≤ 140737488351232) (w : World) (htab : Tab w) :
    Calls Tryz.prog 10 #[.string s, .string t] w fun e w' => e = .returned (.tuple #[.string (twoR s t (outR (dv s.data.toList * dv t.data.toList))).1, .int .i64 ((twoR s t (outR (dv s.data.toList * dv t.data.toList))).2 : Int)]) ∧ Below w.heap.size w w' := by
  by_cases h : both s.data.toList t.data.toList = 0
  · obtain ⟨a, b, rfl, rfl, oa, ob⟩ := both_texts h
    rw [twoR, if_pos h, dv_dstr, dv_dstr]
    by_cases hp : Ok (a * b)
    · rw [outR_yes hp]; exact Mul_ok a b oa ob hp w htab
    · rw [outR_no hp]; exact Mul_over a b oa ob hp w
  · rw [twoR, if_neg h]
    exact nMul_bad s t hs ht h w

theorem nGcd_any (s t : ByteArray) (hs : s.size ≤ 140737488351232) (ht : t.size ≤ 140737488351232) (w : World) (htab : Tab w) :
    Calls Tryz.prog 14 #[.string s, .string t] w fun e w' => e = .returned (.tuple #[.string (twoR s t (outR (Nat.gcd (dv s.data.toList) (dv t.data.toList)))).1, .int .i64 ((twoR s t (outR (Nat.gcd (dv s.data.toList) (dv t.data.toList)))).2 : Int)]) ∧ Below w.heap.size w w' := by
  by_cases h : both s.data.toList t.data.toList = 0
  · obtain ⟨a, b, rfl, rfl, oa, ob⟩ := both_texts h
    rw [twoR, if_pos h, dv_dstr, dv_dstr]
    have hp : Ok (Nat.gcd a b) := by
      by_cases h0 : a = 0
      · rw [h0, Nat.gcd_zero_left]; exact ob
      · exact oa.mono (Nat.le_of_dvd (Nat.pos_of_ne_zero h0) (Nat.gcd_dvd_left a b))
    rw [outR_yes hp]; exact Gcd_ok a b oa ob w htab
  · rw [twoR, if_neg h]
    exact nGcd_bad s t hs ht h w

theorem nSub_any (s t : ByteArray) (hs : s.size ≤ 140737488351232) (ht : t.size ≤ 140737488351232) (w : World) (htab : Tab w) :
    Calls Tryz.prog 8 #[.string s, .string t] w fun e w' => e = .returned (.tuple #[.string (twoR s t (subR (dv s.data.toList) (dv t.data.toList))).1, .int .i64 ((twoR s t (subR (dv s.data.toList) (dv t.data.toList))).2 : Int)]) ∧ Below w.heap.size w w' := by
  by_cases h : both s.data.toList t.data.toList = 0
  · obtain ⟨a, b, rfl, rfl, oa, ob⟩ := both_texts h
    rw [twoR, if_pos h, dv_dstr, dv_dstr]
    by_cases hab : a < b
    · rw [subR, if_pos hab]; exact Sub_low a b oa ob hab w
    · rw [subR, if_neg hab, outR_yes (oa.mono (Nat.sub_le a b))]; exact Sub_ok a b oa ob (by omega) w htab
  · rw [twoR, if_neg h]
    exact nSub_bad s t hs ht h w

theorem nDivMod_any (s t : ByteArray) (hs : s.size ≤ 140737488351232) (ht : t.size ≤ 140737488351232) (w : World) (htab : Tab w) :
    Calls Tryz.prog 12 #[.string s, .string t] w fun e w' => e = .returned (.tuple #[.string (divR s t).1, .string (divR s t).2.1, .int .i64 ((divR s t).2.2 : Int)]) ∧ Below w.heap.size w w' := by
  by_cases h : both s.data.toList t.data.toList = 0
  · obtain ⟨a, b, rfl, rfl, oa, ob⟩ := both_texts h
    rw [divR, if_pos h, dv_dstr, dv_dstr]
    by_cases hb0 : b = 0
    · rw [if_pos hb0, hb0]; exact DivMod_zero a oa w
    · rw [if_neg hb0]; exact DivMod_ok a b oa ob hb0 w htab
  · rw [divR, if_neg h]
    exact nDivMod_bad s t hs ht h w

theorem nCmp_any (s t : ByteArray) (hs : s.size ≤ 140737488351232) (ht : t.size ≤ 140737488351232) (w : World) :
    Calls Tryz.prog 22 #[.string s, .string t] w fun e w' => e = .returned (.int .i64 (cmpR s t)) ∧ Below w.heap.size w w' := by
  by_cases h : both s.data.toList t.data.toList = 0
  · obtain ⟨a, b, rfl, rfl, oa, ob⟩ := both_texts h
    rw [cmpR, if_pos h, dv_dstr, dv_dstr]
    exact Cmp_ok a b oa ob w
  · rw [cmpR, if_neg h]
    exact Cmp_bad s t hs ht h w

theorem nToInt_any (s : ByteArray) (hs : s.size ≤ 140737488351232) (w : World) (hev : EV w) :
    Calls Tryz.prog 16 #[.string s] w fun e w' => e = .returned (.tuple #[.int .i64 (toIntR s).1, .int .i64 ((toIntR s).2 : Int)]) ∧ Below w.heap.size w w' := by
  by_cases h : chk s.data.toList = 0
  · obtain ⟨a, rfl, oa⟩ := text_of_chk h
    rw [toIntR, if_pos h, dv_dstr]
    by_cases hbig : 9223372036854775807 < a
    · rw [if_pos hbig]; exact ToInt_over a oa (atoi_big a hbig) w hev
    · rw [if_neg hbig]; exact ToInt_ok a (by omega) w
  · rw [toIntR, if_neg h]
    exact nToInt_bad s hs h w

theorem nBits_any (s : ByteArray) (hs : s.size ≤ 140737488351232) (w : World) :
    Calls Tryz.prog 18 #[.string s] w fun e w' => e = .returned (.tuple #[.int .i64 ((bitsR s).1 : Int), .int .i64 ((bitsR s).2 : Int)]) ∧ Below w.heap.size w w' := by
  by_cases h : chk s.data.toList = 0
  · obtain ⟨a, rfl, oa⟩ := text_of_chk h
    rw [bitsR, if_pos h, dv_dstr]
    exact Bits_ok a oa w
  · rw [bitsR, if_neg h]
    exact nBits_bad s hs h w

end Go.Proofs.YtiocehlefpbbhaaGreatDoor

namespace Go.Proofs.YtiocehlefpbbhaaGreatDoor
open Go.RowKit NV
open Go.Lib (decDigits)

theorem ilit_max : (⟨#[57, 50, 50, 51, 51, 55, 50, 48, 51, 54, 56, 53, 52, 55, 55, 53, 56, 48, 55]⟩ : ByteArray) = dstr 9223372036854775807 := dstr_lit (l := [57, 50, 50, 51, 51, 55, 50, 48, 51, 54, 56, 53, 52, 55, 55, 53, 56, 48, 55]) (by decide +kernel) (by decide +kernel)
theorem iok_max : Ok 9223372036854775807 := lit_ok (l := [57, 50, 50, 51, 51, 55, 50, 48, 51, 54, 56, 53, 52, 55, 55, 53, 56, 48, 55]) (by decide +kernel) (by decide +kernel) (by simp)

set_option maxHeartbeats 800000 in
theorem iToInt_bad (s : ByteArray) (hs : s.size ≤ 140737488351232) (hb : chk s.data.toList ≠ 0) (w : World) :
    Calls Tryz.prog 17 #[.string s] w fun e w' => e = .returned (.tuple #[.int .i64 0, .int .i64 ((chk s.data.toList : Nat) : Int)]) ∧ Below w.heap.size w w' := by
  have hz : (((chk s.data.toList : Nat) : Int) != 0) = true := by rw [bne_iff_ne]; omega
  have HCA := Lib.hid (refcheck_any s w hs)
  clear hb
  go_enter Tryz.func17, Tryz.ntmps17
  go_wp2_with fail
  refine HCA.out.mono ?_
  rintro e w1 ⟨rfl, rfl⟩
  go_wp2_with fail
  go_ret2
  exact ⟨rfl, Below.refl _ _⟩

set_option maxHeartbeats 800000 in
theorem iBits_bad (s : ByteArray) (hs : s.size ≤ 140737488351232) (hb : chk s.data.toList ≠ 0) (w : World) :
    Calls Tryz.prog 19 #[.string s] w fun e w' => e = .returned (.tuple #[.int .i64 0, .int .i64 ((chk s.data.toList : Nat) : Int)]) ∧ Below w.heap.size w w' := by
  have hz : (((chk s.data.toList : Nat) : Int) != 0) = true := by rw [bne_iff_ne]; omega
  have HCA := Lib.hid (refcheck_any s w hs)
  clear hb
  go_enter Tryz.func19, Tryz.ntmps19
  go_wp2_with fail
  refine HCA.out.mono ?_
  rintro e w1 ⟨rfl, rfl⟩
  go_wp2_with fail
  go_ret2
  exact ⟨rfl, Below.refl _ _⟩

theorem bl_ln (n : Nat) : bl n ≤ 30 * ln n := by
  refine bl_le _ n (Nat.lt_of_lt_of_le (lt_pow_ln n) ?_)
  rw [Nat.pow_mul]
  exact Nat.pow_le_pow_left (by rw [B_eq]; omega) _

set_option maxHeartbeats 1600000 in
set_option maxRecDepth 100000 in
theorem iBits_ok (a : Nat) (ha : Ok a) (w : World) :
    Calls Tryz.prog 19 #[.string (dstr a)] w fun e w' => e = .returned (.tuple #[.int .i64 ((bl a : Nat) : Int), .int .i64 0]) ∧ Below w.heap.size w w' := by
  have hc := refcheck_any (dstr a) w (small_str ha)
  rw [dstr_list, ha.chk] at hc
  have HC := Lib.hid hc
  have HR := Lib.hid (iread_dec a ha w)
  have hla := ha.ln
  have hbl := bl_ln a
  clear hc
  go_enter Tryz.func19, Tryz.ntmps19
  go_wp2_with fail
  refine HC.out.mono ?_
  rintro e w1 ⟨rfl, rfl⟩
  go_wp2_with fail
  refine HR.out.mono ?_
  rintro e w2 ⟨x, rfl, hx, hb2⟩
  have HX := Lib.hid hx
  have HB2 := Lib.hid hb2
  clear hx hb2 HR HC
  go_wp2_with fail
  go_loopw [5, 6] (fun c v wr => ∃ (k y : Nat), c = .int .i64 (k : Int) ∧ INum wr v y ∧ y ≤ a ∧ k + bl y = bl a ∧ Below w.heap.size w wr) (fun _ v wr => ivalOf wr v)
  case atStart => exact ⟨0, a, rfl, HX.out, Nat.le_refl _, by omega, HB2.out⟩
  case round =>
    obtain ⟨k, y, rfl, hy, hya, hkb, hbr⟩ := hrel
    clear HX HB2
    obtain ⟨ya, yc, rfl⟩ := islice_any hy
    have hly := ln_mono hya
    by_cases hy0 : y = 0
    · subst hy0
      have hk : k = bl a := by rw [← hkb, bl_zero]; rfl
      have HK := Lib.hid hk
      rw [ln_zero]
      have HB := Lib.hid hbr
      clear hy hbr hkb hk hly
      go_wp2_with fail
      go_ret2
      exact ⟨by rw [← HK.out]; rfl, HB.out⟩
    · have hpos := ln_pos hy0
      have hh := bl_half hy0
      have HS := Lib.hid (ishort_any hy (by omega) (show 1 ≤ 2 by omega) (by omega))
      have HV := Lib.hid hy.val
      have hk1 : (k + 1) + bl (y / 2) = bl a := by omega
      have hkk : k + 1 ≤ 30 * 445 := by omega
      have HK1 := Lib.hid hk1
      have HLT := Lib.hid (show y / 2 < y by omega)
      have HYA := Lib.hid (show y / 2 ≤ a by omega)
      have HBR := Lib.hid hbr
      clear hy hbr hkb hh hk1
      go_wp2_with fail
      refine HS.out.mono ?_
      rintro e w3 ⟨q, rfl, hq, hb3⟩
      have HQ := Lib.hid hq
      have HQV := Lib.hid hq.val
      have HB3 := Lib.hid (HBR.out.trans (hb3.mono HBR.out.size))
      clear hq hb3
      go_wp2_with fail
      go_roundw
      case rel => exact ⟨k + 1, y / 2, by go_num, HQ.out, HYA.out, HK1.out, HB3.out⟩
      case measure => rw [HQV.out, HV.out]; exact HLT.out

theorem tv_le {l : List UInt8} (hd : Digs l) {j : Nat} (h : j ≤ l.length) : tv l j ≤ dv l := by
  rw [tv, dv_take hd h]
  exact Nat.div_le_self _ _

set_option maxHeartbeats 1600000 in
set_option maxRecDepth 100000 in
theorem iToInt_ok (a : Nat) (ha : Ok a) (w : World) :
    Calls Tryz.prog 17 #[.string (dstr a)] w fun e w' => e = .returned (.tuple #[.int .i64 (toIntR (dstr a)).1, .int .i64 ((toIntR (dstr a)).2 : Int)]) ∧ Below w.heap.size w w' := by
  have hck : chk (dstr a).data.toList = 0 := by rw [dstr_list, ha.chk]
  have hc := refcheck_any (dstr a) w (small_str ha)
  rw [hck] at hc
  have HC := Lib.hid hc
  have S0 := Lib.hid ilit_max
  obtain ⟨M, hM⟩ : ∃ M, M = 9223372036854775807 := ⟨_, rfl⟩
  have HM := Lib.hid hM
  have hcm := iCmp a M ha (by rw [hM]; exact iok_max) w
  rw [← hM] at S0
  have HCM := Lib.hid hcm
  by_cases hbig : M < a
  · have hR : toIntR (dstr a) = (0, 2) := by rw [toIntR, if_pos hck, dv_dstr, if_pos (by omega)]
    rw [hR]
    have hgt : cmpN a M = 1 := cmpN_gt hbig
    rw [hgt] at HCM
    clear hc hM hcm hck hR hgt
    go_enter Tryz.func17, Tryz.ntmps17
    go_wp2_with fail
    refine HC.out.mono ?_
    rintro e w1 ⟨rfl, rfl⟩
    go_wp2_with fail
    rw [S0.out]
    refine HCM.out.mono ?_
    rintro e w2 ⟨rfl, hb2⟩
    have HB2 := Lib.hid hb2
    clear hb2
    go_wp2_with fail
    go_ret2
    exact ⟨rfl, HB2.out⟩
  · have hR : toIntR (dstr a) = ((a : Int), 0) := by rw [toIntR, if_pos hck, dv_dstr, if_neg (by omega)]
    rw [hR]
    have hle : cmpN a M ≤ 0 := by unfold cmpN; split <;> (try split) <;> omega
    have ha63 : a ≤ 9223372036854775807 := by omega
    obtain ⟨s, hs⟩ : ∃ s, s = dstr a := ⟨_, rfl⟩
    have hd : Digs s.data.toList := by rw [hs, dstr_list]; exact digs_dec a
    have hv : dv s.data.toList = a := by rw [hs, dv_dstr]
    have hsz : s.size ≤ 4000 := by rw [hs, dstr_size]; exact ha
    have HSZ := Lib.hid (Go.Lib.size_eq s)
    rw [← hs] at HC HCM ⊢
    have HD := Lib.hid hd
    have HV := Lib.hid hv
    clear hc hM hcm hck hR hbig hs hd hv
    go_enter Tryz.func17, Tryz.ntmps17
    go_wp2_with fail
    refine HC.out.mono ?_
    rintro e w1 ⟨rfl, rfl⟩
    go_wp2_with fail
    rw [S0.out]
    refine HCM.out.mono ?_
    rintro e w2 ⟨rfl, hb2⟩
    have HB2 := Lib.hid hb2
    clear hb2
    go_wp2_with fail
    go_loop [5, 6] (fun c i => ∃ q : Nat, q ≤ s.size ∧ i = .int .i64 (q : Int) ∧ c = .int .i64 ((tv s.data.toList q : Nat) : Int)) (fun _ i => s.size - (intOf i).toNat)
    case atStart => exact ⟨0, Nat.zero_le _, rfl, rfl⟩
    case round =>
      obtain ⟨q, hq, rfl, rfl⟩ := hrel
      by_cases hqm : q < s.size
      · have d1 := digs_getD HD.out (j := q) (by rw [← HSZ.out]; exact hqm)
        have hb := bt_at s q hqm
        rw [hb] at d1
        have hle2 := tv_le HD.out (j := q + 1) (by rw [← HSZ.out]; omega)
        have hst := tv_succ s.data.toList (j := q) (by rw [← HSZ.out]; exact hqm)
        rw [hb] at hst
        rw [HV.out] at hle2
        have HS := Lib.hid (show 10 * ((tv s.data.toList q : Nat) : Int) + (((s[q]).toNat : Nat) - 48 : Int) = ((tv s.data.toList (q + 1) : Nat) : Int) by omega)
        have hbd : 10 * ((tv s.data.toList q : Nat) : Int) + (((s[q]).toNat : Nat) - 48 : Int) ≤ 9223372036854775807 := by rw [HS.out]; omega
        clear hb hst hle2
        go_wp2_with fail
        go_round
        case rel => exact ⟨q + 1, by omega, by go_num, by rw [HS.out]⟩
        case measure => simp [intOf]; omega
      · obtain rfl : q = s.size := by omega
        have HE := Lib.hid (show tv s.data.toList s.size = a by rw [tv, List.take_of_length_le (by rw [← HSZ.out]; exact Nat.le_refl _), HV.out])
        go_wp2_with fail
        go_ret2
        exact ⟨by rw [HE.out]; rfl, HB2.out⟩

theorem iAdd_any (s t : ByteArray) (hs : s.size ≤ 140737488351232) (ht : t.size ≤ 140737488351232) (w : World) :
    Calls Tryz.prog 7 #[.string s, .string t] w fun e w' => e = .returned (.tuple #[.string (twoR s t (outR (dv s.data.toList + dv t.data.toList))).1, .int .i64 ((twoR s t (outR (dv s.data.toList + dv t.data.toList))).2 : Int)]) ∧ Below w.heap.size w w' := by
  by_cases h : both s.data.toList t.data.toList = 0
  · obtain ⟨a, b, rfl, rfl, oa, ob⟩ := both_texts h
    rw [twoR, if_pos h, dv_dstr, dv_dstr]
    exact iAdd a b oa ob w
  · rw [twoR, if_neg h]
    exact iAdd_bad s t hs ht h w

theorem iMul_any (s t : ByteArray) (hs : s.size ≤ 140737488351232) (ht : t.size ≤ 140737488351232) (w : World) :
    Calls Tryz.prog 11 #[.string s, .string t] w fun e w' => e = .returned (.tuple #[.string (twoR s t (outR (dv s.data.toList * dv t.data.toList))).1, .int .i64 ((twoR s t (outR (dv s.data.toList * dv t.data.toList))).2 : Int)]) ∧ Below w.heap.size w w' := by
  by_cases h : both s.data.toList t.data.toList = 0
  · obtain ⟨a, b, rfl, rfl, oa, ob⟩ := both_texts h
    rw [twoR, if_pos h, dv_dstr, dv_dstr]
    exact iMul a b oa ob w
  · rw [twoR, if_neg h]
    exact iMul_bad s t hs ht h w

theorem iGcd_any (s t : ByteArray) (hs : s.size ≤ 140737488351232) (ht : t.size ≤ 140737488351232) (w : World) :
    Calls Tryz.prog 15 #[.string s, .string t] w fun e w' => e = .returned (.tuple #[.string (twoR s t (outR (Nat.gcd (dv s.data.toList) (dv t.data.toList)))).1, .int .i64 ((twoR s t (outR (Nat.gcd (dv s.data.toList) (dv t.data.toList)))).2 : Int)]) ∧ Below w.heap.size w w' := by
  by_cases h : both s.data.toList t.data.toList = 0
  · obtain ⟨a, b, rfl, rfl, oa, ob⟩ := both_texts h
    rw [twoR, if_pos h, dv_dstr, dv_dstr]
    exact iGcd a b oa ob w
  · rw [twoR, if_neg h]
    exact iGcd_bad s t hs ht h w

theorem iSub_any (s t : ByteArray) (hs : s.size ≤ 140737488351232) (ht : t.size ≤ 140737488351232) (w : World) :
    Calls Tryz.prog 9 #[.string s, .string t] w fun e w' => e = .returned (.tuple #[.string (twoR s t (subR (dv s.data.toList) (dv t.data.toList))).1, .int .i64 ((twoR s t (subR (dv s.data.toList) (dv t.data.toList))).2 : Int)]) ∧ Below w.heap.size w w' := by
  by_cases h : both s.data.toList t.data.toList = 0
  · obtain ⟨a, b, rfl, rfl, oa, ob⟩ := both_texts h
    rw [twoR, if_pos h, dv_dstr, dv_dstr]
    by_cases hab : a < b
    · rw [subR, if_pos hab]; exact iSub_low a b oa ob hab w
    · rw [subR, if_neg hab]; exact iSub_ok a b oa ob (by omega) w
  · rw [twoR, if_neg h]
    exact iSub_bad s t hs ht h w

theorem iDivMod_any (s t : ByteArray) (hs : s.size ≤ 140737488351232) (ht : t.size ≤ 140737488351232) (w : World) :
    Calls Tryz.prog 13 #[.string s, .string t] w fun e w' => e = .returned (.tuple #[.string (divR s t).1, .string (divR s t).2.1, .int .i64 ((divR s t).2.2 : Int)]) ∧ Below w.heap.size w w' := by
  by_cases h : both s.data.toList t.data.toList = 0
  · obtain ⟨a, b, rfl, rfl, oa, ob⟩ := both_texts h
    rw [divR, if_pos h, dv_dstr, dv_dstr]
    by_cases hb0 : b = 0
    · rw [if_pos hb0, hb0]; exact iDivMod_zero a oa w
    · rw [if_neg hb0]; exact iDivMod_ok a b oa ob hb0 w
  · rw [divR, if_neg h]
    exact iDivMod_bad s t hs ht h w

theorem iCmp_any (s t : ByteArray) (hs : s.size ≤ 140737488351232) (ht : t.size ≤ 140737488351232) (w : World) :
    Calls Tryz.prog 23 #[.string s, .string t] w fun e w' => e = .returned (.int .i64 (cmpR s t)) ∧ Below w.heap.size w w' := by
  by_cases h : both s.data.toList t.data.toList = 0
  · obtain ⟨a, b, rfl, rfl, oa, ob⟩ := both_texts h
    rw [cmpR, if_pos h, dv_dstr, dv_dstr]
    exact iCmp a b oa ob w
  · rw [cmpR, if_neg h]
    exact iCmp_bad s t hs ht h w

theorem iToInt_any (s : ByteArray) (hs : s.size ≤ 140737488351232) (w : World) :
    Calls Tryz.prog 17 #[.string s] w fun e w' => e = .returned (.tuple #[.int .i64 (toIntR s).1, .int .i64 ((toIntR s).2 : Int)]) ∧ Below w.heap.size w w' := by
  by_cases h : chk s.data.toList = 0
  · obtain ⟨a, rfl, oa⟩ := text_of_chk h
    exact iToInt_ok a oa w
  · rw [toIntR, if_neg h]
    exact iToInt_bad s hs h w

theorem iBits_any (s : ByteArray) (hs : s.size ≤ 140737488351232) (w : World) :
    Calls Tryz.prog 19 #[.string s] w fun e w' => e = .returned (.tuple #[.int .i64 ((bitsR s).1 : Int), .int .i64 ((bitsR s).2 : Int)]) ∧ Below w.heap.size w w' := by
  by_cases h : chk s.data.toList = 0
  · obtain ⟨a, rfl, oa⟩ := text_of_chk h
    rw [bitsR, if_pos h, dv_dstr]
    exact iBits_ok a oa w
  · rw [bitsR, if_neg h]
    exact iBits_bad s hs h w

end Go.Proofs.YtiocehlefpbbhaaGreatDoor

namespace Go.Proofs.YtiocehlefpbbhaaGreatDoor
open Go.RowKit NV
open Go.Lib (decDigits)

theorem pair_cells (s t : ByteArray) (w : World) (e : TypeId) : ∀ j (h : j < [s, t].length), (w.alloc (.cells #[.string s, .string t] e)).cell? ⟨w.heap.size, j, none⟩ = some (.string [s, t][j]) := by
  intro j hj
  have hj2 : j < 2 := by simpa using hj
  rcases (show j = 0 ∨ j = 1 by omega) with rfl | rfl
  · exact (two_cells s t e).1
  · exact (two_cells s t e).2

set_option maxHeartbeats 1600000 in
set_option maxRecDepth 100000 in
theorem calls_heavy (s t : ByteArray) (w : World) (htab : Tab w) (h : ([s, t].all fun s => decide (s.size ≤ 4100)) = false) :
    Calls Tryz.prog 3 #[.string s, .string t] w fun e w' => e = .returned (.bool true) ∧ Below w.heap.size w w' := by
  have HL := Lib.hid (lives_any w htab)
  have HV := Lib.hid (fun (W : World) => light_any [s, t] (by simp) W.heap.size 2 (W.alloc (.cells #[.string s, .string t] 22)) (pair_cells s t W _))
  rw [h] at HV
  clear h htab
  go_enter Tryz.func3, Tryz.ntmps3
  go_wp2_with fail
  refine HL.out.mono ?_
  rintro e w1 ⟨rfl, hb1⟩
  have HB1 := Lib.hid hb1
  clear hb1
  go_wp2_with fail
  refine (HV.out w1).mono ?_
  rintro e w2 ⟨rfl, rfl⟩
  go_wp2_with fail
  go_ret
  exact ⟨rfl, HB1.out.alloc HB1.out.size _⟩

set_option maxHeartbeats 6400000 in
set_option maxRecDepth 100000 in
theorem calls_light (s t : ByteArray) (w : World) (htab : Tab w) (hev : EV w) (hs : s.size ≤ 140737488351232) (ht : t.size ≤ 140737488351232) (h : ([s, t].all fun s => decide (s.size ≤ 4100)) = true) :
    Calls Tryz.prog 3 #[.string s, .string t] w fun e w' => e = .returned (.bool true) ∧ Below w.heap.size w w' := by
  have HL := Lib.hid (lives_any w htab)
  have HV := Lib.hid (fun (W : World) => light_any [s, t] (by simp) W.heap.size 2 (W.alloc (.cells #[.string s, .string t] 22)) (pair_cells s t W _))
  rw [h] at HV
  have H0 := Lib.hid (fun (W : World) (h : Tab W) => nAdd_any s t hs ht W h)
  have H1 := Lib.hid (fun (W : World) => iAdd_any s t hs ht W)
  have H2 := Lib.hid (fun (W : World) (h : Tab W) => nSub_any s t hs ht W h)
  have H3 := Lib.hid (fun (W : World) => iSub_any s t hs ht W)
  have H4 := Lib.hid (fun (W : World) (h : Tab W) => nMul_any s t hs ht W h)
  have H5 := Lib.hid (fun (W : World) => iMul_any s t hs ht W)
  have H6 := Lib.hid (fun (W : World) (h : Tab W) => nDivMod_any s t hs ht W h)
  have H7 := Lib.hid (fun (W : World) => iDivMod_any s t hs ht W)
  have H8 := Lib.hid (fun (W : World) (h : Tab W) => nGcd_any s t hs ht W h)
  have H9 := Lib.hid (fun (W : World) => iGcd_any s t hs ht W)
  have HA := Lib.hid (fun (W : World) (h : EV W) => nToInt_any s hs W h)
  have HB := Lib.hid (fun (W : World) => iToInt_any s hs W)
  have HC := Lib.hid (fun (W : World) => nBits_any s hs W)
  have HD := Lib.hid (fun (W : World) => iBits_any s hs W)
  have HE := Lib.hid (fun (W : World) => check_any s W hs)
  have HF := Lib.hid (fun (W : World) => refcheck_any s W hs)
  have HG := Lib.hid (fun (W : World) => nCmp_any s t hs ht W)
  have HH := Lib.hid (fun (W : World) => iCmp_any s t hs ht W)
  have HT := Lib.hid htab
  have HEV := Lib.hid hev
  generalize twoR s t (outR (dv s.data.toList + dv t.data.toList)) = X0 at H0 H1
  obtain ⟨X0a, X0b⟩ := X0
  generalize twoR s t (subR (dv s.data.toList) (dv t.data.toList)) = X1 at H2 H3
  obtain ⟨X1a, X1b⟩ := X1
  generalize twoR s t (outR (dv s.data.toList * dv t.data.toList)) = X2 at H4 H5
  obtain ⟨X2a, X2b⟩ := X2
  generalize divR s t = X3 at H6 H7
  obtain ⟨X3a, X3b, X3c⟩ := X3
  generalize twoR s t (outR (Nat.gcd (dv s.data.toList) (dv t.data.toList))) = X4 at H8 H9
  obtain ⟨X4a, X4b⟩ := X4
  generalize toIntR s = Y at HA HB
  generalize bitsR s = Z at HC HD
  generalize chk s.data.toList = K at HE HF
  generalize cmpR s t = C at HG HH
  obtain ⟨Y1, Y2⟩ := Y
  obtain ⟨Z1, Z2⟩ := Z
  clear htab hev hs ht h
  go_enter Tryz.func3, Tryz.ntmps3
  go_wp2_with fail
  refine HL.out.mono ?_
  rintro e w1 ⟨rfl, hb1⟩
  have HB1 := Lib.hid hb1
  clear hb1
  go_wp2_with fail
  refine (HV.out w1).mono ?_
  rintro e w2 ⟨rfl, rfl⟩
  have HW0 := Lib.hid (HB1.out.alloc HB1.out.size (.cells #[.string s, .string t] 22))
  generalize w1.alloc (.cells #[.string s, .string t] 22) = W0 at HW0 ⊢
  clear HB1 HL HV
  go_wp2_with fail
  refine (H0.out _ (HT.out.below HW0.out)).mono ?_
  rintro e W1 ⟨rfl, hb⟩
  have HW1 := Lib.hid (HW0.out.trans (hb.mono HW0.out.size))
  clear hb HW0 H0
  go_wp2_with fail
  refine (H1.out _ ).mono ?_
  rintro e W2 ⟨rfl, hb⟩
  have HW2 := Lib.hid (HW1.out.trans (hb.mono HW1.out.size))
  clear hb HW1 H1
  go_wp2_with fail
  refine (H2.out _ (HT.out.below HW2.out)).mono ?_
  rintro e W3 ⟨rfl, hb⟩
  have HW3 := Lib.hid (HW2.out.trans (hb.mono HW2.out.size))
  clear hb HW2 H2
  go_wp2_with fail
  refine (H3.out _ ).mono ?_
  rintro e W4 ⟨rfl, hb⟩
  have HW4 := Lib.hid (HW3.out.trans (hb.mono HW3.out.size))
  clear hb HW3 H3
  go_wp2_with fail
  refine (H4.out _ (HT.out.below HW4.out)).mono ?_
  rintro e W5 ⟨rfl, hb⟩
  have HW5 := Lib.hid (HW4.out.trans (hb.mono HW4.out.size))
  clear hb HW4 H4
  go_wp2_with fail
  refine (H5.out _ ).mono ?_
  rintro e W6 ⟨rfl, hb⟩
  have HW6 := Lib.hid (HW5.out.trans (hb.mono HW5.out.size))
  clear hb HW5 H5
  go_wp2_with fail
  refine (H6.out _ (HT.out.below HW6.out)).mono ?_
  rintro e W7 ⟨rfl, hb⟩
  have HW7 := Lib.hid (HW6.out.trans (hb.mono HW6.out.size))
  clear hb HW6 H6
  go_wp2_with fail
  refine (H7.out _ ).mono ?_
  rintro e W8 ⟨rfl, hb⟩
  have HW8 := Lib.hid (HW7.out.trans (hb.mono HW7.out.size))
  clear hb HW7 H7
  go_wp2_with fail
  refine (H8.out _ (HT.out.below HW8.out)).mono ?_
  rintro e W9 ⟨rfl, hb⟩
  have HW9 := Lib.hid (HW8.out.trans (hb.mono HW8.out.size))
  clear hb HW8 H8
  go_wp2_with fail
  refine (H9.out _ ).mono ?_
  rintro e W10 ⟨rfl, hb⟩
  have HW10 := Lib.hid (HW9.out.trans (hb.mono HW9.out.size))
  clear hb HW9 H9
  go_wp2_with fail
  refine (HA.out _ (EV.below HEV.out HW10.out)).mono ?_
  rintro e W11 ⟨rfl, hb⟩
  have HW11 := Lib.hid (HW10.out.trans (hb.mono HW10.out.size))
  clear hb HW10 HA
  go_wp2_with fail
  refine (HB.out _ ).mono ?_
  rintro e W12 ⟨rfl, hb⟩
  have HW12 := Lib.hid (HW11.out.trans (hb.mono HW11.out.size))
  clear hb HW11 HB
  go_wp2_with fail
  refine (HC.out _ ).mono ?_
  rintro e W13 ⟨rfl, hb⟩
  have HW13 := Lib.hid (HW12.out.trans (hb.mono HW12.out.size))
  clear hb HW12 HC
  go_wp2_with fail
  refine (HD.out _ ).mono ?_
  rintro e W14 ⟨rfl, hb⟩
  have HW14 := Lib.hid (HW13.out.trans (hb.mono HW13.out.size))
  clear hb HW13 HD
  go_wp2_with fail
  refine (HE.out _).mono ?_
  rintro e Wa ⟨rfl, rfl⟩
  go_wp2_with fail
  refine (HF.out _).mono ?_
  rintro e Wb ⟨rfl, rfl⟩
  go_wp2_with fail
  refine (HG.out _).mono ?_
  rintro e W15 ⟨rfl, hb⟩
  have HW15 := Lib.hid (HW14.out.trans (hb.mono HW14.out.size))
  clear hb HW14 HG
  go_wp2_with fail
  refine (HH.out _).mono ?_
  rintro e W16 ⟨rfl, hb⟩
  have HW16 := Lib.hid (HW15.out.trans (hb.mono HW15.out.size))
  clear hb HW15 HH
  go_wp2_with fail
  go_ret
  exact ⟨rfl, HW16.out⟩

end Go.Proofs.YtiocehlefpbbhaaGreatDoor
