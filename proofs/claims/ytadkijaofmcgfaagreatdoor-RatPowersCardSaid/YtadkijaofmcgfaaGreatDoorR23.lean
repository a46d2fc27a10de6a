/-
  RatPowers returns true for any text and any two ints.
-/
import Derived.Test.YtadkijaofmcgfaaGreatDoorL2
import Derived.Test.YtadkijaofmcgfaaGreatDoorP28
namespace Go.Proofs.YtadkijaofmcgfaaGreatDoor
open Go.RowKit NV
open Go.Lib (decDigits)

set_option maxHeartbeats 800000 in
set_option maxRecDepth 100000 in
/-- Pick: some number below n. -/
theorem Pick_any (x n : Int) (hn : 1 ≤ n) (hn2 : n ≤ 9223372036854775807) (_hx0 : -9223372036854775808 ≤ x) (_hx1 : x ≤ 9223372036854775807) (w : World) :
    Calls Tryz.prog 58 #[.int .i64 x, .int .i64 n] w fun e w' => (∃ r : Nat, (r : Int) < n ∧ e = .returned (.int .i64 (r : Int))) ∧ w = w' := by
  have hlt : x.tmod n < n := Int.tmod_lt_of_pos x (by omega)
  have hgt : -n < x.tmod n := Int.lt_tmod_of_pos x (by omega)
  go_enter Tryz.func58, Tryz.ntmps58
  go_wp2_with fail
  · rename_i hneg
    have hc : (((x.tmod n + n).toNat : Nat) : Int) = x.tmod n + n := Int.toNat_of_nonneg (by omega)
    go_ret
    refine ⟨⟨(x.tmod n + n).toNat, ?_, ?_⟩, rfl⟩
    · rw [hc]; omega
    · rw [hc]; rfl
  · rename_i hneg
    have hc : (((x.tmod n).toNat : Nat) : Int) = x.tmod n := Int.toNat_of_nonneg (by omega)
    go_ret
    refine ⟨⟨(x.tmod n).toNat, ?_, ?_⟩, rfl⟩
    · rw [hc]; omega
    · rw [hc]; rfl

theorem Sz.pow {i : Nat} {q : Rat} (h : Sz i q) (k : Nat) : Sz (i * k + 1) (q ^ k) := by
  obtain ⟨h1, h2, _⟩ := pow_parts q k
  have e : ∀ n, n < 10 ^ i → n ^ k < 10 ^ (i * k + 1) := fun n hn => by
    rw [Nat.pow_succ, Nat.pow_mul]
    have := Nat.pow_le_pow_left (Nat.le_of_lt hn) k
    have h3 : 0 < (10 ^ i) ^ k := Nat.pow_pos (Nat.pow_pos (by omega))
    omega
  exact ⟨by rw [h1]; exact e _ h.1, by rw [h2]; exact e _ h.2⟩

theorem Sz.zpow {q : Rat} (h : Sz 20 q) {n : Int} (h1 : -50 ≤ n) (h2 : n ≤ 50) : Sz 1100 (q ^ n) := by
  by_cases h0 : 0 ≤ n
  · obtain ⟨k, rfl⟩ := Int.eq_ofNat_of_zero_le h0
    rw [Rat.zpow_natCast]
    exact (h.pow k).mono (by omega)
  · obtain ⟨k, hk⟩ := Int.eq_ofNat_of_zero_le (show 0 ≤ -n by omega)
    obtain rfl : n = -(k : Int) := by omega
    rw [Rat.zpow_neg, Rat.zpow_natCast]
    exact (h.pow k).inv.mono (by omega)

theorem Pow_z {q : Rat} (hq : QOk q) (h0 : q ≠ 0) {n : Int} (h1 : -50 ≤ n) (h2 : n ≤ 50) (w : World) (htab : Tab w) (hm : ML w) :
    Calls Tryz.prog 17 #[.string (qstr q), .int .i64 n] w (RQ (q ^ n) w) := by
  by_cases hn : 0 ≤ n
  · obtain ⟨k, rfl⟩ := Int.eq_ofNat_of_zero_le hn
    rw [Rat.zpow_natCast]
    exact Pow_pos q hq k (by omega) w htab hm
  · obtain ⟨k, hk⟩ := Int.eq_ofNat_of_zero_le (show 0 ≤ -n by omega)
    obtain rfl : n = -(k : Int) := by omega
    rw [Rat.zpow_neg, Rat.zpow_natCast, ← inv_pow]
    exact Pow_neg q hq k (by omega) (by omega) w htab hm h0 q⁻¹ rfl

theorem zpow_ne {q : Rat} (h0 : q ≠ 0) (n : Int) : q ^ n ≠ 0 := by
  intro h
  have := Rat.zpow_add h0 n (-n)
  rw [h, Rat.zero_mul, Int.add_right_neg, Rat.zpow_zero] at this
  exact absurd this (by decide)

set_option maxHeartbeats 3200000 in
set_option maxRecDepth 100000 in
theorem powers_no (s : ByteArray) (m n : Int) (w : World) (htab : Tab w) (hm : ML w) (hs : s.size ≤ 140737488351232) (hv : allV2 20 [s] = false) :
    Calls Tryz.prog 10 #[.string s, .int .i64 m, .int .i64 n] w fun e w' => e = .returned (.bool true) ∧ Below w.heap.size w w' := by
  have HL := Lib.hid (lives2_any w htab hm)
  have HV := Lib.hid (fun (W : World) => valid2_any (W.alloc (.cells #[.string s] 23)) W.heap.size 20 [s] (by simp) (by simp) (by omega) (by intro x hx; simp at hx; rcases hx with rfl; assumption) (one_cell2 s _))
  rw [hv] at HV
  clear htab hm hv
  go_enter Tryz.func10, Tryz.ntmps10
  go_wp2_with fail
  refine HL.out.mono ?_
  rintro e w1 ⟨rfl, hb1⟩
  have HB1 := Lib.hid hb1
  clear hb1
  go_wp2_with fail
  refine (HV.out w1).mono ?_
  rintro e w2 ⟨rfl, hb2⟩
  have hb3 := HB1.out.alloc HB1.out.size (.cells #[.string s] 23)
  have HB2 := Lib.hid (hb3.trans (hb2.mono hb3.size))
  clear hb2 hb3
  go_wp2_with fail
  go_ret
  exact ⟨rfl, HB2.out⟩

set_option maxHeartbeats 3200000 in
set_option maxRecDepth 100000 in
theorem powers_zero (m n : Int) (w : World) (htab : Tab w) (hm : ML w) (hv : allV2 20 [qstr 0] = true) :
    Calls Tryz.prog 10 #[.string (qstr 0), .int .i64 m, .int .i64 n] w fun e w' => e = .returned (.bool true) ∧ Below w.heap.size w w' := by
  have HL := Lib.hid (lives2_any w htab hm)
  have HV := Lib.hid (fun (W : World) => valid2_any (W.alloc (.cells #[.string (qstr 0)] 23)) W.heap.size 20 [qstr 0] (by simp) (by simp) (by omega) (by intro x hx; simp at hx; rcases hx with rfl; exact Nat.le_trans (qstr_size zero_ok') (by omega)) (one_cell2 _ _))
  rw [hv] at HV
  have hz := lit_eq [48] (qstr 0) (by rw [qstr_zero])
  generalize qstr 0 = t0 at *
  clear htab hm hv
  go_enter Tryz.func10, Tryz.ntmps10
  go_wp2_with fail
  refine HL.out.mono ?_
  rintro e w1 ⟨rfl, hb1⟩
  have HB1 := Lib.hid hb1
  clear hb1
  go_wp2_with fail
  refine (HV.out w1).mono ?_
  rintro e w2 ⟨rfl, hb2⟩
  have hb3 := HB1.out.alloc HB1.out.size (.cells #[.string t0] 23)
  have HB2 := Lib.hid (hb3.trans (hb2.mono hb3.size))
  clear hb2 hb3
  go_wp2_with fail
  go_ret
  exact ⟨rfl, HB2.out⟩

set_option maxHeartbeats 12800000 in
set_option maxRecDepth 100000 in
theorem powers_yes (a : Rat) (m n : Int) (w : World) (hm0 : -9223372036854775808 ≤ m) (hm1 : m ≤ 9223372036854775807) (hn0 : -9223372036854775808 ≤ n) (hn1 : n ≤ 9223372036854775807) (htab : Tab w) (hm : ML w) (hv : allV2 20 [qstr a] = true) (hA : Sz 20 a) (h0 : a ≠ 0) :
    Calls Tryz.prog 10 #[.string (qstr a), .int .i64 m, .int .i64 n] w fun e w' => e = .returned (.bool true) ∧ Below w.heap.size w w' := by
  have ok_a : QOk a := hA.qok (by omega) (by omega)
  have HL := Lib.hid (lives2_any w htab hm)
  have HV := Lib.hid (fun (W : World) => valid2_any (W.alloc (.cells #[.string (qstr a)] 23)) W.heap.size 20 [qstr a] (by simp) (by simp) (by omega) (by intro x hx; simp at hx; rcases hx with rfl; exact Nat.le_trans (qstr_size ok_a) (by omega)) (one_cell2 _ _))
  rw [hv] at HV
  have hz : ((qstr a).toList == [48]) = false := by
    rw [toList_eq, decide_eq_false]
    intro e
    exact h0 (qstr_inj (ba_ext (by rw [e, qstr_zero])))
  have HM := Lib.hid (fun W => Pick_any m 41 (by omega) (by omega) hm0 hm1 W)
  have HN := Lib.hid (fun W => Pick_any n 41 (by omega) (by omega) hn0 hn1 W)
  have ok_z : ∀ k : Int, -50 ≤ k → k ≤ 50 → QOk (a ^ k) := fun k h1 h2 => (hA.zpow h1 h2).qok (by omega) (by omega)
  obtain ⟨T, hT⟩ : ∃ T : Int → ByteArray, ∀ k, T k = qstr (a ^ k) := ⟨_, fun _ => rfl⟩
  have HP := Lib.hid (fun W (h : Below w.heap.size w W) (k : Int) (h1 : -50 ≤ k) (h2 : k ≤ 50) => rq_done (Pow_z ok_a h0 h1 h2 W (htab.below h) (ml_keep hm (ml_pos hm) h)) rfl (ok_z k h1 h2))
  have HI := Lib.hid (fun W (h : Below w.heap.size w W) (k : Int) (h1 : -50 ≤ k) (h2 : k ≤ 50) => rq_done (r := a ^ (-k)) (Inv_q (a ^ k) (ok_z k h1 h2) W (htab.below h) (ml_keep hm (ml_pos hm) h) (zpow_ne h0 k) _ rfl) (Rat.zpow_neg a k).symm (ok_z (-k) (by omega) (by omega)))
  have HR := Lib.hid (fun W (h : Below w.heap.size w W) (k l : Int) (h1 : -50 ≤ k) (h2 : k ≤ 50) (h3 : -50 ≤ l) (h4 : l ≤ 50) (h5 : -50 ≤ k + l) (h6 : k + l ≤ 50) => product_of (rq_done (r := a ^ (k + l)) (Mul_q (a ^ k) (a ^ l) (ok_z k h1 h2) (ok_z l h3 h4) W (htab.below h) (ml_keep hm (ml_pos hm) h)) (Rat.zpow_add h0 k l).symm (ok_z (k + l) h5 h6)))
  simp only [← hT] at HP HI HR
  generalize qstr a = ta at *
  have HB := Lib.hid (Below.refl w.heap.size w)
  clear htab hm hv hA h0 ok_a hm0 hm1 hn0 hn1 ok_z hT
  go_enter Tryz.func10, Tryz.ntmps10
  go_wp2_with fail
  refine HL.out.mono ?_
  rintro e w1 ⟨rfl, hb1⟩
  replace HB := Lib.hid (HB.out.trans (hb1.mono HB.out.size))
  clear hb1 HL
  go_wp2_with fail
  refine (HV.out w1).mono ?_
  rintro e w2 ⟨rfl, hb2⟩
  have hb3 := HB.out.alloc HB.out.size (.cells #[.string ta] 23)
  replace HB := Lib.hid (hb3.trans (hb2.mono hb3.size))
  clear hb2 hb3 HV
  go_wp2_with fail
  refine (HM.out _).mono ?_
  rintro e w3 ⟨⟨r1, hr1, rfl⟩, rfl⟩
  go_wp2_with fail
  refine (HN.out _).mono ?_
  rintro e w3 ⟨⟨r2, hr2, rfl⟩, rfl⟩
  clear HM HN
  go_wp2_with fail
  refine (HP.out _ HB.out _ (by omega) (by omega)).mono ?_
  rintro e u0 ⟨rfl, hb⟩
  replace HB := Lib.hid (HB.out.trans (hb.mono HB.out.size))
  clear hb
  go_wp2_with fail
  refine (HP.out _ HB.out _ (by omega) (by omega)).mono ?_
  rintro e u1 ⟨rfl, hb⟩
  replace HB := Lib.hid (HB.out.trans (hb.mono HB.out.size))
  clear hb
  go_wp2_with fail
  refine (HP.out _ HB.out _ (by omega) (by omega)).mono ?_
  rintro e u2 ⟨rfl, hb⟩
  replace HB := Lib.hid (HB.out.trans (hb.mono HB.out.size))
  clear hb
  go_wp2_with fail
  refine (HP.out _ HB.out _ (by omega) (by omega)).mono ?_
  rintro e u3 ⟨rfl, hb⟩
  replace HB := Lib.hid (HB.out.trans (hb.mono HB.out.size))
  clear hb
  go_wp2_with fail
  refine (HI.out _ HB.out _ (by omega) (by omega)).mono ?_
  rintro e u4 ⟨rfl, hb⟩
  replace HB := Lib.hid (HB.out.trans (hb.mono HB.out.size))
  clear hb
  go_wp2_with fail
  refine (HR.out _ HB.out _ _ (by omega) (by omega) (by omega) (by omega) (by omega) (by omega)).mono ?_
  rintro e u5 ⟨rfl, hb⟩
  replace HB := Lib.hid (HB.out.trans (hb.mono HB.out.size))
  clear hb
  go_wp2_with fail
  go_ret
  exact ⟨rfl, HB.out⟩

end Go.Proofs.YtadkijaofmcgfaaGreatDoor
