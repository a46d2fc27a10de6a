/-
  NatExponents returns true for all texts and ints.
-/
import Derived.Test.YtiocehlefpbbhaaDoorR2
namespace Go.Proofs.YtiocehlefpbbhaaDoor
open Go.RowKit NV
open Go.Lib (decDigits)

theorem fits64 {x : Int} (h0 : -9223372036854775808 ≤ x) (h1 : x ≤ 9223372036854775807) : IntKind.i64.wrap x = x := by
  simp [IntKind.wrap, IntKind.signed, IntKind.bits]; omega

set_option maxHeartbeats 800000 in
set_option maxRecDepth 100000 in
/-- Pick: some number below n. -/
theorem Pick_any (x n : Int) (hn : 1 ≤ n) (hn2 : n ≤ 9223372036854775807) (_hx0 : -9223372036854775808 ≤ x) (_hx1 : x ≤ 9223372036854775807) (w : World) :
    Calls Tryd.prog 29 #[.int .i64 x, .int .i64 n] w fun e w' => (∃ r : Nat, (r : Int) < n ∧ e = .returned (.int .i64 (r : Int))) ∧ w = w' := by
  have hlt : x.tmod n < n := Int.tmod_lt_of_pos x (by omega)
  have hgt : -n < x.tmod n := Int.lt_tmod_of_pos x (by omega)
  go_enter Tryd.func29, Tryd.ntmps29
  go_wp2_with fail
  · rename_i hneg
    have hc : (((x.tmod n + n).toNat : Nat) : Int) = x.tmod n + n := Int.toNat_of_nonneg (by omega)
    go_ret
    refine ⟨⟨(x.tmod n + n).toNat, ?_, ?_⟩, rfl⟩
    · rw [hc]; omega
    · rw [hc]; rfl
  · rename_i hneg
    have hc : (((x.tmod n).toNat : Nat) : Int) = x.tmod n := Int.toNat_of_nonneg (by omega)
    go_ret
    refine ⟨⟨(x.tmod n).toNat, ?_, ?_⟩, rfl⟩
    · rw [hc]; omega
    · rw [hc]; rfl

set_option maxHeartbeats 3200000 in
set_option maxRecDepth 100000 in
theorem exponents_no (s t : ByteArray) (m n : Int) (w : World) (htab : Tab w) (hs : s.size ≤ 140737488351232) (ht : t.size ≤ 140737488351232) (hv : allV 20 [s, t] = false) :
    Calls Tryd.prog 8 #[.string s, .string t, .int .i64 m, .int .i64 n] w fun e w' => e = .returned (.bool true) ∧ Below w.heap.size w w' := by
  have HL := Lib.hid (lives_any w htab)
  have HV := Lib.hid (fun (W : World) => valid_any (W.alloc (.cells #[.string s, .string t] 23)) W.heap.size 20 [s, t] (by simp) (by omega) (by intro x hx; simp at hx; rcases hx with rfl | rfl <;> assumption) (two_list s t _))
  rw [hv] at HV
  clear htab hv
  go_enter Tryd.func8, Tryd.ntmps8
  go_wp2_with fail
  refine HL.out.mono ?_
  rintro e w1 ⟨rfl, hb1⟩
  have HB1 := Lib.hid hb1
  clear hb1
  go_wp2_with fail
  refine (HV.out w1).mono ?_
  rintro e w2 ⟨rfl, rfl⟩
  go_wp2_with fail
  go_ret
  exact ⟨rfl, HB1.out.alloc HB1.out.size _⟩

/-- The power of a number of d digits. -/
theorem Lt.pow {a d : Nat} (h : Lt d a) (n : Nat) : Lt (d * n) (a ^ n) ∨ n = 0 := by
  by_cases hn : n = 0
  · exact .inr hn
  · left
    unfold Lt at *
    rw [Nat.pow_mul]
    exact Nat.pow_lt_pow_left h hn

theorem Lt.pow_ok {a d n : Nat} (h : Lt d a) (hd : d * n ≤ 4000) (hd0 : 0 < d) : Ok (a ^ n) := by
  rcases h.pow n with h | rfl
  · by_cases hn : n = 0
    · subst hn; rw [Nat.pow_zero]; exact one_ok
    · exact h.ok (Nat.mul_pos hd0 (by omega)) hd
  · rw [Nat.pow_zero]; exact one_ok

set_option maxHeartbeats 6400000 in
set_option maxRecDepth 100000 in
theorem exponents_yes (a b : Nat) (m n : Int) (w : World) (hm0 : -9223372036854775808 ≤ m) (hm1 : m ≤ 9223372036854775807) (hn0 : -9223372036854775808 ≤ n) (hn1 : n ≤ 9223372036854775807) (htab : Tab w) (hv : allV 20 [dstr a, dstr b] = true) (ha : Lt 20 a) (hb : Lt 20 b) :
    Calls Tryd.prog 8 #[.string (dstr a), .string (dstr b), .int .i64 m, .int .i64 n] w fun e w' => e = .returned (.bool true) ∧ Below w.heap.size w w' := by
  have oa := ha.ok (by omega) (by omega)
  have ob := hb.ok (by omega) (by omega)
  have mab := (ha.mul hb).ok (by omega) (by omega)
  have HP := Lib.hid (fun (k : Nat) (hk : k ≤ 80) => Lt.pow_ok (n := k) ha (by omega) (by omega))
  have HQ := Lib.hid (fun (k : Nat) (hk : k ≤ 80) => Lt.pow_ok (n := k) hb (by omega) (by omega))
  have HR := Lib.hid (fun (k : Nat) (hk : k ≤ 80) => Lt.pow_ok (n := k) (ha.mul hb) (by omega) (by omega))
  have HM := Lib.hid (Pick_any m 41 (by omega) (by omega) hm0 hm1)
  have HN := Lib.hid (Pick_any n 41 (by omega) (by omega) hn0 hn1)
  have HL := Lib.hid (lives_any w htab)
  have HV := Lib.hid (fun (W : World) => valid_any (W.alloc (.cells #[.string (dstr a), .string (dstr b)] 23)) W.heap.size 20 [dstr a, dstr b] (by simp) (by omega) (by intro x hx; simp at hx; rcases hx with rfl | rfl <;> exact small_str (by assumption)) (two_list _ _ _))
  rw [hv] at HV
  have HT := Lib.hid htab
  clear htab hv ha hb hm0 hm1 hn0 hn1
  go_enter Tryd.func8, Tryd.ntmps8
  go_wp2_with fail
  refine HL.out.mono ?_
  rintro e w1 ⟨rfl, hb1⟩
  have HB1 := Lib.hid hb1
  clear hb1
  go_wp2_with fail
  refine (HV.out w1).mono ?_
  rintro e w2 ⟨rfl, rfl⟩
  have HB2 := Lib.hid (HB1.out.alloc HB1.out.size (.cells #[.string (dstr a), .string (dstr b)] 23))
  generalize w1.alloc (.cells #[.string (dstr a), .string (dstr b)] 23) = W0 at HB2 ⊢
  go_wp2_with fail
  refine (HM.out _).mono ?_
  rintro e V ⟨⟨i, hi, rfl⟩, rfl⟩
  go_wp2_with fail
  refine (HN.out _).mono ?_
  rintro e V ⟨⟨j, hj, rfl⟩, rfl⟩
  have hi2 : i ≤ 40 := by omega
  have hj2 : j ≤ 40 := by omega
  clear hi hj
  have hai := HP.out i (by omega)
  have haj := HP.out j (by omega)
  have haij := HP.out (i + j) (by omega)
  have hbi := HQ.out i (by omega)
  have hri := HR.out i (by omega)
  have e1 := Lib.hid (Nat.pow_add a i j)
  have e2 := Lib.hid (Nat.mul_pow a b i)
  have m1 : Ok (a ^ i * a ^ j) := by rw [← e1.out]; exact haij
  have m2 : Ok (a ^ i * b ^ i) := by rw [← e2.out]; exact hri
  have s1 := str_eq e1.out
  have s2 := str_eq e2.out
  have PIJ := Lib.hid (fun (W : World) (h : Tab W) => by have := Pow_ok a (i + j) oa (by omega) haij W h; rw [Int.natCast_add] at this; exact this)
  clear HL HV HM HN HP HQ HR
  go_wp2_with fail
  refine (Pow_ok a i oa (by omega) hai _ (HT.out.below HB2.out)).mono ?_
  rintro e W3 ⟨rfl, hb⟩
  have HB3 := Lib.hid (HB2.out.trans (hb.mono HB2.out.size))
  clear hb HB2
  go_wp2_with fail
  refine (Pow_ok a j oa (by omega) haj _ (HT.out.below HB3.out)).mono ?_
  rintro e W4 ⟨rfl, hb⟩
  have HB4 := Lib.hid (HB3.out.trans (hb.mono HB3.out.size))
  clear hb HB3
  go_wp2_with fail
  refine (PIJ.out _ (HT.out.below HB4.out)).mono ?_
  rintro e W5 ⟨rfl, hb⟩
  have HB5 := Lib.hid (HB4.out.trans (hb.mono HB4.out.size))
  clear hb HB4
  go_wp2_with fail
  refine (product_ok a b oa ob mab _ (HT.out.below HB5.out)).mono ?_
  rintro e W6 ⟨rfl, hb⟩
  have HB6 := Lib.hid (HB5.out.trans (hb.mono HB5.out.size))
  clear hb HB5
  go_wp2_with fail
  refine (Pow_ok (a * b) i mab (by omega) hri _ (HT.out.below HB6.out)).mono ?_
  rintro e W7 ⟨rfl, hb⟩
  have HB7 := Lib.hid (HB6.out.trans (hb.mono HB6.out.size))
  clear hb HB6
  go_wp2_with fail
  refine (Pow_ok b i ob (by omega) hbi _ (HT.out.below HB7.out)).mono ?_
  rintro e W8 ⟨rfl, hb⟩
  have HB8 := Lib.hid (HB7.out.trans (hb.mono HB7.out.size))
  clear hb HB7
  go_wp2_with fail
  refine (product_ok (a ^ i) (a ^ j) hai haj m1 _ (HT.out.below HB8.out)).mono ?_
  rintro e W9 ⟨rfl, hb⟩
  have HB9 := Lib.hid (HB8.out.trans (hb.mono HB8.out.size))
  clear hb HB8
  go_wp2_with fail
  refine (product_ok (a ^ i) (b ^ i) hai hbi m2 _ (HT.out.below HB9.out)).mono ?_
  rintro e W10 ⟨rfl, hb⟩
  have HB10 := Lib.hid (HB9.out.trans (hb.mono HB9.out.size))
  clear hb HB9
  go_wp2_with fail
  go_ret
  exact ⟨rfl, HB10.out⟩

end Go.Proofs.YtiocehlefpbbhaaDoor
