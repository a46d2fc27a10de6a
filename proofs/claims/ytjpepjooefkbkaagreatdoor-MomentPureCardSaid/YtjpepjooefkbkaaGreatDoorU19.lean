/-
  The reference's Pow.
-/
import Derived.Test.YtjpepjooefkbkaaGreatDoorHF
import Derived.Test.YtjpepjooefkbkaaGreatDoorGM
namespace Go.Proofs.YtjpepjooefkbkaaGreatDoor
open Go.RowKit NV
open Go.Lib (decDigits)
theorem qq_pow {W : World} {x y : Value} {p : Rat} {k : Nat} {m : Bool} (hm : m = (ng p && decide (k % 2 = 1))) (h1 : INum W x (tp p ^ k)) (h2 : INum W y (p.den ^ k)) : QQ W (.agg #[.bool m, x, y]) (p ^ k) := by
 obtain ⟨e1, e2, e3⟩ := pow_parts p k
 unfold QQ
 rw [e1, e2, e3]
 exact ⟨x, y, by rw [hm], h1, h2⟩
theorem rodd_nat (k : Nat) (w : World) :
  Calls Tryz.prog 139 #[.int .i64 (k : Int)] w fun e w' => e = .returned (.bool (decide (k % 2 = 1))) ∧ w = w' := by
 have hz : ((k : Int) % 2 != 0) = decide (k % 2 = 1) := by
  rw [Bool.eq_iff_iff, bne_iff_ne, decide_eq_true_iff]; omega
 have HZ := Lib.hid hz
 clear hz
 go_enter Tryz.func139, Tryz.ntmps139
 go_wp2_with fail
 go_ret
 exact ⟨ret_bool (by first | exact HZ.out | (rw [← HZ.out]; rfl) | (rw [← HZ.out, Int.tmod_eq_emod_of_nonneg (by omega)])), rfl⟩
theorem not_fit {p : Rat} {k : Nat} (h : ¬ QOk (p ^ k)) : fitB (tp p ^ k) = false ∨ (fitB (tp p ^ k) = true ∧ fitB (p.den ^ k) = false) := by
 cases h1 : fitB (tp p ^ k) with
 | false => exact .inl rfl
 | true =>
  cases h2 : fitB (p.den ^ k) with
  | false => exact .inr ⟨rfl, rfl⟩
  | true => exact absurd (pow_fits.1 (by rw [h1, h2]; rfl)) h
theorem yes_fit {p : Rat} {k : Nat} (h : QOk (p ^ k)) : fitB (tp p ^ k) = true ∧ fitB (p.den ^ k) = true ∧ Ok (tp p ^ k) ∧ Ok (p.den ^ k) := by
 have := pow_fits.2 h
 rw [Bool.and_eq_true] at this
 exact ⟨this.1, this.2, fitB_iff.1 this.1, fitB_iff.1 this.2⟩
set_option maxHeartbeats 6400000 in
set_option maxRecDepth 100000 in
theorem rPow_pos_p {p : Rat} {k : Nat} (w : World) (op : QOk p) (hk : k ≤ 9223372036854775807) (hm : ng p = false) :
  Calls Tryz.prog 108 #[.string (qstr p), .int .i64 (k : Int)] w (RQ (p ^ k) w) := by
 have HT := Lib.hid (rread_q op w)
 unfold RQ
 obtain ⟨⟨t1, t2⟩, hT⟩ : ∃ T, wQ (p ^ k) = T := ⟨_, rfl⟩
 rw [hT]
 have HTT := Lib.hid hT
 clear hT
 obtain ⟨dd, hdd⟩ : ∃ dd, dd = decide (k % 2 = 1) := ⟨_, rfl⟩
 have HO := Lib.hid op
 have HK := Lib.hid hk
 have MM := Lib.hid (show false = (ng p && decide (k % 2 = 1)) by rw [hm]; first | (rw [hdd]; simp) | simp)
 have HODD := Lib.hid (show ∀ W, Calls Tryz.prog 139 #[.int .i64 (k : Int)] W fun e w' => e = .returned (.bool dd) ∧ W = w' from fun W => hdd ▸ rodd_nat k W)
 have n1 : ¬ ((k : Int) < 0) := by omega
 have n2 : ((k : Int) == -9223372036854775808) = false := by rw [beq_eq_false_iff_ne]; omega
 clear op hk hdd
 generalize qstr p = sp at HT ⊢
 go_enter Tryz.func108, Tryz.ntmps108
 go_wp2_with fail
 refine HT.out.mono ?_
 rintro e w1 ⟨v, rfl, hv, hb1⟩
 obtain ⟨a1, k1, a2, k2, rfl⟩ := hv.form
 rw [hm]
 obtain ⟨hb2, hq1⟩ := one_newQ w1 false (.slice a1 (ln (tp p)) k1) (.slice a2 (ln p.den) k2)
 have HX := Lib.hid (hv.below hb2).nums.2.1
 have HY := Lib.hid (hv.below hb2).nums.2.2
 have HB := Lib.hid (hb1.trans (hb2.mono hb1.size))
 have HQ1 := Lib.hid hq1
 clear hv hb1 hb2 hq1 HT
 go_wp2_with fail
 generalize w1.alloc (.cells #[.bool false, .slice a1 (ln (tp p)) k1, .slice a2 (ln p.den) k2] 61) = w2 at HX HY HB HQ1 ⊢
 have c0 := HQ1.out.c0
 have c1 := HQ1.out.c1
 have c2 := HQ1.out.c2
 refine (ipower_any (a := tp p) (n := k) HX.out HO.out.1 HK.out).mono ?_
 rintro e w3 ⟨v1, rfl, hp1, hb3⟩
 replace HB := Lib.hid (HB.out.trans (hb3.mono HB.out.size))
 replace HQ1 := Lib.hid (HQ1.out.keep hb3)
 replace HY := Lib.hid (HY.out.below hb3)
 have HP1 := Lib.hid hp1
 have i2 := HQ1.out.c2
 clear hp1 hb3 HX c0 c1 c2
 go_wp2_with fail
 refine (ipower_any (a := p.den) (n := k) HY.out HO.out.2 HK.out).mono ?_
 rintro e w4 ⟨v2, rfl, hp2, hb4⟩
 replace HB := Lib.hid (HB.out.trans (hb4.mono HB.out.size))
 have HP2 := Lib.hid hp2
 have HB4 := Lib.hid hb4
 clear hp2 hb4 HY HQ1 i2
 by_cases ho : QOk (p ^ k)
 ·obtain ⟨f1, f2, o1, o2⟩ := yes_fit ho
  rw [f1, f2]
  have hn1 := (HP1.out o1).below HB4.out
  have hn2 := HP2.out o2
  have hw := rwrite_q (qq_pow (p := p) (k := k) MM.out hn1 hn2) (ho.ql.mono (by omega))
  unfold RQ at hw
  rw [HTT.out] at hw
  have HW := Lib.hid hw
  clear hw
  obtain ⟨a7, k7, rfl⟩ := islice_any hn1
  obtain ⟨a8, k8, rfl⟩ := islice_any hn2
  clear hn1 hn2 f1 f2 o1 o2 ho HP1 HP2 HO HK HB4 MM HTT
  go_wp2_with fail
  refine HW.out.mono ?_
  rintro e w5 ⟨rfl, hb5⟩
  replace HB := Lib.hid (HB.out.trans (hb5.mono HB.out.size))
  clear hb5 HW
  go_wp2_with fail
  go_ret2
  exact ⟨rfl, HB.out⟩
 ·obtain ⟨rfl, rfl⟩ : t1 = ⟨#[]⟩ ∧ t2 = 5 := by have := HTT.out.symm.trans (wQ_no ho); exact ⟨congrArg Prod.fst this, congrArg Prod.snd this⟩
  rcases not_fit ho with f1 | ⟨f1, f2⟩
  ·rw [f1]
   clear f1 ho HP1 HP2 HO HK HB4 MM HTT
   go_wp2_with fail
   go_ret2
   exact ⟨rfl, HB.out⟩
  ·rw [f1, f2]
   clear f1 f2 ho HP1 HP2 HO HK HB4 MM HTT
   go_wp2_with fail
   go_ret2
   exact ⟨rfl, HB.out⟩
end Go.Proofs.YtjpepjooefkbkaaGreatDoor
