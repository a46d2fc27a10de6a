/-
  The contracts of Mul, compare, Sub and Cmp at texts that are numerals; Sub of a greater number.
-/
import Derived.Test.YtiocehlefpbbhaaGreatDoorW13
namespace Go.Proofs.YtiocehlefpbbhaaGreatDoor
open Go.RowKit NV
open Go.Lib (decDigits)

theorem dv_cons (c : UInt8) (l : List UInt8) : dv (c :: l) = (c.toNat - 48) * 10 ^ l.length + dv l := by
  have := dv_append [c] l
  rw [List.singleton_append] at this
  rw [this]
  simp [dv]

theorem cmp_digits : ∀ (l m : List UInt8), l.length = m.length → Digs l → Digs m → Go.Lib.compareBytes l m = cmpN (dv l) (dv m)
  | [], [], _, _, _ => rfl
  | [], c :: m, h, _, _ => by simp at h
  | c :: l, [], h, _, _ => by simp at h
  | c :: l, d :: m, h, hl, hm => by
    have hlen : l.length = m.length := by simpa using h
    have hc := hl c (by simp)
    have hd := hm d (by simp)
    have hl' : Digs l := fun x hx => hl x (by simp [hx])
    have hm' : Digs m := fun x hx => hm x (by simp [hx])
    have h1 := dv_lt hl'
    have h2 := dv_lt hm'
    rw [Go.Lib.compareBytes, dv_cons, dv_cons, hlen]
    rw [hlen] at h1
    have hp : 0 < 10 ^ m.length := Nat.pow_pos (by omega)
    by_cases hcd : c < d
    · rw [if_pos hcd]
      have : c.toNat < d.toNat := UInt8.lt_iff_toNat_lt.1 hcd
      have h3 : (c.toNat - 48 + 1) * 10 ^ m.length ≤ (d.toNat - 48) * 10 ^ m.length := Nat.mul_le_mul_right _ (by omega)
      rw [Nat.add_mul, Nat.one_mul] at h3
      exact (cmpN_lt (by omega)).symm
    · rw [if_neg hcd]
      by_cases hdc : d < c
      · rw [if_pos hdc]
        have : d.toNat < c.toNat := UInt8.lt_iff_toNat_lt.1 hdc
        have h3 : (d.toNat - 48 + 1) * 10 ^ m.length ≤ (c.toNat - 48) * 10 ^ m.length := Nat.mul_le_mul_right _ (by omega)
        rw [Nat.add_mul, Nat.one_mul] at h3
        exact (cmpN_gt (by omega)).symm
      · rw [if_neg hdc]
        have e : c = d := by
          apply UInt8.toNat_inj.1
          rw [UInt8.lt_iff_toNat_lt] at hcd hdc
          omega
        subst e
        rw [cmp_digits l m hlen hl' hm']
        unfold cmpN
        congr 1
        · simp
        · congr 1; simp

set_option maxHeartbeats 800000 in
/-- compare compares two numbers. -/
theorem compare_any (a b : Nat) (ha : Ok a) (hb : Ok b) (w : World) :
    Calls Tryz.prog 33 #[.string (dstr a), .string (dstr b)] w fun e w' => e = .returned (.int .i64 (cmpN a b)) ∧ w = w' := by
  have hsa := dstr_size a
  have hsb := dstr_size b
  have h1 : (dstr a).size ≤ 4000 := by unfold Ok at ha; omega
  have h2 : (dstr b).size ≤ 4000 := by unfold Ok at hb; omega
  by_cases hl : (dstr a).size = (dstr b).size
  · have HC := Lib.hid (show Go.Lib.compareBytes (dstr a).data.toList (dstr b).data.toList = cmpN a b by
      rw [cmp_digits _ _ (by rw [dstr_list, dstr_list]; omega) (by rw [dstr_list]; exact digs_dec a) (by rw [dstr_list]; exact digs_dec b), dstr_list, dstr_list, dv_dec, dv_dec])
    have hn : ((((dstr a).size : Nat) : Int) != (((dstr b).size : Nat) : Int)) = false := by rw [hl]; simp
    clear hsa hsb hl
    go_enter Tryz.func33, Tryz.ntmps33
    go_wp2_with fail
    refine (Tryz.strings_Compare _ _ _).mono ?_
    rintro e w1 ⟨rfl, rfl⟩
    go_wp2_with fail
    go_ret
    exact ⟨ret_int HC.out, rfl⟩
  · have HC := Lib.hid (show Go.Lib.compareInt (((dstr a).size : Nat) : Int) (((dstr b).size : Nat) : Int) = cmpN a b by
      unfold Go.Lib.compareInt
      by_cases hab : a < b
      · have := dec_len_mono (Nat.le_of_lt hab)
        rw [cmpN_lt hab, if_pos (by omega)]
      · have := dec_len_mono (show b ≤ a by omega)
        have hne : b < a := by
          by_cases e : a = b
          · subst e; exact absurd rfl hl
          · omega
        rw [cmpN_gt hne, if_neg (by omega), if_pos (by omega)])
    have hn : ((((dstr a).size : Nat) : Int) != (((dstr b).size : Nat) : Int)) = true := by rw [bne_iff_ne]; omega
    clear hsa hsb hl
    go_enter Tryz.func33, Tryz.ntmps33
    go_wp2_with fail
    refine (Tryz.cmp_Compare_int _ _ _).mono ?_
    rintro e w1 ⟨rfl, rfl⟩
    go_wp2_with fail
    go_ret
    exact ⟨ret_int HC.out, rfl⟩

set_option maxHeartbeats 1600000 in
set_option maxRecDepth 100000 in
/-- Mul: the product. -/
theorem Mul_ok (a b : Nat) (ha : Ok a) (hb : Ok b) (hab : Ok (a * b)) (w : World) (htab : Tab w) :
    Calls Tryz.prog 10 #[.string (dstr a), .string (dstr b)] w fun e w' => e = .returned (.tuple #[.string (dstr (a * b)), .int .i64 0]) ∧ Below w.heap.size w w' := by
  have hla := ha.ln
  have hlb := hb.ln
  have HT := Lib.hid htab
  clear htab
  go_enter Tryz.func10, Tryz.ntmps10
  go_wp2_with fail
  refine (checkAll_ok a b ha hb w _).mono ?_
  rintro e w1 ⟨rfl, rfl⟩
  go_wp2_with fail
  have hb1 : Below w.heap.size w (w.alloc (.cells #[.string (dstr a), .string (dstr b)] 22)) := (Below.refl _ _).alloc (Nat.le_refl _) _
  have HB1 := Lib.hid hb1
  generalize w.alloc (.cells #[.string (dstr a), .string (dstr b)] 22) = w1 at HB1 ⊢
  clear hb1
  refine (parse_dec a ha w1).mono ?_
  rintro e w2 ⟨x, rfl, hx, hb2⟩
  have HX := Lib.hid hx.num
  have HB2 := Lib.hid hb2
  clear hx hb2
  go_wp2_with fail
  refine (parse_dec b hb w2).mono ?_
  rintro e w3 ⟨y, rfl, hy, hb3⟩
  have HP := Lib.hid (times_any (HX.out.below hb3) hy.num (by omega) (by omega))
  have HB3 := Lib.hid (HB1.out.trans ((HB2.out.mono HB1.out.size).trans (hb3.mono (Nat.le_trans HB1.out.size HB2.out.size))))
  clear hy hb3 HB2 HX
  go_wp2_with fail
  refine HP.out.mono ?_
  rintro e w4 ⟨z, rfl, hz, hb4⟩
  have hb5 := HB3.out.trans (hb4.mono HB3.out.size)
  have HR := Lib.hid (result_ok hz hab (HT.out.below hb5))
  have HB4 := Lib.hid hb5
  clear hz hb4 hb5 HP
  go_wp2_with fail
  refine HR.out.mono ?_
  rintro e w5 ⟨rfl, hb6⟩
  have HB5 := Lib.hid (HB4.out.trans (hb6.mono HB4.out.size))
  clear hb6 HR
  go_wp2_with fail
  go_ret2
  exact ⟨rfl, HB5.out⟩

set_option maxHeartbeats 1600000 in
set_option maxRecDepth 100000 in
/-- Sub: the difference. -/
theorem Sub_ok (a b : Nat) (ha : Ok a) (hb : Ok b) (hba : b ≤ a) (w : World) (htab : Tab w) :
    Calls Tryz.prog 8 #[.string (dstr a), .string (dstr b)] w fun e w' => e = .returned (.tuple #[.string (dstr (a - b)), .int .i64 0]) ∧ Below w.heap.size w w' := by
  have hla := ha.ln
  have hlb := hb.ln
  have HT := Lib.hid htab
  have HBA := Lib.hid hba
  have HCM := Lib.hid (show cmpN a b = 0 ∨ cmpN a b = 1 by unfold cmpN; split <;> (try split) <;> omega)
  clear htab hba
  go_enter Tryz.func8, Tryz.ntmps8
  go_wp2_with fail
  refine (checkAll_ok a b ha hb w _).mono ?_
  rintro e w1 ⟨rfl, rfl⟩
  go_wp2_with fail
  have hb1 : Below w.heap.size w (w.alloc (.cells #[.string (dstr a), .string (dstr b)] 22)) := (Below.refl _ _).alloc (Nat.le_refl _) _
  have HB1 := Lib.hid hb1
  generalize w.alloc (.cells #[.string (dstr a), .string (dstr b)] 22) = w1 at HB1 ⊢
  clear hb1
  refine (compare_any a b ha hb w1).mono ?_
  rintro e w1' ⟨rfl, rfl⟩
  have hc0 : 0 ≤ cmpN a b := by rcases HCM.out with h | h <;> omega
  go_wp2_with fail
  refine (parse_dec a ha w1).mono ?_
  rintro e w2 ⟨x, rfl, hx, hb2⟩
  have HX := Lib.hid hx.num
  have HB2 := Lib.hid hb2
  clear hx hb2
  go_wp2_with fail
  refine (parse_dec b hb w2).mono ?_
  rintro e w3 ⟨y, rfl, hy, hb3⟩
  have HP := Lib.hid (minus_any (HX.out.below hb3) hy.num (by omega) HBA.out)
  have HB3 := Lib.hid (HB1.out.trans ((HB2.out.mono HB1.out.size).trans (hb3.mono (Nat.le_trans HB1.out.size HB2.out.size))))
  clear hy hb3 HB2 HX
  go_wp2_with fail
  refine HP.out.mono ?_
  rintro e w4 ⟨z, rfl, hz, hb4⟩
  have hb5 := HB3.out.trans (hb4.mono HB3.out.size)
  have HR := Lib.hid (result_ok hz.num (ha.mono (Nat.sub_le _ _)) (HT.out.below hb5))
  have HB4 := Lib.hid hb5
  clear hz hb4 hb5 HP
  go_wp2_with fail
  refine HR.out.mono ?_
  rintro e w5 ⟨rfl, hb6⟩
  have HB5 := Lib.hid (HB4.out.trans (hb6.mono HB4.out.size))
  clear hb6 HR
  go_wp2_with fail
  go_ret2
  exact ⟨rfl, HB5.out⟩

set_option maxHeartbeats 800000 in
/-- Cmp compares two numbers. -/
theorem Cmp_ok (a b : Nat) (ha : Ok a) (hb : Ok b) (w : World) :
    Calls Tryz.prog 22 #[.string (dstr a), .string (dstr b)] w fun e w' => e = .returned (.int .i64 (cmpN a b)) ∧ Below w.heap.size w w' := by
  go_enter Tryz.func22, Tryz.ntmps22
  go_wp2_with fail
  refine (checkAll_ok a b ha hb w _).mono ?_
  rintro e w1 ⟨rfl, rfl⟩
  go_wp2_with fail
  refine (compare_any a b ha hb _).mono ?_
  rintro e w1 ⟨rfl, rfl⟩
  go_wp2_with fail
  go_ret
  exact ⟨rfl, (Below.refl _ _).alloc (Nat.le_refl _) _⟩

end Go.Proofs.YtiocehlefpbbhaaGreatDoor
