/-
  The contracts of nat's checkAll at two texts, and of its parse. The contracts of result, compare, Add, Sub, Mul and Cmp at texts that are numerals. The contracts of Mul, compare, Sub and Cmp at texts that are numerals; Sub of a greater number. The contracts of DivMod and Pow at texts that are numerals.
-/
import Derived.Test.YteojekiocecdnaaGreatDoorGC
import Derived.Test.YteojekiocecdnaaGreatDoorGJ
namespace Go.Proofs.YteojekiocecdnaaGreatDoor
open Go.RowKit NV

/-- The error of the first text that has one. -/
def bothN (l m : List UInt8) : Nat := if chk l = 0 then chk m else chk l

set_option maxHeartbeats 800000 in
set_option maxRecDepth 100000 in
theorem checkAll_any (s t : ByteArray) (w : World) (g : Nat) (hs : s.size ≤ 140737488351232) (ht : t.size ≤ 140737488351232)
    (h0 : w.cell? ⟨g, 0, none⟩ = some (.string s)) (h1 : w.cell? ⟨g, 1, none⟩ = some (.string t)) :
    Calls Tryz.prog 176 #[.slice (some ⟨g, 0, none⟩) 2 2] w fun e w' => e = .returned (.int .i64 ((bothN s.data.toList t.data.toList : Nat) : Int)) ∧ w = w' := by
  by_cases hc : chk s.data.toList = 0
  · have HB := Lib.hid (show bothN s.data.toList t.data.toList = chk t.data.toList by unfold bothN; rw [if_pos hc])
    have hz : (((chk s.data.toList : Nat) : Int) != 0) = false := by rw [hc]; rfl
    clear hc
    by_cases hd : chk t.data.toList = 0
    · have HZ := Lib.hid hd
      have hz2 : (((chk t.data.toList : Nat) : Int) != 0) = false := by rw [hd]; rfl
      clear hd
      go_enter Tryz.func176, Tryz.ntmps176
      go_wp2_with fail
      refine wp_loop_rounds 3 ?_
      rw [rounds_succ]
      go_wp2_with fail
      refine (check_any s _ hs).mono ?_
      rintro e w' ⟨rfl, rfl⟩
      go_wp2_with fail
      rw [rounds_succ]
      go_wp2_with fail
      refine (check_any t _ ht).mono ?_
      rintro e w' ⟨rfl, rfl⟩
      go_wp2_with fail
      rw [rounds_succ]
      go_wp2_with fail
      go_ret
      exact ⟨by rw [HB.out, HZ.out]; rfl, rfl⟩
    · have hz2 : (((chk t.data.toList : Nat) : Int) != 0) = true := by rw [bne_iff_ne]; omega
      clear hd
      go_enter Tryz.func176, Tryz.ntmps176
      go_wp2_with fail
      refine wp_loop_rounds 3 ?_
      rw [rounds_succ]
      go_wp2_with fail
      refine (check_any s _ hs).mono ?_
      rintro e w' ⟨rfl, rfl⟩
      go_wp2_with fail
      rw [rounds_succ]
      go_wp2_with fail
      refine (check_any t _ ht).mono ?_
      rintro e w' ⟨rfl, rfl⟩
      go_wp2_with fail
      go_ret
      exact ⟨by rw [HB.out]; rfl, rfl⟩
  · have HB := Lib.hid (show bothN s.data.toList t.data.toList = chk s.data.toList by unfold bothN; rw [if_neg hc])
    have hz : (((chk s.data.toList : Nat) : Int) != 0) = true := by rw [bne_iff_ne]; omega
    clear hc
    go_enter Tryz.func176, Tryz.ntmps176
    go_wp2_with fail
    refine wp_loop_rounds 3 ?_
    rw [rounds_succ]
    go_wp2_with fail
    refine (check_any s _ hs).mono ?_
    rintro e w' ⟨rfl, rfl⟩
    go_wp2_with fail
    go_ret
    exact ⟨by rw [HB.out]; rfl, rfl⟩

set_option maxHeartbeats 800000 in
/-- nat.parse is Parse. -/
theorem parse_any (s : ByteArray) (w : World) (hs : s.size ≤ 1000000) (hd : Digs s.data.toList) :
    Calls Tryz.prog 154 #[.string s] w fun e w' => ∃ v, e = .returned v ∧ Own w' w.heap.size v (dv s.data.toList) ∧ Below w.heap.size w w' := by
  have HP := Lib.hid (eparse_any s w hs hd)
  clear hs hd
  go_enter Tryz.func154, Tryz.ntmps154
  go_wp2_with fail
  refine HP.out.mono ?_
  rintro e w' ⟨v, rfl, hv, hb⟩
  have HV := Lib.hid (And.intro hv hb)
  obtain ⟨g, c, rfl⟩ := hv.1
  clear hv hb
  go_wp2_with fail
  go_ret
  exact ⟨_, rfl, HV.out.1, HV.out.2⟩

open Go.RowKit NV
open Go.Lib (decDigits)

theorem parse_dec (n : Nat) (h : Ok n) (w : World) : Calls Tryz.prog 154 #[.string (dstr n)] w fun e w' => ∃ v, e = .returned v ∧ Own w' w.heap.size v n ∧ Below w.heap.size w w' := by
  have hp := parse_any (dstr n) w (by rw [dstr_size]; unfold Ok at h; omega) (by rw [dstr_list]; exact digs_dec n)
  rw [dstr_list, dv_dec] at hp
  exact hp

theorem bothN_ok {a b : Nat} (ha : Ok a) (hb : Ok b) : bothN (decDigits a) (decDigits b) = 0 := by
  unfold bothN; rw [if_pos ha.chk, hb.chk]

set_option maxHeartbeats 800000 in
theorem result_ok {w : World} {v : Value} {n : Nat} (h : Num w v n) (hn : Ok n) (htab : Tab w) :
    Calls Tryz.prog 156 #[v] w fun e w' => e = .returned (.tuple #[.string (dstr n), .int .i64 0]) ∧ Below w.heap.size w w' := by
  have hl := hn.ln
  have hok : ((decDigits n).length : Int) ≤ 4000 := by unfold Ok at hn; omega
  have HD := Lib.hid (digits_any h (by omega))
  have HX := Lib.hid (text_any h (by omega) htab)
  clear htab h hl hn
  go_enter Tryz.func156, Tryz.ntmps156
  go_wp2_with fail
  refine HD.out.mono ?_
  rintro e w1 ⟨rfl, rfl⟩
  go_wp2_with fail
  refine HX.out.mono ?_
  rintro e w2 ⟨rfl, hb2⟩
  have HB := Lib.hid hb2
  clear hb2
  go_wp2_with fail
  go_ret2
  exact ⟨rfl, HB.out⟩

set_option maxHeartbeats 800000 in
theorem result_over {w : World} {v : Value} {n : Nat} (h : Num w v n) (hn : ¬ Ok n) (hl : ln n ≤ 1000000) :
    Calls Tryz.prog 156 #[v] w fun e w' => e = .returned (.tuple #[.string ⟨#[]⟩, .int .i64 5]) ∧ w = w' := by
  have hok : (4000 : Int) < ((decDigits n).length : Int) := by unfold Ok at hn; omega
  have HD := Lib.hid (digits_any h (by omega))
  clear h hn
  go_enter Tryz.func156, Tryz.ntmps156
  go_wp2_with fail
  refine HD.out.mono ?_
  rintro e w1 ⟨rfl, rfl⟩
  go_wp2_with fail
  go_ret2
  exact ⟨rfl, rfl⟩

theorem two_cellsN {w : World} (s t : ByteArray) (e : TypeId) : (w.alloc (.cells #[.string s, .string t] e)).cell? ⟨w.heap.size, 0, none⟩ = some (.string s) ∧ (w.alloc (.cells #[.string s, .string t] e)).cell? ⟨w.heap.size, 1, none⟩ = some (.string t) := by
  constructor
  · rw [Lib.cell_of_heap (heap_alloc_new w _)]; rfl
  · rw [Lib.cell_of_heap (heap_alloc_new w _)]; rfl

/-- checkAll at two numbers, in the world where their slice has just been made. -/
theorem checkAll_ok (a b : Nat) (ha : Ok a) (hb : Ok b) (w : World) (e : TypeId) :
    Calls Tryz.prog 176 #[.slice (some ⟨w.heap.size, 0, none⟩) 2 2] (w.alloc (.cells #[.string (dstr a), .string (dstr b)] e)) fun x w' => x = .returned (.int .i64 0) ∧ w.alloc (.cells #[.string (dstr a), .string (dstr b)] e) = w' := by
  have h := checkAll_any (dstr a) (dstr b) (w.alloc (.cells #[.string (dstr a), .string (dstr b)] e)) w.heap.size (small_str ha) (small_str hb) (two_cellsN _ _ _).1 (two_cellsN _ _ _).2
  rw [dstr_list, dstr_list, bothN_ok ha hb] at h
  exact h

set_option maxHeartbeats 1600000 in
set_option maxRecDepth 100000 in
/-- Add: the sum. -/
theorem Add_ok (a b : Nat) (ha : Ok a) (hb : Ok b) (hab : Ok (a + b)) (w : World) (htab : Tab w) :
    Calls Tryz.prog 134 #[.string (dstr a), .string (dstr b)] w fun e w' => e = .returned (.tuple #[.string (dstr (a + b)), .int .i64 0]) ∧ Below w.heap.size w w' := by
  have hla := ha.ln
  have hlb := hb.ln
  have HT := Lib.hid htab
  clear htab
  go_enter Tryz.func134, Tryz.ntmps134
  go_wp2_with fail
  refine (checkAll_ok a b ha hb w _).mono ?_
  rintro e w1 ⟨rfl, rfl⟩
  go_wp2_with fail
  have hb1 : Below w.heap.size w (w.alloc (.cells #[.string (dstr a), .string (dstr b)] 22)) := (Below.refl _ _).alloc (Nat.le_refl _) _
  have HB1 := Lib.hid hb1
  generalize w.alloc (.cells #[.string (dstr a), .string (dstr b)] 22) = w1 at HB1 ⊢
  clear hb1
  refine (parse_dec a ha w1).mono ?_
  rintro e w2 ⟨x, rfl, hx, hb2⟩
  have HX := Lib.hid hx.num
  have HB2 := Lib.hid hb2
  clear hx hb2
  go_wp2_with fail
  refine (parse_dec b hb w2).mono ?_
  rintro e w3 ⟨y, rfl, hy, hb3⟩
  have HP := Lib.hid (plus_any (HX.out.below hb3) hy.num (by omega) (by omega))
  have HB3 := Lib.hid (HB1.out.trans ((HB2.out.mono HB1.out.size).trans (hb3.mono (Nat.le_trans HB1.out.size HB2.out.size))))
  clear hy hb3 HB2 HX
  go_wp2_with fail
  refine HP.out.mono ?_
  rintro e w4 ⟨z, rfl, hz, hb4⟩
  have hb5 := HB3.out.trans (hb4.mono HB3.out.size)
  have HR := Lib.hid (result_ok hz.num hab (HT.out.below hb5))
  have HB4 := Lib.hid hb5
  clear hz hb4 hb5 HP
  go_wp2_with fail
  refine HR.out.mono ?_
  rintro e w5 ⟨rfl, hb6⟩
  have HB5 := Lib.hid (HB4.out.trans (hb6.mono HB4.out.size))
  clear hb6 HR
  go_wp2_with fail
  go_ret2
  exact ⟨rfl, HB5.out⟩

open Go.RowKit NV
open Go.Lib (decDigits)

theorem dv_cons (c : UInt8) (l : List UInt8) : dv (c :: l) = (c.toNat - 48) * 10 ^ l.length + dv l := by
  have := dv_append [c] l
  rw [List.singleton_append] at this
  rw [this]
  simp [dv]

theorem cmp_digits : ∀ (l m : List UInt8), l.length = m.length → Digs l → Digs m → Go.Lib.compareBytes l m = cmpN (dv l) (dv m)
  | [], [], _, _, _ => rfl
  | [], c :: m, h, _, _ => by simp at h
  | c :: l, [], h, _, _ => by simp at h
  | c :: l, d :: m, h, hl, hm => by
    have hlen : l.length = m.length := by simpa using h
    have hc := hl c (by simp)
    have hd := hm d (by simp)
    have hl' : Digs l := fun x hx => hl x (by simp [hx])
    have hm' : Digs m := fun x hx => hm x (by simp [hx])
    have h1 := dv_lt hl'
    have h2 := dv_lt hm'
    rw [Go.Lib.compareBytes, dv_cons, dv_cons, hlen]
    rw [hlen] at h1
    have hp : 0 < 10 ^ m.length := Nat.pow_pos (by omega)
    by_cases hcd : c < d
    · rw [if_pos hcd]
      have : c.toNat < d.toNat := UInt8.lt_iff_toNat_lt.1 hcd
      have h3 : (c.toNat - 48 + 1) * 10 ^ m.length ≤ (d.toNat - 48) * 10 ^ m.length := Nat.mul_le_mul_right _ (by omega)
      rw [Nat.add_mul, Nat.one_mul] at h3
      exact (cmpN_lt (by omega)).symm
    · rw [if_neg hcd]
      by_cases hdc : d < c
      · rw [if_pos hdc]
        have : d.toNat < c.toNat := UInt8.lt_iff_toNat_lt.1 hdc
        have h3 : (d.toNat - 48 + 1) * 10 ^ m.length ≤ (c.toNat - 48) * 10 ^ m.length := Nat.mul_le_mul_right _ (by omega)
        rw [Nat.add_mul, Nat.one_mul] at h3
        exact (cmpN_gt (by omega)).symm
      · rw [if_neg hdc]
        have e : c = d := by
          apply UInt8.toNat_inj.1
          rw [UInt8.lt_iff_toNat_lt] at hcd hdc
          omega
        subst e
        rw [cmp_digits l m hlen hl' hm']
        unfold cmpN
        congr 1
        · simp
        · congr 1; simp

set_option maxHeartbeats 800000 in
/-- compare compares two numbers. -/
theorem compare_any (a b : Nat) (ha : Ok a) (hb : Ok b) (w : World) :
    Calls Tryz.prog 177 #[.string (dstr a), .string (dstr b)] w fun e w' => e = .returned (.int .i64 (cmpN a b)) ∧ w = w' := by
  have hsa := dstr_size a
  have hsb := dstr_size b
  have h1 : (dstr a).size ≤ 4000 := by unfold Ok at ha; omega
  have h2 : (dstr b).size ≤ 4000 := by unfold Ok at hb; omega
  by_cases hl : (dstr a).size = (dstr b).size
  · have HC := Lib.hid (show Go.Lib.compareBytes (dstr a).data.toList (dstr b).data.toList = cmpN a b by
      rw [cmp_digits _ _ (by rw [dstr_list, dstr_list]; omega) (by rw [dstr_list]; exact digs_dec a) (by rw [dstr_list]; exact digs_dec b), dstr_list, dstr_list, dv_dec, dv_dec])
    have hn : ((((dstr a).size : Nat) : Int) != (((dstr b).size : Nat) : Int)) = false := by rw [hl]; simp
    clear hsa hsb hl
    go_enter Tryz.func177, Tryz.ntmps177
    go_wp2_with fail
    refine (Tryz.strings_Compare _ _ _).mono ?_
    rintro e w1 ⟨rfl, rfl⟩
    go_wp2_with fail
    go_ret
    exact ⟨ret_int HC.out, rfl⟩
  · have HC := Lib.hid (show Go.Lib.compareInt (((dstr a).size : Nat) : Int) (((dstr b).size : Nat) : Int) = cmpN a b by
      unfold Go.Lib.compareInt
      by_cases hab : a < b
      · have := dec_len_mono (Nat.le_of_lt hab)
        rw [cmpN_lt hab, if_pos (by omega)]
      · have := dec_len_mono (show b ≤ a by omega)
        have hne : b < a := by
          by_cases e : a = b
          · subst e; exact absurd rfl hl
          · omega
        rw [cmpN_gt hne, if_neg (by omega), if_pos (by omega)])
    have hn : ((((dstr a).size : Nat) : Int) != (((dstr b).size : Nat) : Int)) = true := by rw [bne_iff_ne]; omega
    clear hsa hsb hl
    go_enter Tryz.func177, Tryz.ntmps177
    go_wp2_with fail
    refine (Tryz.cmp_Compare_int _ _ _).mono ?_
    rintro e w1 ⟨rfl, rfl⟩
    go_wp2_with fail
    go_ret
    exact ⟨ret_int HC.out, rfl⟩

set_option maxHeartbeats 1600000 in
set_option maxRecDepth 100000 in
/-- Mul: the product. -/
theorem Mul_ok (a b : Nat) (ha : Ok a) (hb : Ok b) (hab : Ok (a * b)) (w : World) (htab : Tab w) :
    Calls Tryz.prog 127 #[.string (dstr a), .string (dstr b)] w fun e w' => e = .returned (.tuple #[.string (dstr (a * b)), .int .i64 0]) ∧ Below w.heap.size w w' := by
  have hla := ha.ln
  have hlb := hb.ln
  have HT := Lib.hid htab
  clear htab
  go_enter Tryz.func127, Tryz.ntmps127
  go_wp2_with fail
  refine (checkAll_ok a b ha hb w _).mono ?_
  rintro e w1 ⟨rfl, rfl⟩
  go_wp2_with fail
  have hb1 : Below w.heap.size w (w.alloc (.cells #[.string (dstr a), .string (dstr b)] 22)) := (Below.refl _ _).alloc (Nat.le_refl _) _
  have HB1 := Lib.hid hb1
  generalize w.alloc (.cells #[.string (dstr a), .string (dstr b)] 22) = w1 at HB1 ⊢
  clear hb1
  refine (parse_dec a ha w1).mono ?_
  rintro e w2 ⟨x, rfl, hx, hb2⟩
  have HX := Lib.hid hx.num
  have HB2 := Lib.hid hb2
  clear hx hb2
  go_wp2_with fail
  refine (parse_dec b hb w2).mono ?_
  rintro e w3 ⟨y, rfl, hy, hb3⟩
  have HP := Lib.hid (times_any (HX.out.below hb3) hy.num (by omega) (by omega))
  have HB3 := Lib.hid (HB1.out.trans ((HB2.out.mono HB1.out.size).trans (hb3.mono (Nat.le_trans HB1.out.size HB2.out.size))))
  clear hy hb3 HB2 HX
  go_wp2_with fail
  refine HP.out.mono ?_
  rintro e w4 ⟨z, rfl, hz, hb4⟩
  have hb5 := HB3.out.trans (hb4.mono HB3.out.size)
  have HR := Lib.hid (result_ok hz hab (HT.out.below hb5))
  have HB4 := Lib.hid hb5
  clear hz hb4 hb5 HP
  go_wp2_with fail
  refine HR.out.mono ?_
  rintro e w5 ⟨rfl, hb6⟩
  have HB5 := Lib.hid (HB4.out.trans (hb6.mono HB4.out.size))
  clear hb6 HR
  go_wp2_with fail
  go_ret2
  exact ⟨rfl, HB5.out⟩

set_option maxHeartbeats 1600000 in
set_option maxRecDepth 100000 in
/-- Sub: the difference. -/
theorem Sub_ok (a b : Nat) (ha : Ok a) (hb : Ok b) (hba : b ≤ a) (w : World) (htab : Tab w) :
    Calls Tryz.prog 129 #[.string (dstr a), .string (dstr b)] w fun e w' => e = .returned (.tuple #[.string (dstr (a - b)), .int .i64 0]) ∧ Below w.heap.size w w' := by
  have hla := ha.ln
  have hlb := hb.ln
  have HT := Lib.hid htab
  have HBA := Lib.hid hba
  have HCM := Lib.hid (show cmpN a b = 0 ∨ cmpN a b = 1 by unfold cmpN; split <;> (try split) <;> omega)
  clear htab hba
  go_enter Tryz.func129, Tryz.ntmps129
  go_wp2_with fail
  refine (checkAll_ok a b ha hb w _).mono ?_
  rintro e w1 ⟨rfl, rfl⟩
  go_wp2_with fail
  have hb1 : Below w.heap.size w (w.alloc (.cells #[.string (dstr a), .string (dstr b)] 22)) := (Below.refl _ _).alloc (Nat.le_refl _) _
  have HB1 := Lib.hid hb1
  generalize w.alloc (.cells #[.string (dstr a), .string (dstr b)] 22) = w1 at HB1 ⊢
  clear hb1
  refine (compare_any a b ha hb w1).mono ?_
  rintro e w1' ⟨rfl, rfl⟩
  have hc0 : 0 ≤ cmpN a b := by rcases HCM.out with h | h <;> omega
  go_wp2_with fail
  refine (parse_dec a ha w1).mono ?_
  rintro e w2 ⟨x, rfl, hx, hb2⟩
  have HX := Lib.hid hx.num
  have HB2 := Lib.hid hb2
  clear hx hb2
  go_wp2_with fail
  refine (parse_dec b hb w2).mono ?_
  rintro e w3 ⟨y, rfl, hy, hb3⟩
  have HP := Lib.hid (minus_any (HX.out.below hb3) hy.num (by omega) HBA.out)
  have HB3 := Lib.hid (HB1.out.trans ((HB2.out.mono HB1.out.size).trans (hb3.mono (Nat.le_trans HB1.out.size HB2.out.size))))
  clear hy hb3 HB2 HX
  go_wp2_with fail
  refine HP.out.mono ?_
  rintro e w4 ⟨z, rfl, hz, hb4⟩
  have hb5 := HB3.out.trans (hb4.mono HB3.out.size)
  have HR := Lib.hid (result_ok hz.num (ha.mono (Nat.sub_le _ _)) (HT.out.below hb5))
  have HB4 := Lib.hid hb5
  clear hz hb4 hb5 HP
  go_wp2_with fail
  refine HR.out.mono ?_
  rintro e w5 ⟨rfl, hb6⟩
  have HB5 := Lib.hid (HB4.out.trans (hb6.mono HB4.out.size))
  clear hb6 HR
  go_wp2_with fail
  go_ret2
  exact ⟨rfl, HB5.out⟩

set_option maxHeartbeats 800000 in
/-- Cmp compares two numbers. -/
theorem Cmp_ok (a b : Nat) (ha : Ok a) (hb : Ok b) (w : World) :
    Calls Tryz.prog 116 #[.string (dstr a), .string (dstr b)] w fun e w' => e = .returned (.int .i64 (cmpN a b)) ∧ Below w.heap.size w w' := by
  go_enter Tryz.func116, Tryz.ntmps116
  go_wp2_with fail
  refine (checkAll_ok a b ha hb w _).mono ?_
  rintro e w1 ⟨rfl, rfl⟩
  go_wp2_with fail
  refine (compare_any a b ha hb _).mono ?_
  rintro e w1 ⟨rfl, rfl⟩
  go_wp2_with fail
  go_ret
  exact ⟨rfl, (Below.refl _ _).alloc (Nat.le_refl _) _⟩

open Go.RowKit NV
open Go.Lib (decDigits)

theorem dstr_ne_zero {b : Nat} (h : b ≠ 0) : ((dstr b).toList == [48]) = false := by
  rw [Go.Lib.toList_data, dstr_list]
  apply beq_eq_false_iff_ne.2
  intro e
  have h0 : decDigits 0 = [48] := by rw [dec_small (by omega)]; rfl
  exact h (dec_inj (e.trans h0.symm))

set_option maxHeartbeats 1600000 in
set_option maxRecDepth 100000 in
/-- DivMod: the quotient and the remainder. -/
theorem DivMod_ok (a b : Nat) (ha : Ok a) (hb : Ok b) (hb0 : b ≠ 0) (w : World) (htab : Tab w) :
    Calls Tryz.prog 128 #[.string (dstr a), .string (dstr b)] w fun e w' => e = .returned (.tuple #[.string (dstr (a / b)), .string (dstr (a % b)), .int .i64 0]) ∧ Below w.heap.size w w' := by
  have hla := ha.ln
  have hlb := hb.ln
  have hlq : ln (a / b) ≤ 1000000 := by have := ln_mono (Nat.div_le_self a b); omega
  have hlr : ln (a % b) ≤ 1000000 := by have := ln_mono (Nat.mod_le a b); omega
  have HT := Lib.hid htab
  have hz := dstr_ne_zero hb0
  clear htab
  go_enter Tryz.func128, Tryz.ntmps128
  go_wp2_with fail
  refine (checkAll_ok a b ha hb w _).mono ?_
  rintro e w1 ⟨rfl, rfl⟩
  go_wp2_with fail
  have hb1 : Below w.heap.size w (w.alloc (.cells #[.string (dstr a), .string (dstr b)] 22)) := (Below.refl _ _).alloc (Nat.le_refl _) _
  have HB1 := Lib.hid hb1
  generalize w.alloc (.cells #[.string (dstr a), .string (dstr b)] 22) = w1 at HB1 ⊢
  clear hb1
  refine (parse_dec a ha w1).mono ?_
  rintro e w2 ⟨x, rfl, hx, hb2⟩
  have HX := Lib.hid hx.num
  have HB2 := Lib.hid hb2
  clear hx hb2
  go_wp2_with fail
  refine (parse_dec b hb w2).mono ?_
  rintro e w3 ⟨y, rfl, hy, hb3⟩
  have HP := Lib.hid (divide_any (HX.out.below hb3) hy.num (by omega) (by omega) hb0)
  have HB3 := Lib.hid (HB1.out.trans ((HB2.out.mono HB1.out.size).trans (hb3.mono (Nat.le_trans HB1.out.size HB2.out.size))))
  clear hy hb3 HB2 HX
  go_wp2_with fail
  refine HP.out.mono ?_
  rintro e w4 ⟨q, r, rfl, hq, hr, hb4⟩
  have hb5 := HB3.out.trans (hb4.mono HB3.out.size)
  have HQ := Lib.hid (text_any hq hlq (HT.out.below hb5))
  have HR := Lib.hid hr
  have HB4 := Lib.hid hb5
  clear hq hr hb4 hb5 HP
  go_wp2_with fail
  refine HQ.out.mono ?_
  rintro e w5 ⟨rfl, hb6⟩
  have hb7 := HB4.out.trans (hb6.mono HB4.out.size)
  have HR5 := Lib.hid (text_any (HR.out.below hb6) hlr (HT.out.below hb7))
  have HB5 := Lib.hid hb7
  clear hb6 hb7 HQ HR
  go_wp2_with fail
  refine HR5.out.mono ?_
  rintro e w6 ⟨rfl, hb8⟩
  have HB6 := Lib.hid (HB5.out.trans (hb8.mono HB5.out.size))
  clear hb8 HR5
  go_wp2_with fail
  go_ret3
  exact ⟨rfl, HB6.out⟩

set_option maxHeartbeats 1600000 in
set_option maxRecDepth 100000 in
/-- Pow: the power, if it fits. -/
theorem Pow_ok (a n : Nat) (ha : Ok a) (hn : n ≤ 9223372036854775807) (hp : Ok (a ^ n)) (w : World) (htab : Tab w) :
    Calls Tryz.prog 94 #[.string (dstr a), .int .i64 n] w fun e w' => e = .returned (.tuple #[.string (dstr (a ^ n)), .int .i64 0]) ∧ Below w.heap.size w w' := by
  have hc := check_any (dstr a) w (small_str ha)
  rw [dstr_list, ha.chk] at hc
  have hla := ha.ln
  have HC := Lib.hid hc
  have HT := Lib.hid htab
  have HP := Lib.hid hp
  clear hc htab hp
  go_enter Tryz.func94, Tryz.ntmps94
  go_wp2_with fail
  refine HC.out.mono ?_
  rintro e w1 ⟨rfl, rfl⟩
  go_wp2_with fail
  refine (parse_dec a ha w).mono ?_
  rintro e w2 ⟨x, rfl, hx, hb2⟩
  have hpw := power_any (n := n) hx.num ha (by omega)
  rw [fitB_yes HP.out] at hpw
  have HPW := Lib.hid hpw
  have HB2 := Lib.hid hb2
  clear hx hb2 hpw
  go_wp2_with fail
  refine HPW.out.mono ?_
  rintro e w3 ⟨v, rfl, hv, hb3⟩
  have hb4 := HB2.out.trans (hb3.mono HB2.out.size)
  have HR := Lib.hid (result_ok (hv HP.out) HP.out (HT.out.below hb4))
  have HB4 := Lib.hid hb4
  clear hv hb3 hb4 HPW
  go_wp2_with fail
  refine HR.out.mono ?_
  rintro e w4 ⟨rfl, hb5⟩
  have HB5 := Lib.hid (HB4.out.trans (hb5.mono HB4.out.size))
  clear hb5 HR
  go_wp2_with fail
  go_ret2
  exact ⟨rfl, HB5.out⟩

end Go.Proofs.YteojekiocecdnaaGreatDoor
