/-
  The contracts of IsOne, One and Times.
-/
import Derived.Test.YtiocehlefpbbhaaGreatDoorW3
namespace Go.Proofs.YtiocehlefpbbhaaGreatDoor
open Go.RowKit NV

theorem cs_cast (a b p i : Nat) : ((cs a b p (i + 1) : Nat) : Int) = ((cs a b p i : Nat) : Int) + ((dg a i : Nat) : Int) * ((dg b (p - i) : Nat) : Int) := by
  rw [cs]; simp

theorem cell_at_new {w : World} {g : Nat} (h : g = w.heap.size) (v : Value) (e : TypeId) : (w.alloc (.cells #[v] e)).cell? ⟨g, 0, none⟩ = some v := by
  subst h; exact cell_one_new w v e 0 v rfl

theorem prod_bd (a b i j : Nat) : 0 ≤ ((dg a i : Nat) : Int) * ((dg b j : Nat) : Int) ∧ ((dg a i : Nat) : Int) * ((dg b j : Nat) : Int) ≤ 999999998000000001 := by
  have h := dg_prod a b i j
  have e : ((dg a i : Nat) : Int) * ((dg b j : Nat) : Int) = ((dg a i * dg b j : Nat) : Int) := by simp
  rw [e]; omega

/-- Is n 1? -/
def oneB (n : Nat) : Bool := decide (n = 1)
theorem oneB_yes : oneB 1 = true := by simp [oneB]
theorem oneB_no {n : Nat} (h : n ≠ 1) : oneB n = false := by simp [oneB, h]
theorem ret_bool {a b : Bool} (h : a = b) : Ending.returned (.bool a) = .returned (.bool b) := by rw [h]
theorem ln_one : ln 1 = 1 := ln_unique (k := 0) (by simp) (by rw [Nat.pow_one, B_eq]; omega)

theorem eq_dg0 {n : Nat} (h : ln n ≤ 1) : n = dg n 0 := by
  have h1 := lt_pow_ln n
  have h2 : B ^ ln n ≤ B ^ 1 := Nat.pow_le_pow_right B_pos h
  rw [Nat.pow_one] at h2
  rw [dg, Nat.pow_zero, Nat.div_one, Nat.mod_eq_of_lt (by omega)]

set_option maxHeartbeats 800000 in
/-- IsOne tells whether the number is 1. -/
theorem isOne_any {w : World} {x : Value} {n : Nat} (hx : Num w x n) :
    Calls Tryz.prog 57 #[x] w fun e w' => e = .returned (.bool (oneB n)) ∧ w = w' := by
  by_cases h1 : ln n = 1
  · obtain ⟨xb, xc, rfl, _, _⟩ := slice_form hx (by omega)
    have c0 := hx.cell (j := 0) (by omega)
    have hd := eq_dg0 (n := n) (by omega)
    have HD := Lib.hid hd
    by_cases hn1 : dg n 0 = 1
    · have HR := Lib.hid (show true = oneB n by have := HD.out; rw [this, hn1, oneB_yes])
      rw [h1]
      rw [hn1] at c0
      clear hx h1 hd hn1
      go_enter Tryz.func57, Tryz.ntmps57
      go_wp2_with fail
      go_ret
      exact ⟨ret_bool HR.out, rfl⟩
    · have HR := Lib.hid (show false = oneB n by rw [oneB_no (by rw [hd]; exact hn1)])
      have hne : (((dg n 0 : Nat) : Int) == 1) = false := by rw [beq_eq_false_iff_ne]; omega
      rw [h1]
      clear hx h1 hd hn1
      go_enter Tryz.func57, Tryz.ntmps57
      go_wp2_with fail
      go_ret
      exact ⟨ret_bool HR.out, rfl⟩
  · have HR := Lib.hid (show false = oneB n by rw [oneB_no (by intro e; rw [e, ln_one] at h1; exact h1 rfl)])
    obtain ⟨xa, xc, rfl⟩ := slice_any hx
    have hne : (((ln n : Nat) : Int) == 1) = false := by rw [beq_eq_false_iff_ne]; omega
    clear hx h1
    go_enter Tryz.func57, Tryz.ntmps57
    go_wp2_with fail
    go_ret
    exact ⟨ret_bool HR.out, rfl⟩

set_option maxHeartbeats 1600000 in
set_option maxRecDepth 100000 in
/-- Times where neither is 1. -/
theorem times_main {w : World} {x y : Value} {a b : Nat} (hx : Num w x a) (hy : Num w y b) (ha : ln a ≤ 2000000) (hb : ln b ≤ 2000000) (ha1 : a ≠ 1) (hb1 : b ≠ 1) :
    Calls Tryz.prog 37 #[x, y] w fun e w' => ∃ v, e = .returned v ∧ Own w' w.heap.size v (a * b) ∧ Below w.heap.size w w' := by
  obtain ⟨i0, hi, hz0, hz1, hz2⟩ := info_parts info72
  have HOA := Lib.hid (isOne_any hx)
  have HOB := Lib.hid (isOne_any hy)
  rw [oneB_no ha1] at HOA
  rw [oneB_no hb1] at HOB
  obtain ⟨xa, xc, rfl⟩ := slice_any hx
  obtain ⟨ya, yc, rfl⟩ := slice_any hy
  clear ha1 hb1
  have hlt0 : a * b < B ^ (ln a + ln b) := mul_lt_pow (lt_pow_ln a) (lt_pow_ln b)
  have hln := ln_le hlt0
  go_enter Tryz.func37, Tryz.ntmps37
  go_wp2_with fail
  refine HOA.out.mono ?_
  rintro e w' ⟨rfl, rfl⟩
  go_wp2_with fail
  refine HOB.out.mono ?_
  rintro e w' ⟨rfl, rfl⟩
  go_wp2_with (at_make; refine wpList_make_full _ rfl _ _ 40 rfl w.heap.size 65 i0 (.int .u64 0) 1 Tryz.underlying40 hi hz0 hz1 _ _ _ _ (ln a + ln b) rfl rfl (by omega) (by omega) (by rw [hz2]; omega) (by unfold maxLen; omega) (by simp) ?_)
  intro w1 hown1 hgrow1
  have harr : Arr w1 w.heap.size (ln a + ln b) (dgf (a * b) 0) := by rw [dgf_zero]; exact Arr.made (base := w.heap.size) (by rw [Nat.mul_one]; exact hown1)
  have hb1 : Below w.heap.size w w1 := (Below.refl _ _).grown hgrow1 (by simp) (fun k hk => by cases hk)
  clear hown1 hgrow1
  go_wp2
  go_loopw [6, 27] (fun c i wr => ∃ p : Nat, p ≤ ln a + ln b ∧ i = .int .i64 p ∧ c = .int .u64 ((cy a b p : Nat) : Int) ∧ Arr wr w.heap.size (ln a + ln b) (dgf (a * b) p) ∧ Below w.heap.size w wr) (fun _ i _ => ln a + ln b - (intOf i).toNat)
  case atStart => exact ⟨0, Nat.zero_le _, rfl, by rw [cy_zero]; rfl, harr, hb1⟩
  case round =>
    obtain ⟨p, hp, rfl, rfl, har, hbr⟩ := hrel
    clear harr hb1
    obtain ⟨wo, rfl⟩ : ∃ wo : World, wo = wr := ⟨_, rfl⟩
    by_cases hlt : p < ln a + ln b
    · obtain ⟨f, hf⟩ : ∃ f : Nat, f = p + 1 - ln b := ⟨_, rfl⟩
      obtain ⟨l1, hl1⟩ : ∃ l1 : Nat, l1 = if ln a < p + 1 then ln a else p + 1 := ⟨_, rfl⟩
      have hl2 : l1 ≤ ln a ∧ l1 ≤ p + 1 ∧ f ≤ l1 ∧ (l1 = ln a ∨ l1 = p + 1) := by split at hl1 <;> omega
      obtain ⟨g1, g2, g3, g4⟩ := hl2
      have hfb : f ≤ p + 1 ∧ p + 1 ≤ f + ln b := by omega
      have G1 := Lib.hid (show (0 : Int) < (p : Int) - (ln b : Int) + 1 → (f : Int) = (p : Int) - (ln b : Int) + 1 by omega)
      have G2 := Lib.hid (show (p : Int) - (ln b : Int) + 1 ≤ 0 → (f : Int) = 0 by omega)
      have G3 := Lib.hid (show (ln a : Int) - 1 < (p : Int) → (l1 : Int) - 1 = (ln a : Int) - 1 by omega)
      have G4 := Lib.hid (show (p : Int) ≤ (ln a : Int) - 1 → (l1 : Int) - 1 = (p : Int) by omega)
      have hcs0 : cs a b p f = 0 := by
        by_cases h0 : f = 0
        · rw [h0]; rfl
        · exact cs_first a b p f (ln b) (Nat.le_refl _) (by omega)
      have hcs1 : cs a b p l1 = cs a b p (p + 1) := by
        rcases g4 with h | h
        · rw [h]; exact cs_end a b p (ln a) (Nat.le_refl _) (by omega)
        · rw [h]
      have hcy := cy_le a b p (ln a) (Nat.le_refl _)
      have HS := Lib.hid hcs0
      have HE := Lib.hid hcs1
      clear hcs0 hcs1 hf hl1 g4
      have hxo := hx.below hbr
      have hyo := hy.below hbr
      have hsz := hbr.size
      go_wp2_with fail
      refine (greatest_int _ _ (f : Int) G1.out G2.out _ wo.heap.size (cell_one_new _ _ _ 0 _ rfl)).mono ?_
      rintro e w2 ⟨rfl, rfl⟩
      go_wp2_with fail
      refine (least_int _ _ ((l1 : Int) - 1) G3.out G4.out _ (wo.heap.size + 1) (cell_at_new (by simp) _ _)).mono ?_
      rintro e w2 ⟨rfl, rfl⟩
      go_wp2_with fail
      go_loopw [10, 11, 12] (fun c tk i wi => ∃ (C T : Int) (k : Nat), f ≤ k ∧ k ≤ l1 ∧ i = .int .i64 k ∧ c = .int .u64 C ∧ tk = .int .u64 T ∧ 0 ≤ C ∧ C < 8000000000000000000 ∧ 0 ≤ T ∧ T ≤ 8000000000 * (k : Int) ∧ C + 1000000000 * T = ((cy a b p : Nat) : Int) + ((cs a b p k : Nat) : Int) ∧ Below wo.heap.size wo wi) (fun _ _ i _ => l1 - (intOf i).toNat)
      case atStart => exact ⟨((cy a b p : Nat) : Int), 0, f, Nat.le_refl _, g3, rfl, rfl, rfl, by omega, by omega, by omega, by omega, by rw [HS.out]; omega, ((Below.refl _ _).alloc (Nat.le_refl _) _).alloc (by simp) _⟩
      case round =>
        obtain ⟨C, T, k, hfk, hkl, rfl, rfl, rfl, hC0, hC1, hT0, hT1, hCT, hbi⟩ := hrel
        have HCT := Lib.hid hCT
        clear hCT
        have hari := har.below hbi har.lt
        by_cases hkl1 : k < l1
        · obtain ⟨xb, rfl⟩ := hxo.addr (by omega)
          obtain ⟨yb, rfl⟩ := hyo.addr (by omega)
          have c1 := (hxo.below hbi).cell (j := k) (by omega)
          have c2 := (hyo.below hbi).cell (j := p - k) (by omega)
          have pb := prod_bd a b k (p - k)
          have HP := Lib.hid (cs_cast a b p k)
          have hka : k < ln a := by omega
          have hpk : k ≤ p := by omega
          have hpkb : p - k < ln b := by omega
          by_cases hbig : (8000000000000000000 : Int) ≤ C + ((dg a k : Nat) : Int) * ((dg b (p - k) : Nat) : Int)
          · go_wp2_with fail
            go_quiet (fail)
            go_wp2_with fail
            go_roundw
            case rel => exact ⟨_, _, k + 1, by omega, by omega, by go_num, rfl, rfl, by omega, by omega, by omega, by omega, by rw [HP.out]; have := HCT.out; omega, below_drewN hbi _⟩
            case measure => simp [intOf]; omega
          · go_wp2_with fail
            go_quiet (fail)
            go_wp2_with fail
            go_roundw
            case rel => exact ⟨_, _, k + 1, by omega, by omega, by go_num, rfl, rfl, by omega, by omega, by omega, by omega, by rw [HP.out]; have := HCT.out; omega, below_drewN hbi _⟩
            case measure => simp [intOf]; omega
        · obtain rfl : k = l1 := by omega
          have c1 := hari.cell hlt
          have c2 := hari.free p
          have hbw := hbr.trans (hbi.mono hbr.size)
          have hv := Lib.hid (show C % 1000000000 = ((dg (a * b) p : Nat) : Int) by have h1 := HCT.out; have h2 := HE.out; have h3 := dg_mul a b p; omega)
          have hw := Lib.hid (show C / 1000000000 + T = ((cy a b (p + 1) : Nat) : Int) by have h1 := HCT.out; have h2 := HE.out; have h3 := cy_succ a b p; omega)
          go_wp2_with fail
          go_roundw
          case rel => exact ⟨p + 1, by omega, by go_num, by rw [hw.out], by rw [hv.out, ← dgf_step rfl]; exact hari.store p _, hbw.setCell (by simp) _⟩
          case measure => simp [intOf]; omega
    · obtain rfl : p = ln a + ln b := by omega
      have HC := Lib.hid (show ∀ j, j < ln a + ln b → wo.cell? ⟨w.heap.size, j, none⟩ = some (.int .u64 ((dg (a * b) j : Nat) : Int)) from fun j hj => by
        rw [har.cell hj, dgf, if_pos hj])
      go_wp2_with fail
      refine (trim_any (n := a * b) (by omega) (Nat.le_refl _) hlt0 HC.out).mono ?_
      rintro e w2 ⟨rfl, rfl⟩
      go_wp2_with fail
      go_ret
      exact ⟨_, rfl, Arr.own har (by omega) (by omega) hln (fun j hj => by rw [dgf, if_pos (by omega)]), hbr⟩

set_option maxHeartbeats 800000 in
/-- Times returns the product. -/
theorem times_any {w : World} {x y : Value} {a b : Nat} (hx : Num w x a) (hy : Num w y b) (ha : ln a ≤ 2000000) (hb : ln b ≤ 2000000) :
    Calls Tryz.prog 37 #[x, y] w fun e w' => ∃ v, e = .returned v ∧ Num w' v (a * b) ∧ Below w.heap.size w w' := by
  by_cases ha1 : a = 1
  · have HOA := Lib.hid (isOne_any hx)
    rw [ha1, oneB_yes] at HOA
    rw [ha1, Nat.one_mul]
    have HY := Lib.hid hy
    obtain ⟨xa, xc, rfl⟩ := slice_any hx
    obtain ⟨ya, yc, rfl⟩ := slice_any hy
    clear hx hy ha1
    go_enter Tryz.func37, Tryz.ntmps37
    go_wp2_with fail
    refine HOA.out.mono ?_
    rintro e w' ⟨rfl, rfl⟩
    go_wp2_with fail
    go_ret
    exact ⟨_, rfl, HY.out, Below.refl _ _⟩
  · by_cases hb1 : b = 1
    · have HOA := Lib.hid (isOne_any hx)
      have HOB := Lib.hid (isOne_any hy)
      rw [oneB_no ha1] at HOA
      rw [hb1, oneB_yes] at HOB
      rw [hb1, Nat.mul_one]
      have HX := Lib.hid hx
      obtain ⟨xa, xc, rfl⟩ := slice_any hx
      obtain ⟨ya, yc, rfl⟩ := slice_any hy
      clear hx hy ha1 hb1
      go_enter Tryz.func37, Tryz.ntmps37
      go_wp2_with fail
      refine HOA.out.mono ?_
      rintro e w' ⟨rfl, rfl⟩
      go_wp2_with fail
      refine HOB.out.mono ?_
      rintro e w' ⟨rfl, rfl⟩
      go_wp2_with fail
      go_ret
      exact ⟨_, rfl, HX.out, Below.refl _ _⟩
    · refine (times_main hx hy ha hb ha1 hb1).mono ?_
      rintro e w' ⟨v, rfl, hv, hb⟩
      exact ⟨v, rfl, hv.num, hb⟩

end Go.Proofs.YtiocehlefpbbhaaGreatDoor
