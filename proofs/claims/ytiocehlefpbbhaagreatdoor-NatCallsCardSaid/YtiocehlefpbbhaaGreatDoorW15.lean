/-
  The contracts of scaled and divideSmall.
-/
import Derived.Test.YtiocehlefpbbhaaGreatDoorW5
import Derived.Test.YtiocehlefpbbhaaGreatDoorM4
namespace Go.Proofs.YtiocehlefpbbhaaGreatDoor
open Go.RowKit NV

set_option maxHeartbeats 1600000 in
set_option maxRecDepth 100000 in
/-- scaled returns the product with a number below the base, in one limb more than there were. -/
theorem scaled_any {w : World} {x : Value} {a d : Nat} (hx : Num w x a) (ha : ln a ≤ 1000000) (hd : d ≤ 500000000) :
    Calls Tryz.prog 61 #[x, .int .u64 d] w fun e w' => e = .returned (.slice (some ⟨w.heap.size, 0, none⟩) (ln a + 1) (ln a + 1)) ∧ Arr w' w.heap.size (ln a + 1) (dg (a * d)) ∧ Below w.heap.size w w' := by
  obtain ⟨i0, hi, hz0, hz1, hz2⟩ := info_parts info72
  obtain ⟨xa, xc, rfl⟩ := slice_any hx
  go_enter Tryz.func61, Tryz.ntmps61
  go_wp2_with (at_make; refine wpList_make_full _ rfl _ _ 40 rfl w.heap.size 65 i0 (.int .u64 0) 1 Tryz.underlying40 hi hz0 hz1 _ _ _ _ (ln a + 1) rfl rfl (by omega) (by omega) (by rw [hz2]; omega) (by unfold maxLen; omega) (by simp) ?_)
  intro w1 hown1 hgrow1
  have harr : Arr w1 w.heap.size (ln a + 1) (dgf (a * d) 0) := by rw [dgf_zero]; exact Arr.made (base := w.heap.size) (by rw [Nat.mul_one]; exact hown1)
  have hb1 : Below w.heap.size w w1 := (Below.refl _ _).grown hgrow1 (by simp) (fun k hk => by cases hk)
  clear hown1 hgrow1
  go_wp2
  go_loopw [6, 16] (fun c i wr => ∃ k : Nat, k ≤ ln a ∧ i = .int .i64 k ∧ c = .int .u64 ((sc a d k : Nat) : Int) ∧ Arr wr w.heap.size (ln a + 1) (dgf (a * d) k) ∧ Below w.heap.size w wr) (fun _ i _ => ln a - (intOf i).toNat)
  case atStart => exact ⟨0, Nat.zero_le _, rfl, by rw [sc_zero]; rfl, harr, hb1⟩
  case round =>
    obtain ⟨k, hk, rfl, rfl, har, hbr⟩ := hrel
    have b3 := sc_le a d k
    have c1 := har.cell (show k < ln a + 1 by omega)
    have c2 := har.free k
    clear harr hb1
    by_cases hlt : k < ln a
    · obtain ⟨xb, rfl⟩ := hx.addr (by omega)
      have c3 := (hx.below hbr).cell hlt
      have b1 := dg_lt a k
      have b2 : ((dg a k : Nat) : Int) * (d : Int) ≤ 999999999 * 500000000 := by
        have : dg a k * d ≤ 999999999 * 500000000 := Nat.mul_le_mul (by omega) hd
        have e : ((dg a k : Nat) : Int) * (d : Int) = ((dg a k * d : Nat) : Int) := by simp
        omega
      have b4 : 0 ≤ ((dg a k : Nat) : Int) * (d : Int) := by
        have e : ((dg a k : Nat) : Int) * (d : Int) = ((dg a k * d : Nat) : Int) := by simp
        omega
      have hv := Lib.hid (show (((dg a k : Nat) : Int) * (d : Int) + ((sc a d k : Nat) : Int)) % 1000000000 = ((dg (a * d) k : Nat) : Int) by rw [dg_scaled]; simp)
      have hw := Lib.hid (show (((dg a k : Nat) : Int) * (d : Int) + ((sc a d k : Nat) : Int)) / 1000000000 = ((sc a d (k + 1) : Nat) : Int) by rw [sc_succ]; simp)
      go_wp2_with fail
      go_roundw
      case rel => exact ⟨k + 1, by omega, by go_num, by rw [hw.out], by rw [hv.out, ← dgf_step rfl]; exact har.store k _, hbr.setCell (by simp) _⟩
      case measure => simp [intOf]; omega
    · obtain rfl : k = ln a := by omega
      have ht := Lib.hid (show sc a d (ln a) = dg (a * d) (ln a) by
        rw [dg_scaled_top (lt_pow_ln a) (by omega) (.inr (.inr trivial)), Nat.mod_eq_of_lt (by omega)])
      go_wp2_with fail
      go_ret
      refine ⟨rfl, ?_, hbr.setCell (by simp) _⟩
      rw [ht.out]
      refine ((har.store (ln a) (dg (a * d) (ln a))).congr (f' := dg (a * d)) ?_)
      intro j hj
      rw [dgf_step rfl, dgf, if_pos hj]

/-- The limbs of n from k on, 0 below. -/
def dgu (n k : Nat) : Nat → Nat := fun j => if k ≤ j then dg n j else 0

theorem dgu_step {n k x : Nat} (h : x = dg n k) : upd (dgu n (k + 1)) k x = dgu n k := by
  funext j
  unfold upd dgu
  by_cases e : j = k
  · subst e; rw [if_pos rfl, if_pos (Nat.le_refl _), h]
  · rw [if_neg e]
    by_cases hj : k + 1 ≤ j
    · rw [if_pos hj, if_pos (by omega)]
    · rw [if_neg hj, if_neg (by omega)]

set_option maxHeartbeats 1600000 in
set_option maxRecDepth 100000 in
/-- divideSmall returns quotient and remainder by a number from 1 to less than the base. -/
theorem divideSmall_any {w : World} {x : Value} {a y : Nat} (hx : Num w x a) (ha : ln a ≤ 1000000) (hy1 : 1 ≤ y) (hy2 : y < 1000000000) :
    Calls Tryz.prog 60 #[x, .int .u64 y] w fun e w' => ∃ v, e = .returned (.tuple #[v, .int .u64 ((a % y : Nat) : Int)]) ∧ Own w' w.heap.size v (a / y) ∧ Below w.heap.size w w' := by
  obtain ⟨i0, hi, hz0, hz1, hz2⟩ := info_parts info72
  obtain ⟨xa, xc, rfl⟩ := slice_any hx
  have hqa : a / y ≤ a := Nat.div_le_self _ _
  have hln : ln (a / y) ≤ ln a := ln_mono hqa
  have hlt0 : a / y < B ^ ln a := Nat.lt_of_le_of_lt hqa (lt_pow_ln a)
  have hr0 : a / B ^ ln a % y = 0 := by rw [Nat.div_eq_of_lt (lt_pow_ln a)]; simp
  obtain ⟨L, hL⟩ : ∃ L, L = ln a := ⟨_, rfl⟩
  rw [← hL] at hln hlt0 hr0 ha ⊢
  have HL := Lib.hid hL
  have hLl : L ≤ ln a := by omega
  have HR0 := Lib.hid hr0
  clear hL hqa hr0
  go_enter Tryz.func60, Tryz.ntmps60
  go_wp2_with (at_make; refine wpList_make_full _ rfl _ _ 40 rfl w.heap.size 65 i0 (.int .u64 0) 1 Tryz.underlying40 hi hz0 hz1 _ _ _ _ L rfl rfl (by omega) (by omega) (by rw [hz2]; omega) (by unfold maxLen; omega) (by simp) ?_)
  intro w1 hown1 hgrow1
  have harr : Arr w1 w.heap.size L (fun _ => 0) := Arr.made (base := w.heap.size) (by rw [Nat.mul_one]; exact hown1)
  have hb1 : Below w.heap.size w w1 := (Below.refl _ _).grown hgrow1 (by simp) (fun k hk => by cases hk)
  clear hown1 hgrow1
  go_wp2
  go_loopw [5, 6] (fun r i wr => ∃ k : Nat, k ≤ L ∧ i = .int .i64 ((k : Int) - 1) ∧ r = .int .u64 ((a / B ^ k % y : Nat) : Int) ∧ Arr wr w.heap.size L (dgu (a / y) k) ∧ Below w.heap.size w wr) (fun _ i _ => ((intOf i) + 1).toNat)
  case atStart => exact ⟨L, Nat.le_refl _, rfl, by rw [HR0.out]; rfl, harr.congr (fun j hj => by rw [dgu, if_neg (by omega)]), hb1⟩
  case round =>
    obtain ⟨k, hk, rfl, rfl, har, hbr⟩ := hrel
    clear harr hb1
    by_cases hk0 : 0 < k
    · obtain ⟨q, rfl⟩ : ∃ q, k = q + 1 := ⟨k - 1, by omega⟩
      have c1 := har.cell (show q < L by omega)
      have c2 := har.free q
      obtain ⟨xb, rfl⟩ := hx.addr (by omega)
      have c3 := (hx.below hbr).cell (j := q) (by omega)
      have b1 := dg_lt a q
      have b2 : a / B ^ (q + 1) % y < y := Nat.mod_lt _ (by omega)
      have hv := Lib.hid (show (((a / B ^ (q + 1) % y : Nat) : Int) * 1000000000 + ((dg a q : Nat) : Int)) / (y : Int) = ((dg (a / y) q : Nat) : Int) by rw [div_digit a y q (by omega)]; simp)
      have hw := Lib.hid (show (((a / B ^ (q + 1) % y : Nat) : Int) * 1000000000 + ((dg a q : Nat) : Int)) % (y : Int) = ((a / B ^ q % y : Nat) : Int) by rw [div_rest a y q]; simp)
      generalize hX : a / B ^ (q + 1) % y = X at *
      clear hX
      go_wp2_with fail
      go_roundw
      case rel => exact ⟨q, by omega, by go_num, by rw [hw.out], by rw [hv.out, ← dgu_step rfl]; exact har.store q _, hbr.setCell (by simp) _⟩
      case measure => simp [intOf]
    · obtain rfl : k = 0 := by omega
      have HC := Lib.hid (show ∀ j, j < L → wr.cell? ⟨w.heap.size, j, none⟩ = some (.int .u64 ((dg (a / y) j : Nat) : Int)) from fun j hj => by
        rw [har.cell hj, dgu, if_pos (Nat.zero_le _)])
      have HR := Lib.hid (show ((a / B ^ 0 % y : Nat) : Int) = ((a % y : Nat) : Int) by simp)
      generalize a / B ^ 0 % y = X at *
      go_wp2_with fail
      refine (trim_any (n := a / y) (by omega) (Nat.le_refl _) hlt0 HC.out).mono ?_
      rintro e w2 ⟨rfl, rfl⟩
      go_wp2_with fail
      go_ret2
      exact ⟨_, by rw [← HR.out]; rfl, Arr.own har (by omega) (by omega) hln (fun j hj => by rw [dgu, if_pos (Nat.zero_le _)]), hbr⟩

end Go.Proofs.YtiocehlefpbbhaaGreatDoor
