/-
  The contracts of scaled and divideSmall. The contracts of subtractMultiple and addBack, at a part of a row. The contract of takeOut. The contract of divide. The contract of divide where the divisor has several limbs. The contract of Divide at any lengths. The contract of Over.
-/
import Derived.Test.YtjpepjooefkbkaaGreatDoorGB
import Derived.Test.YtjpepjooefkbkaaGreatDoorGA
import Derived.Test.YtjpepjooefkbkaaGreatDoorGC
import Derived.Deep.QuietTactic
import Derived.BigQuiet
namespace Go.Proofs.YtjpepjooefkbkaaGreatDoor
open Go.RowKit NV
set_option maxHeartbeats 1600000 in
set_option maxRecDepth 100000 in
theorem scaled_any {w : World} {x : Value} {a d : Nat} (hx : Num w x a) (ha : ln a ≤ 1000000) (hd : d ≤ 500000000) :
  Calls Tryz.prog 159 #[x, .int .u64 d] w fun e w' => e = .returned (.slice (some ⟨w.heap.size, 0, none⟩) (ln a + 1) (ln a + 1)) ∧ Arr w' w.heap.size (ln a + 1) (dg (a * d)) ∧ Below w.heap.size w w' := by
 obtain ⟨i0, hi, hz0, hz1, hz2⟩ := info_parts info72
 obtain ⟨xa, xc, rfl⟩ := slice_any hx
 go_enter Tryz.func159, Tryz.ntmps159
 go_wp2_with (at_make; refine wpList_make_full _ rfl _ _ 108 rfl w.heap.size 118 i0 (.int .u64 0) 1 Tryz.underlying108 hi hz0 hz1 _ _ _ _ (ln a + 1) rfl rfl (by omega) (by omega) (by rw [hz2]; omega) (by unfold maxLen; omega) (by simp) ?_)
 intro w1 hown1 hgrow1
 have harr : Arr w1 w.heap.size (ln a + 1) (dgf (a * d) 0) := by rw [dgf_zero]; exact Arr.made (base := w.heap.size) (by rw [Nat.mul_one]; exact hown1)
 have hb1 : Below w.heap.size w w1 := (Below.refl _ _).grown hgrow1 (by simp) (fun k hk => by cases hk)
 clear hown1 hgrow1
 go_wp2
 go_loopw [6, 16] (fun c i wr => ∃ k : Nat, k ≤ ln a ∧ i = .int .i64 k ∧ c = .int .u64 ((sc a d k : Nat) : Int) ∧ Arr wr w.heap.size (ln a + 1) (dgf (a * d) k) ∧ Below w.heap.size w wr) (fun _ i _ => ln a - (intOf i).toNat)
 case atStart => exact ⟨0, Nat.zero_le _, rfl, by rw [sc_zero]; rfl, harr, hb1⟩
 case round =>
  obtain ⟨k, hk, rfl, rfl, har, hbr⟩ := hrel
  have b3 := sc_le a d k
  have c1 := har.cell (show k < ln a + 1 by omega)
  have c2 := har.free k
  clear harr hb1
  by_cases hlt : k < ln a
  ·obtain ⟨xb, rfl⟩ := hx.addr (by omega)
   have c3 := (hx.below hbr).cell hlt
   have b1 := dg_lt a k
   have b2 : ((dg a k : Nat) : Int) * (d : Int) ≤ 999999999 * 500000000 := by
    have : dg a k * d ≤ 999999999 * 500000000 := Nat.mul_le_mul (by omega) hd
    have e : ((dg a k : Nat) : Int) * (d : Int) = ((dg a k * d : Nat) : Int) := by simp
    omega
   have b4 : 0 ≤ ((dg a k : Nat) : Int) * (d : Int) := by
    have e : ((dg a k : Nat) : Int) * (d : Int) = ((dg a k * d : Nat) : Int) := by simp
    omega
   have hv := Lib.hid (show (((dg a k : Nat) : Int) * (d : Int) + ((sc a d k : Nat) : Int)) % 1000000000 = ((dg (a * d) k : Nat) : Int) by rw [dg_scaled]; simp)
   have hw := Lib.hid (show (((dg a k : Nat) : Int) * (d : Int) + ((sc a d k : Nat) : Int)) / 1000000000 = ((sc a d (k + 1) : Nat) : Int) by rw [sc_succ]; simp)
   go_wp2_with fail
   go_roundw
   case rel => exact ⟨k + 1, by omega, by go_num, by rw [hw.out], by rw [hv.out, ← dgf_step rfl]; exact har.store k _, hbr.setCell (by simp) _⟩
   case measure => simp [intOf]; omega
  ·obtain rfl : k = ln a := by omega
   have ht := Lib.hid (show sc a d (ln a) = dg (a * d) (ln a) by
    rw [dg_scaled_top (lt_pow_ln a) (by omega) (.inr (.inr trivial)), Nat.mod_eq_of_lt (by omega)])
   go_wp2_with fail
   go_ret
   refine ⟨rfl, ?_, hbr.setCell (by simp) _⟩
   rw [ht.out]
   refine ((har.store (ln a) (dg (a * d) (ln a))).congr (f' := dg (a * d)) ?_)
   intro j hj
   rw [dgf_step rfl, dgf, if_pos hj]
def dgu (n k : Nat) : Nat → Nat := fun j => if k ≤ j then dg n j else 0
theorem dgu_step {n k x : Nat} (h : x = dg n k) : upd (dgu n (k + 1)) k x = dgu n k := by
 funext j
 unfold upd dgu
 by_cases e : j = k
 ·subst e; rw [if_pos rfl, if_pos (Nat.le_refl _), h]
 ·rw [if_neg e]
  by_cases hj : k + 1 ≤ j
  ·rw [if_pos hj, if_pos (by omega)]
  ·rw [if_neg hj, if_neg (by omega)]
set_option maxHeartbeats 1600000 in
set_option maxRecDepth 100000 in
theorem divideSmall_any {w : World} {x : Value} {a y : Nat} (hx : Num w x a) (ha : ln a ≤ 1000000) (hy1 : 1 ≤ y) (hy2 : y < 1000000000) :
  Calls Tryz.prog 158 #[x, .int .u64 y] w fun e w' => ∃ v, e = .returned (.tuple #[v, .int .u64 ((a % y : Nat) : Int)]) ∧ Own w' w.heap.size v (a / y) ∧ Below w.heap.size w w' := by
 obtain ⟨i0, hi, hz0, hz1, hz2⟩ := info_parts info72
 obtain ⟨xa, xc, rfl⟩ := slice_any hx
 have hqa : a / y ≤ a := Nat.div_le_self _ _
 have hln : ln (a / y) ≤ ln a := ln_mono hqa
 have hlt0 : a / y < B ^ ln a := Nat.lt_of_le_of_lt hqa (lt_pow_ln a)
 have hr0 : a / B ^ ln a % y = 0 := by rw [Nat.div_eq_of_lt (lt_pow_ln a)]; simp
 obtain ⟨L, hL⟩ : ∃ L, L = ln a := ⟨_, rfl⟩
 rw [← hL] at hln hlt0 hr0 ha ⊢
 have HL := Lib.hid hL
 have hLl : L ≤ ln a := by omega
 have HR0 := Lib.hid hr0
 clear hL hqa hr0
 go_enter Tryz.func158, Tryz.ntmps158
 go_wp2_with (at_make; refine wpList_make_full _ rfl _ _ 108 rfl w.heap.size 118 i0 (.int .u64 0) 1 Tryz.underlying108 hi hz0 hz1 _ _ _ _ L rfl rfl (by omega) (by omega) (by rw [hz2]; omega) (by unfold maxLen; omega) (by simp) ?_)
 intro w1 hown1 hgrow1
 have harr : Arr w1 w.heap.size L (fun _ => 0) := Arr.made (base := w.heap.size) (by rw [Nat.mul_one]; exact hown1)
 have hb1 : Below w.heap.size w w1 := (Below.refl _ _).grown hgrow1 (by simp) (fun k hk => by cases hk)
 clear hown1 hgrow1
 go_wp2
 go_loopw [5, 6] (fun r i wr => ∃ k : Nat, k ≤ L ∧ i = .int .i64 ((k : Int) - 1) ∧ r = .int .u64 ((a / B ^ k % y : Nat) : Int) ∧ Arr wr w.heap.size L (dgu (a / y) k) ∧ Below w.heap.size w wr) (fun _ i _ => ((intOf i) + 1).toNat)
 case atStart => exact ⟨L, Nat.le_refl _, rfl, by rw [HR0.out]; rfl, harr.congr (fun j hj => by rw [dgu, if_neg (by omega)]), hb1⟩
 case round =>
  obtain ⟨k, hk, rfl, rfl, har, hbr⟩ := hrel
  clear harr hb1
  by_cases hk0 : 0 < k
  ·obtain ⟨q, rfl⟩ : ∃ q, k = q + 1 := ⟨k - 1, by omega⟩
   have c1 := har.cell (show q < L by omega)
   have c2 := har.free q
   obtain ⟨xb, rfl⟩ := hx.addr (by omega)
   have c3 := (hx.below hbr).cell (j := q) (by omega)
   have b1 := dg_lt a q
   have b2 : a / B ^ (q + 1) % y < y := Nat.mod_lt _ (by omega)
   have hv := Lib.hid (show (((a / B ^ (q + 1) % y : Nat) : Int) * 1000000000 + ((dg a q : Nat) : Int)) / (y : Int) = ((dg (a / y) q : Nat) : Int) by rw [div_digit a y q (by omega)]; simp)
   have hw := Lib.hid (show (((a / B ^ (q + 1) % y : Nat) : Int) * 1000000000 + ((dg a q : Nat) : Int)) % (y : Int) = ((a / B ^ q % y : Nat) : Int) by rw [div_rest a y q]; simp)
   generalize hX : a / B ^ (q + 1) % y = X at *
   clear hX
   go_wp2_with fail
   go_roundw
   case rel => exact ⟨q, by omega, by go_num, by rw [hw.out], by rw [hv.out, ← dgu_step rfl]; exact har.store q _, hbr.setCell (by simp) _⟩
   case measure => simp [intOf]
  ·obtain rfl : k = 0 := by omega
   have HC := Lib.hid (show ∀ j, j < L → wr.cell? ⟨w.heap.size, j, none⟩ = some (.int .u64 ((dg (a / y) j : Nat) : Int)) from fun j hj => by
    rw [har.cell hj, dgu, if_pos (Nat.zero_le _)])
   have HR := Lib.hid (show ((a / B ^ 0 % y : Nat) : Int) = ((a % y : Nat) : Int) by simp)
   generalize a / B ^ 0 % y = X at *
   go_wp2_with fail
   refine (trim_any (n := a / y) (by omega) (Nat.le_refl _) hlt0 HC.out).mono ?_
   rintro e w2 ⟨rfl, rfl⟩
   go_wp2_with fail
   go_ret2
   exact ⟨_, by rw [← HR.out]; rfl, Arr.own har (by omega) (by omega) hln (fun j hj => by rw [dgu, if_pos (Nat.zero_le _)]), hbr⟩
open Go.RowKit NV
def ovr (f : Nat → Nat) (i k D : Nat) : Nat → Nat := fun j => if i ≤ j ∧ j < i + k then dg D (j - i) else f j
theorem ovr_zero (f : Nat → Nat) (i D : Nat) : ovr f i 0 D = f := by
 funext j; unfold ovr; rw [if_neg (by omega)]
theorem ovr_past {f : Nat → Nat} {i k D j : Nat} (h : i + k ≤ j) : ovr f i k D j = f j := if_neg (by omega)
theorem upd_upd (f : Nat → Nat) (p y x : Nat) : upd (upd f p y) p x = upd f p x := by
 funext j; unfold upd; split <;> rfl
theorem ovr_step {f : Nat → Nat} {i k D x : Nat} (hD : D < B ^ k) (hx : x < 1000000000) : upd (ovr f i k D) (i + k) x = ovr f i (k + 1) (D + B ^ k * x) := by
 funext j
 unfold upd ovr
 by_cases e : j = i + k
 ·subst e
  rw [if_pos rfl, if_pos (by omega), Nat.add_sub_cancel_left, dg_at hD, B_eq, Nat.mod_eq_of_lt hx]
 ·rw [if_neg e]
  by_cases hj : i ≤ j ∧ j < i + k
  ·rw [if_pos hj, if_pos (by omega), dg_add_mul (by omega)]
  ·rw [if_neg hj, if_neg (by omega)]
theorem prod_bd2 (v k f : Nat) (hf : f < 1000000000) : 0 ≤ ((dg v k : Nat) : Int) * (f : Int) ∧ ((dg v k : Nat) : Int) * (f : Int) ≤ 999999998000000001 ∧ ((dg v k : Nat) : Int) * (f : Int) = ((dg v k * f : Nat) : Int) := by
 have h1 := dg_lt v k
 have : dg v k * f ≤ 999999999 * 999999999 := Nat.mul_le_mul (by omega) (by omega)
 have e : ((dg v k : Nat) : Int) * (f : Int) = ((dg v k * f : Nat) : Int) := by simp
 rw [e]; omega
def leB (a b : Nat) : Bool := decide (a ≤ b)
theorem ovr_next {f : Nat → Nat} {i k S x : Nat} (h : x = dg S k) : upd (ovr f i k S) (i + k) x = ovr f i (k + 1) S := by
 funext j
 unfold upd ovr
 by_cases e : j = i + k
 ·subst e
  rw [if_pos rfl, if_pos (by omega), Nat.add_sub_cancel_left, h]
 ·rw [if_neg e]
  by_cases hj : i ≤ j ∧ j < i + k
  ·rw [if_pos hj, if_pos (by omega)]
  ·rw [if_neg hj, if_neg (by omega)]
set_option maxHeartbeats 3200000 in
set_option maxRecDepth 100000 in
theorem subtract_any {w : World} {g N i n c x v fc yb yc : Nat} {f : Nat → Nat} (har0 : Arr w g N f) (hN : N ≤ 2000000) (hin : i + n + 1 ≤ N)
  (hfx : ∀ j, j ≤ n → f (i + j) = dg x j) (hy : Num w (.slice (some ⟨yb, 0, none⟩) n yc) v) (hn : n = ln v) (hyg : yb ≠ g) (hfc : fc < 1000000000) :
  Calls Tryz.prog 171 #[.slice (some ⟨g, i, none⟩) (n + 1) c, .slice (some ⟨yb, 0, none⟩) n yc, .int .u64 fc] w fun e w' =>
   ∃ D br : Nat, e = .returned (.bool (leB br (dg x n))) ∧ D < B ^ n ∧ x % B ^ n + B ^ n * br = D + (v % B ^ n) * fc ∧ Arr w' g N (upd (ovr f i n D) (i + n) 0) ∧ Kept g w.heap.size w w' := by
 have HN := Lib.hid hn
 have HY := Lib.hid hy
 have hyb : yb < w.heap.size := hy.blt
 clear hn hy
 go_enter Tryz.func171, Tryz.ntmps171
 go_wp2
 go_loopw [7, 16] (fun bo ix wr => ∃ k D br : Nat, k ≤ n ∧ ix = .int .i64 k ∧ bo = .int .u64 (br : Int) ∧ br ≤ 999999999 ∧ D < B ^ k ∧ x % B ^ k + B ^ k * br = D + (v % B ^ k) * fc ∧ Arr wr g N (ovr f i k D) ∧ Kept g w.heap.size w wr) (fun _ ix _ => n - (intOf ix).toNat)
 case atStart => exact ⟨0, 0, 0, Nat.zero_le _, rfl, rfl, by omega, by simp, by simp [Nat.mod_one], by rw [ovr_zero]; exact har0, Kept.refl _ _ _⟩
 case round =>
  obtain ⟨k, D, br, hk, rfl, rfl, hbr, hD, he, har, hkp⟩ := hrel
  have HE := Lib.hid he
  have HD := Lib.hid hD
  clear he hD
  have hgl := har.lt
  by_cases hlt : k < n
  ·have c1 := har.cell (show i + k < N by omega)
   rw [ovr_past (Nat.le_refl _), hfx k (by omega)] at c1
   have c2 := har.free (i + k)
   have c3 : wr.cell? ⟨yb, k, none⟩ = some (.int .u64 ((dg v k : Nat) : Int)) := (hkp.cell (p := ⟨yb, k, none⟩) hyb hyg).trans (HY.out.cell (by rw [← HN.out]; exact hlt))
   have b1 := dg_lt x k
   obtain ⟨b2, b3, hb4⟩ := prod_bd2 v k fc hfc
   have hPc : ((dg v k * fc + br : Nat) : Int) = ((dg v k : Nat) : Int) * (fc : Int) + (br : Int) := by simp
   have HPC := Lib.hid hPc
   have HB4 := Lib.hid hb4
   obtain ⟨P, hP⟩ : ∃ P : Nat, P = dg v k * fc + br := ⟨_, rfl⟩
   have HP := Lib.hid hP
   have hPb : P ≤ 999999999000000000 := by rw [hP]; omega
   clear hPc hb4 hP
   by_cases hc : dg x k < P % 1000000000
   ·have hc' : ((dg x k : Nat) : Int) < (((dg v k : Nat) : Int) * (fc : Int) + (br : Int)) % 1000000000 := by rw [← HPC.out, ← HP.out]; omega
    have HT := Lib.hid (take_step (x' := dg x k + 1000000000 - P % 1000000000) (br' := P / 1000000000 + 1) HD.out HE.out HP.out rfl (by rw [if_pos hc]; omega) (by rw [if_pos hc]))
    have HV1 := Lib.hid (show ((dg x k : Nat) : Int) + 1000000000 = ((dg x k + 1000000000 : Nat) : Int) by omega)
    have HV2 := Lib.hid (show ((dg x k : Nat) : Int) + 1000000000 - (((dg v k : Nat) : Int) * (fc : Int) + (br : Int)) % 1000000000 = ((dg x k + 1000000000 - P % 1000000000 : Nat) : Int) by rw [← HPC.out, ← HP.out]; omega)
    have HV3 := Lib.hid (show (((dg v k : Nat) : Int) * (fc : Int) + (br : Int)) / 1000000000 + 1 = ((P / 1000000000 + 1 : Nat) : Int) by rw [← HPC.out, ← HP.out]; omega)
    have hx1 : dg x k + 1000000000 - P % 1000000000 < 1000000000 := by omega
    have hbr' : P / 1000000000 + 1 ≤ 999999999 := by omega
    clear hc
    go_wp2_with fail
    go_roundw
    case rel => exact ⟨k + 1, D + B ^ k * (dg x k + 1000000000 - P % 1000000000), P / 1000000000 + 1, by omega, by go_num, by rw [HV3.out], hbr', HT.out.1, HT.out.2, by rw [HV2.out, HV1.out, ← ovr_step HD.out hx1, ← upd_upd _ _ (dg x k + 1000000000)]; exact (har.store (i + k) _).store (i + k) _, (hkp.setCell (.inl rfl) _).setCell (.inl rfl) _⟩
    case measure => simp [intOf]; omega
   ·have hc' : (((dg v k : Nat) : Int) * (fc : Int) + (br : Int)) % 1000000000 ≤ ((dg x k : Nat) : Int) := by rw [← HPC.out, ← HP.out]; omega
    have HT := Lib.hid (take_step (x' := dg x k - P % 1000000000) (br' := P / 1000000000) HD.out HE.out HP.out rfl (by rw [if_neg hc]; omega) (by rw [if_neg hc]; rfl))
    have HV2 := Lib.hid (show ((dg x k : Nat) : Int) - (((dg v k : Nat) : Int) * (fc : Int) + (br : Int)) % 1000000000 = ((dg x k - P % 1000000000 : Nat) : Int) by rw [← HPC.out, ← HP.out]; omega)
    have HV3 := Lib.hid (show (((dg v k : Nat) : Int) * (fc : Int) + (br : Int)) / 1000000000 = ((P / 1000000000 : Nat) : Int) by rw [← HPC.out, ← HP.out]; omega)
    have hx1 : dg x k - P % 1000000000 < 1000000000 := by omega
    have hbr' : P / 1000000000 ≤ 999999999 := by omega
    clear hc
    go_wp2_with fail
    go_roundw
    case rel => exact ⟨k + 1, D + B ^ k * (dg x k - P % 1000000000), P / 1000000000, by omega, by go_num, by rw [HV3.out], hbr', HT.out.1, HT.out.2, by rw [HV2.out, ← ovr_step HD.out hx1]; exact har.store (i + k) _, hkp.setCell (.inl rfl) _⟩
    case measure => simp [intOf]; omega
  ·obtain rfl : k = n := by omega
   have c1 := har.cell (show i + k < N by omega)
   rw [ovr_past (Nat.le_refl _), hfx k (Nat.le_refl _)] at c1
   have c2 := har.free (i + k)
   have b1 := dg_lt x k
   go_wp2_with fail
   go_ret
   exact ⟨D, br, rfl, HD.out, HE.out, har.store (i + k) 0, hkp.setCell (.inl rfl) _⟩
set_option maxHeartbeats 1600000 in
set_option maxRecDepth 100000 in
theorem addBack_any {w : World} {g N i n c x v yb yc : Nat} {f : Nat → Nat} (har0 : Arr w g N f) (hN : N ≤ 2000000) (hin : i + n + 1 ≤ N)
  (hfx : ∀ j, j < n → f (i + j) = dg x j) (hy : Num w (.slice (some ⟨yb, 0, none⟩) n yc) v) (hn : n = ln v) (hyg : yb ≠ g) :
  Calls Tryz.prog 172 #[.slice (some ⟨g, i, none⟩) (n + 1) c, .slice (some ⟨yb, 0, none⟩) n yc] w fun e w' =>
   e = .returned (.tuple #[]) ∧ Arr w' g N (ovr f i n (x + v)) ∧ Kept g w.heap.size w w' := by
 have HN := Lib.hid hn
 have HY := Lib.hid hy
 have hyb : yb < w.heap.size := hy.blt
 clear hn hy
 go_enter Tryz.func172, Tryz.ntmps172
 go_wp2
 go_loopw [4, 10] (fun cr ix wr => ∃ k : Nat, k ≤ n ∧ ix = .int .i64 k ∧ cr = .int .u64 ((ca x v k : Nat) : Int) ∧ Arr wr g N (ovr f i k (x + v)) ∧ Kept g w.heap.size w wr) (fun _ ix _ => n - (intOf ix).toNat)
 case atStart => exact ⟨0, Nat.zero_le _, rfl, by rw [ca_zero]; rfl, by rw [ovr_zero]; exact har0, Kept.refl _ _ _⟩
 case round =>
  obtain ⟨k, hk, rfl, rfl, har, hkp⟩ := hrel
  by_cases hlt : k < n
  ·have c1 := har.cell (show i + k < N by omega)
   rw [ovr_past (Nat.le_refl _), hfx k hlt] at c1
   have c2 := har.free (i + k)
   have c3 : wr.cell? ⟨yb, k, none⟩ = some (.int .u64 ((dg v k : Nat) : Int)) := (hkp.cell (p := ⟨yb, k, none⟩) hyb hyg).trans (HY.out.cell (by rw [← HN.out]; exact hlt))
   have b1 := dg_lt x k
   have b2 := dg_lt v k
   have b3 := ca_le x v k
   have hv := Lib.hid (show ((dg x k : Nat) + (dg v k : Nat) + (ca x v k : Nat) : Int) % 1000000000 = ((dg (x + v) k : Nat) : Int) by rw [dg_add]; omega)
   have hw := Lib.hid (show ((dg x k : Nat) + (dg v k : Nat) + (ca x v k : Nat) : Int) / 1000000000 = ((ca x v (k + 1) : Nat) : Int) by rw [ca_succ]; omega)
   go_wp2_with fail
   go_roundw
   case rel => exact ⟨k + 1, by omega, by go_num, by rw [hw.out], by rw [hv.out, ← ovr_next rfl]; exact har.store (i + k) _, hkp.setCell (.inl rfl) _⟩
   case measure => simp [intOf]; omega
  ·obtain rfl : k = n := by omega
   go_wp2_with fail
   go_end0
   exact ⟨rfl, har, hkp⟩
open Go.RowKit NV
theorem leB_yes {a b : Nat} (h : a ≤ b) : leB a b = true := by simp [leB, h]
theorem leB_no {a b : Nat} (h : ¬ a ≤ b) : leB a b = false := by simp [leB]; omega
theorem nat_prod (a b m n : Nat) (ha : a ≤ m) (hb : b ≤ n) : 0 ≤ (a : Int) * (b : Int) ∧ (a : Int) * (b : Int) ≤ ((m * n : Nat) : Int) ∧ (a : Int) * (b : Int) = ((a * b : Nat) : Int) := by
 have : a * b ≤ m * n := Nat.mul_le_mul ha hb
 have e : (a : Int) * (b : Int) = ((a * b : Nat) : Int) := by simp
 rw [e]; omega
theorem Num.kept {w w' : World} {yb yc L v g R : Nat} (h : Num w (.slice (some ⟨yb, 0, none⟩) L yc) v) (hk : Kept g R w w') (hR : yb < R) (hg : yb ≠ g) : Num w' (.slice (some ⟨yb, 0, none⟩) L yc) v := by
 obtain ⟨a', c', h', h | ⟨b', rfl, h1, h2, h3⟩⟩ := h
 ·rw [h.2.1] at h'; simp at h'
 ·simp only [Value.slice.injEq, Option.some.injEq, Addr.mk.injEq, and_true] at h'
  obtain ⟨rfl, rfl, rfl⟩ := h'
  exact ⟨_, yc, rfl, .inr ⟨yb, rfl, Nat.lt_of_lt_of_le h1 hk.size, h2, fun j hj => (hk.cell (p := ⟨yb, j, none⟩) hR hg).trans (h3 j hj)⟩⟩
theorem ovr_fin1 {f : Nat → Nat} {i n R : Nat} (hR : R < B ^ (n + 2)) (j : Nat) : upd (ovr f i (n + 2) R) (i + (n + 2)) 0 j = ovr f i (n + 3) R j := by
 have := ovr_next (f := f) (i := i) (k := n + 2) (S := R) (x := 0) (dg_big hR).symm
 rw [this]
theorem ovr_fin2 {f : Nat → Nat} {i n R S D : Nat} (hR : R < B ^ (n + 2)) (hS : S = R + B ^ (n + 2)) (j : Nat) : ovr (upd (ovr f i (n + 2) D) (i + (n + 2)) 0) i (n + 2) S j = ovr f i (n + 3) R j := by
 unfold ovr upd
 by_cases h1 : i ≤ j ∧ j < i + (n + 2)
 ·rw [if_pos h1, if_pos (by omega), hS]
  have := dg_add_mul (a := R) (b := 1) (k := n + 2) (j := j - i) (by omega)
  rw [Nat.mul_one] at this
  exact this
 ·rw [if_neg h1]
  by_cases h2 : j = i + (n + 2)
  ·rw [if_pos h2, if_pos (by omega), h2, Nat.add_sub_cancel_left, dg_big hR]
  ·rw [if_neg h2]
   show (if i ≤ j ∧ j < i + (n + 2) then dg D (j - i) else f j) = _
   rw [if_neg h1, if_neg (by omega)]
set_option maxHeartbeats 6400000 in
set_option maxRecDepth 100000 in
theorem takeOut_any {w : World} {g N i n c X v yb yc : Nat} {f : Nat → Nat} (har : Arr w g N f) (hN : N ≤ 2000000) (hin : i + (n + 2) + 1 ≤ N)
  (hfx : ∀ j, j ≤ n + 2 → f (i + j) = dg X j) (hy : Num w (.slice (some ⟨yb, 0, none⟩) (n + 2) yc) v) (hn : n + 2 = ln v) (hyg : yb ≠ g) (hh : 500000000 ≤ dg v (n + 1)) (hX : X < 1000000000 * v) :
  Calls Tryz.prog 160 #[.slice (some ⟨g, i, none⟩) (n + 2 + 1) c, .slice (some ⟨yb, 0, none⟩) (n + 2) yc] w fun e w' =>
   e = .returned (.int .u64 ((X / v : Nat) : Int)) ∧ Arr w' g N (ovr f i (n + 3) (X % v)) ∧ Kept g w.heap.size w w' := by
 have hv : v < B ^ (n + 2) := by rw [hn]; exact lt_pow_ln v
 have hv0 : 0 < v := by
  by_cases h : v = 0
  ·subst h; rw [ln_zero] at hn; omega
  ·omega
 have hX3 : X < B ^ (n + 2 + 1) := by
  rw [pow_succ, Nat.mul_comm, B_eq]
  rw [B_eq] at hv
  exact Nat.lt_of_lt_of_le hX (Nat.mul_le_mul_left _ (Nat.le_of_lt hv))
 have hfx0 := hfx n (by omega)
 have hfx1 := hfx (n + 1) (by omega)
 have hfx2 := hfx (n + 2) (by omega)
 have c0 := har.cell (j := i + n) (by omega)
 have c1 := har.cell (j := i + (n + 1)) (by omega)
 have c2 := har.cell (j := i + (n + 2)) (by omega)
 rw [hfx0] at c0
 rw [hfx1] at c1
 rw [hfx2] at c2
 have d1 := hy.cell (j := n + 1) (by omega)
 have d0 := hy.cell (j := n) (by omega)
 have htop : X / B ^ (n + 1) = dg X (n + 2) * 1000000000 + dg X (n + 1) := by
  rw [next_limb X (n + 1)]
  congr 2
  rw [dg, Nat.mod_eq_of_lt ((Nat.div_lt_iff_lt_mul (pow_pos _)).2 (by rw [Nat.mul_comm, ← pow_succ]; exact hX3))]
 have hst := Gs.start hv hh hX hv0
 rw [htop] at hst
 have b0 := dg_lt X n
 have b1 := dg_lt X (n + 1)
 have b2 := dg_lt X (n + 2)
 have e1 := dg_lt v (n + 1)
 have e0 := dg_lt v n
 have hgl := har.lt
 have hybw : yb < w.heap.size := hy.blt
 have hr0 : (dg X (n + 2) * 1000000000 + dg X (n + 1)) % dg v (n + 1) < 1000000000 := by
  have := Nat.mod_lt (dg X (n + 2) * 1000000000 + dg X (n + 1)) (show 0 < dg v (n + 1) by omega); omega
 obtain ⟨T, hT⟩ : ∃ T : Nat, T = dg X (n + 2) * 1000000000 + dg X (n + 1) := ⟨_, rfl⟩
 rw [← hT] at hst hr0
 have hTc : ((dg X (n + 2) : Nat) : Int) * 1000000000 + ((dg X (n + 1) : Nat) : Int) = (T : Int) := by omega
 have HQ1 := Lib.hid (show (((dg X (n + 2) : Nat) : Int) * 1000000000 + ((dg X (n + 1) : Nat) : Int)) / ((dg v (n + 1) : Nat) : Int) = ((T / dg v (n + 1) : Nat) : Int) by rw [hTc, Int.natCast_ediv])
 have HQ2 := Lib.hid (show (((dg X (n + 2) : Nat) : Int) * 1000000000 + ((dg X (n + 1) : Nat) : Int)) % ((dg v (n + 1) : Nat) : Int) = ((T % dg v (n + 1) : Nat) : Int) by rw [hTc, Int.natCast_emod])
 have HST := Lib.hid (show Gs X v n (T / dg v (n + 1)) (T % dg v (n + 1)) ∧ T % dg v (n + 1) < 2000000000 from ⟨hst, by omega⟩)
 have HV := Lib.hid hv
 have HV0 := Lib.hid hv0
 have HX := Lib.hid hX
 have HX3 := Lib.hid hX3
 have HN := Lib.hid hn
 have HY := Lib.hid hy
 have HFX := Lib.hid hfx
 have HARR := Lib.hid har
 clear hT hTc hst hv hv0 hX hX3 hn hy hfx har htop hfx0 hfx1 hfx2 hr0
 go_enter Tryz.func160, Tryz.ntmps160
 go_wp2_with fail
 go_quiet (fail)
 go_wp2_with fail
 go_quiet (fail)
 go_wp2_with fail
 go_loopw [7, 8] (fun s7 s8 wr => ∃ gq r : Nat, s7 = .int .u64 (gq : Int) ∧ s8 = .int .u64 (r : Int) ∧ Gs X v n gq r ∧ r < 2000000000 ∧ Below w.heap.size w wr) (fun s7 _ _ => (intOf s7).toNat)
 case atStart => exact ⟨T / dg v (n + 1), T % dg v (n + 1), by rw [HQ1.out], by rw [HQ2.out], HST.out.1, HST.out.2, below_drewN (below_drewN (Below.refl _ _) _) _⟩
 case round =>
  obtain ⟨gq, r, rfl, rfl, hgs, hr, hbr⟩ := hrel
  clear HST HQ1 HQ2 c0 c1 c2 d0 d1
  have harr := HARR.out.below hbr hgl
  have hyr := HY.out.below hbr
  have hfxo := HFX.out
  have c0 := harr.cell (j := i + n) (by omega)
  rw [hfxo n (by omega)] at c0
  have d1 := hyr.cell (j := n + 1) (by rw [← HN.out]; omega)
  have d0 := hyr.cell (j := n) (by rw [← HN.out]; omega)
  have hgh := hgs.high
  have HG := Lib.hid hgs
  clear hfxo hyr hgs
  by_cases hrB : 1000000000 ≤ r
  ·have hd1 : decide ((r : Int) < 1000000000) = false := by simp; omega
   have HD := Lib.hid (HG.out.done HV.out hh HX.out HV0.out (.inl hrB))
   as_aux_lemma =>
    go_wp2_with fail
    go_quiet (fail)
    go_wp2_with fail
    have hs := subtract_any (c := c) (w := wr.drewN nq) (x := X) (v := v) (fc := gq) (show Arr (wr.drewN nq) g N f from HARR.out.below (below_drewN hbr nq) hgl) hN hin HFX.out (show Num (wr.drewN nq) (.slice (some ⟨yb, 0, none⟩) (n + 2) yc) v from HY.out.below (below_drewN hbr nq)) HN.out hyg HD.out.1
    refine hs.mono ?_
    rintro e w5 ⟨D, br, rfl, hD, he, har5, hk5⟩
    have hte := take_end HV.out HX3.out HV0.out hD he HG.out.low HD.out.2
    have hXv := Nat.lt_trans (Nat.mod_lt X HV0.out) HV.out
    have hkw : Kept g w.heap.size w w5 := (show Kept g w.heap.size w (wr.drewN nq) from ⟨hbr.os, hbr.tape, hbr.output, hbr.size, fun k h1 _ => hbr.block k h1⟩).trans ⟨hk5.os, hk5.tape, hk5.output, hk5.size, fun k h1 h2 => hk5.block k (Nat.lt_of_lt_of_le h1 hbr.size) h2⟩
    have HKW := Lib.hid hkw
    have HD5 := Lib.hid hD
    clear hs he hk5 hD hkw
    by_cases hle : br ≤ dg X (n + 2)
    ·have hlb := leB_yes hle
     obtain ⟨hf, hdd⟩ := hte.1 hle
     have HF := Lib.hid hf
     have HFIN := Lib.hid (show Arr w5 g N (ovr f i (n + 3) (X % v)) from har5.congr (fun j _ => by rw [hdd]; exact ovr_fin1 hXv j))
     clear hte hf hdd har5 hle hXv
     go_wp2_with fail
     go_ret
     exact ⟨ret_int (by rw [← HF.out]), HFIN.out, HKW.out⟩
    ·have hlb := leB_no hle
     obtain ⟨hf, hdd⟩ := hte.2 hle
     have hyb5 : Num w5 (.slice (some ⟨yb, 0, none⟩) (n + 2) yc) v := HY.out.kept HKW.out hybw hyg
     have hadd := addBack_any (c := c) (x := D) har5 hN hin (fun j hj => by rw [upd_other (by omega), ovr, if_pos (by omega), Nat.add_sub_cancel_left]) hyb5 HN.out hyg
     have HF := Lib.hid hf
     have HDD := Lib.hid hdd
     have HXV := Lib.hid hXv
     have HADD := Lib.hid hadd
     have hg0 : 1 ≤ gq := by rw [hf]; exact Nat.succ_le_succ (Nat.zero_le _)
     have hg1 : (1 : Int) ≤ (gq : Int) := by omega
     clear hte hf hdd hle hXv hadd hyb5 har5
     go_wp2_with fail
     refine HADD.out.mono ?_
     rintro e w6 ⟨rfl, har6, hk6⟩
     have HFIN := Lib.hid (show Arr w6 g N (ovr f i (n + 3) (X % v)) from har6.congr (fun j _ => ovr_fin2 HXV.out HDD.out j))
     have HK6 := Lib.hid (show Kept g w.heap.size w w6 from HKW.out.trans ⟨hk6.os, hk6.tape, hk6.output, hk6.size, fun k h1 h2 => hk6.block k (Nat.lt_of_lt_of_le h1 HKW.out.size) h2⟩)
     clear har6 hk6 HADD
     go_wp2_with fail
     go_ret
     exact ⟨ret_int (by have := HF.out; omega), HFIN.out, HK6.out⟩
  ·have hd1 : decide ((r : Int) < 1000000000) = true := by simp; omega
   have hr2 : (r : Int) < 1000000000 := by omega
   by_cases hgB : 1000000000 ≤ gq
   ·have hd2 : decide ((1000000000 : Int) ≤ (gq : Int)) = true := by simp; omega
    have hlow := HG.out.less HV.out HX.out HV0.out (.inl hgB)
    have HNX := Lib.hid (HG.out.next hlow)
    have hg1 : 1 ≤ gq := Nat.lt_of_le_of_lt (Nat.zero_le _) hlow
    clear hlow
    as_aux_lemma =>
     go_wp2_with fail
     go_quiet (fail)
     go_wp2_with fail
     go_roundw
     case rel => exact ⟨gq - 1, r + dg v (n + 1), congrArg (Value.int .u64) (by omega), congrArg (Value.int .u64) (by omega), HNX.out, by omega, below_drewN hbr _⟩
     case measure => simp [intOf]; omega
   ·have hd2 : decide ((1000000000 : Int) ≤ (gq : Int)) = false := by simp; omega
    obtain ⟨p1, p2, p3⟩ := nat_prod gq (dg v n) 1000000000 1000000000 (by omega) (by omega)
    have HP := Lib.hid p3
    have hgB2 : (gq : Int) < 1000000000 := by omega
    clear p3
    by_cases ht : r * 1000000000 + dg X n < gq * dg v n
    ·have hlow := HG.out.less HV.out HX.out HV0.out (.inr ht)
     have HNX := Lib.hid (HG.out.next hlow)
     have hg1 : 1 ≤ gq := Nat.lt_of_le_of_lt (Nat.zero_le _) hlow
     have hd3 : decide ((r : Int) * 1000000000 + ((dg X n : Nat) : Int) < (gq : Int) * ((dg v n : Nat) : Int)) = true := by rw [HP.out]; simp; omega
     clear hlow ht
     as_aux_lemma =>
      go_wp2_with fail
      go_quiet (fail)
      go_wp2_with fail
      go_roundw
      case rel => exact ⟨gq - 1, r + dg v (n + 1), congrArg (Value.int .u64) (by omega), congrArg (Value.int .u64) (by omega), HNX.out, by omega, below_drewN hbr _⟩
      case measure => simp [intOf]; omega
    ·have HD := Lib.hid (HG.out.done HV.out hh HX.out HV0.out (.inr ⟨by omega, by omega⟩))
     have hd3 : decide ((r : Int) * 1000000000 + ((dg X n : Nat) : Int) < (gq : Int) * ((dg v n : Nat) : Int)) = false := by rw [HP.out]; simp; omega
     clear ht
     as_aux_lemma =>
      go_wp2_with fail
      go_quiet (fail)
      go_wp2_with fail
      have hs := subtract_any (c := c) (w := wr.drewN nq) (x := X) (v := v) (fc := gq) (show Arr (wr.drewN nq) g N f from HARR.out.below (below_drewN hbr nq) hgl) hN hin HFX.out (show Num (wr.drewN nq) (.slice (some ⟨yb, 0, none⟩) (n + 2) yc) v from HY.out.below (below_drewN hbr nq)) HN.out hyg HD.out.1
      refine hs.mono ?_
      rintro e w5 ⟨D, br, rfl, hD, he, har5, hk5⟩
      have hte := take_end HV.out HX3.out HV0.out hD he HG.out.low HD.out.2
      have hXv := Nat.lt_trans (Nat.mod_lt X HV0.out) HV.out
      have hkw : Kept g w.heap.size w w5 := (show Kept g w.heap.size w (wr.drewN nq) from ⟨hbr.os, hbr.tape, hbr.output, hbr.size, fun k h1 _ => hbr.block k h1⟩).trans ⟨hk5.os, hk5.tape, hk5.output, hk5.size, fun k h1 h2 => hk5.block k (Nat.lt_of_lt_of_le h1 hbr.size) h2⟩
      have HKW := Lib.hid hkw
      have HD5 := Lib.hid hD
      clear hs he hk5 hD hkw
      by_cases hle : br ≤ dg X (n + 2)
      ·have hlb := leB_yes hle
       obtain ⟨hf, hdd⟩ := hte.1 hle
       have HF := Lib.hid hf
       have HFIN := Lib.hid (show Arr w5 g N (ovr f i (n + 3) (X % v)) from har5.congr (fun j _ => by rw [hdd]; exact ovr_fin1 hXv j))
       clear hte hf hdd har5 hle hXv
       go_wp2_with fail
       go_ret
       exact ⟨ret_int (by rw [← HF.out]), HFIN.out, HKW.out⟩
      ·have hlb := leB_no hle
       obtain ⟨hf, hdd⟩ := hte.2 hle
       have hyb5 : Num w5 (.slice (some ⟨yb, 0, none⟩) (n + 2) yc) v := HY.out.kept HKW.out hybw hyg
       have hadd := addBack_any (c := c) (x := D) har5 hN hin (fun j hj => by rw [upd_other (by omega), ovr, if_pos (by omega), Nat.add_sub_cancel_left]) hyb5 HN.out hyg
       have HF := Lib.hid hf
       have HDD := Lib.hid hdd
       have HXV := Lib.hid hXv
       have HADD := Lib.hid hadd
       have hg0 : 1 ≤ gq := by rw [hf]; exact Nat.succ_le_succ (Nat.zero_le _)
       have hg1 : (1 : Int) ≤ (gq : Int) := by omega
       clear hte hf hdd hle hXv hadd hyb5 har5
       go_wp2_with fail
       refine HADD.out.mono ?_
       rintro e w6 ⟨rfl, har6, hk6⟩
       have HFIN := Lib.hid (show Arr w6 g N (ovr f i (n + 3) (X % v)) from har6.congr (fun j _ => ovr_fin2 HXV.out HDD.out j))
       have HK6 := Lib.hid (show Kept g w.heap.size w w6 from HKW.out.trans ⟨hk6.os, hk6.tape, hk6.output, hk6.size, fun k h1 h2 => hk6.block k (Nat.lt_of_lt_of_le h1 HKW.out.size) h2⟩)
       clear har6 hk6 HADD
       go_wp2_with fail
       go_ret
       exact ⟨ret_int (by have := HF.out; omega), HFIN.out, HK6.out⟩
open Go.RowKit NV
theorem Arr.kept {w w' : World} {g N h R : Nat} {f : Nat → Nat} (ha : Arr w g N f) (hk : Kept h R w w') (hR : g < R) (hg : g ≠ h) : Arr w' g N f := by
 obtain ⟨cur, h1, h2, h3⟩ := ha
 exact ⟨cur, (hk.block g hR hg).trans h1, h2, h3⟩
theorem Arr.one {w : World} (r : Nat) (hr : r < 1000000000) : Arr (w.alloc (.cells #[.int .u64 (r : Int)] 118)) w.heap.size 1 (dg r) := by
 refine ⟨#[.int .u64 (r : Int)], heap_alloc_new w _, rfl, fun j hj => ?_⟩
 obtain rfl : j = 0 := by omega
 have : dg r 0 = r := by rw [dg, B_eq]; simp; omega
 rw [this]; rfl
set_option maxHeartbeats 1600000 in
set_option maxRecDepth 100000 in
theorem divide_less {w : World} {x y : Value} {a b : Nat} (hx : Num w x a) (hy : Num w y b) (ha : ln a ≤ 1000000) (hb : ln b ≤ 1000000) (hab : a < b) :
  Calls Tryz.prog 129 #[x, y] w fun e w' => e = .returned (.tuple #[.slice none 0 0, x]) ∧ Below w.heap.size w w' := by
 have HL := Lib.hid (ncmp_any hx hy (by omega) (by omega))
 have hlow := cmpN_low hab
 obtain ⟨xa, xc, rfl⟩ := slice_any hx
 obtain ⟨ya, yc, rfl⟩ := slice_any hy
 clear hx hy hab
 go_enter Tryz.func129, Tryz.ntmps129
 go_wp2_with fail
 refine HL.out.mono ?_
 rintro e w1 ⟨rfl, hb1⟩
 have HB := Lib.hid hb1
 clear hb1
 go_wp2_with fail
 go_ret2
 exact ⟨rfl, HB.out⟩
set_option maxHeartbeats 1600000 in
set_option maxRecDepth 100000 in
theorem divide_one {w : World} {x y : Value} {a b : Nat} (hx : Num w x a) (hy : Num w y b) (ha : ln a ≤ 1000000) (hb : ln b = 1) (hab : b ≤ a) :
  Calls Tryz.prog 129 #[x, y] w fun e w' => ∃ q r, e = .returned (.tuple #[q, r]) ∧ Own w' w.heap.size q (a / b) ∧ Own w' w.heap.size r (a % b) ∧ Below w.heap.size w w' := by
 have HL := Lib.hid (ncmp_any hx hy (by omega) (by omega))
 have hhigh := cmpN_high hab
 have hblt := lt_pow_ln b
 have hb0 : b ≠ 0 := by intro e; subst e; rw [ln_zero] at hb; omega
 rw [hb, Nat.pow_one, B_eq] at hblt
 have hd0 : dg b 0 = b := by rw [dg, B_eq]; simp; omega
 obtain ⟨xb, xc, rfl, _, _⟩ := slice_form hx (by have := ln_mono hab; omega)
 obtain ⟨yb, yc, rfl, _, _⟩ := slice_form hy (by omega)
 have HX := Lib.hid hx
 have HY := Lib.hid hy
 have HB := Lib.hid hb
 have hbl : ln b ≤ 1 := by omega
 have hbl2 : 1 ≤ ln b := by omega
 have HD0 := Lib.hid hd0
 rw [hb] at HL ⊢
 obtain ⟨r, hr⟩ : ∃ r, r = a % b := ⟨_, rfl⟩
 have hrb : r < 1000000000 := by rw [hr]; exact Nat.lt_trans (Nat.mod_lt _ (by omega)) hblt
 rw [← hr]
 have HRM := Lib.hid hr
 clear hx hy hb hd0 hr
 go_enter Tryz.func129, Tryz.ntmps129
 go_wp2_with fail
 refine HL.out.mono ?_
 rintro e w1 ⟨rfl, hb1⟩
 have hx1 := HX.out.below hb1
 have c0 := (HY.out.below hb1).cell (j := 0) (by omega)
 rw [HD0.out] at c0
 have hds := divideSmall_any hx1 (by omega) (show 1 ≤ b by omega) hblt
 rw [← HRM.out] at hds
 have HC := Lib.hid hds
 have HB1 := Lib.hid hb1
 clear hb1 hx1 HL hds
 go_wp2_with fail
 refine HC.out.mono ?_
 rintro e w2 ⟨v, rfl, hq, hb2⟩
 obtain ⟨qg, qc, rfl⟩ := hq.1
 have HQ := Lib.hid hq
 have HB2 := Lib.hid (HB1.out.trans (hb2.mono HB1.out.size))
 have hsz := HB1.out.size
 have hsz2 := HB2.out.size
 clear hq hb2 HC c0
 go_wp2_with fail
 have harr := Arr.one (w := w2) r hrb
 have hbe : Below w2.heap.size w2 (w2.alloc (.cells #[.int .u64 (r : Int)] 118)) := (Below.refl _ _).alloc (Nat.le_refl _) _
 have hq3 := HQ.out.below hbe
 have hrl : r < B ^ 1 := by rw [Nat.pow_one, B_eq]; exact hrb
 have hcl : ∀ j, j < 1 → (w2.alloc (.cells #[.int .u64 (r : Int)] 118)).cell? ⟨w2.heap.size, j, none⟩ = some (.int .u64 ((dg (r) j : Nat) : Int)) := fun j hj => harr.cell hj
 have HB3 := Lib.hid (HB2.out.trans (hbe.mono HB2.out.size))
 have HR := Lib.hid (show Own (w2.alloc (.cells #[.int .u64 (r : Int)] 118)) w.heap.size (.slice (some ⟨w2.heap.size, 0, none⟩) (ln (r)) 1) (r) from harr.own hsz2 (by omega) (ln_le hrl) (fun j _ => rfl))
 have HQ3 := Lib.hid (hq3.mono hsz)
 have HT := Lib.hid (trim_any (c := 1) (by omega) (Nat.le_refl _) hrl hcl)
 clear harr hbe hq3 hcl hrl HQ HB2
 refine HT.out.mono ?_
 rintro e w3 ⟨rfl, rfl⟩
 go_wp2_with fail
 go_ret2
 exact ⟨_, _, rfl, HQ3.out, HR.out, HB3.out⟩
open Go.RowKit NV
set_option maxHeartbeats 3200000 in
set_option maxRecDepth 100000 in
theorem divide_many {w : World} {x y : Value} {a b n : Nat} (hx : Num w x a) (hy : Num w y b) (ha : ln a ≤ 1000000) (hb : ln b = n + 2) (hab : b ≤ a) :
  Calls Tryz.prog 129 #[x, y] w fun e w' => ∃ q r, e = .returned (.tuple #[q, r]) ∧ Own w' w.heap.size q (a / b) ∧ Own w' w.heap.size r (a % b) ∧ Below w.heap.size w w' := by
 obtain ⟨i0, hi, hz0, hz1, hz2⟩ := info_parts info72
 have hl := ncmp_any hx hy (by omega) (by have := ln_mono hab; omega)
 have hhigh := cmpN_high hab
 obtain ⟨d, hd⟩ : ∃ d, d = 1000000000 / (dg b (n + 1) + 1) := ⟨_, rfl⟩
 have hba := ln_mono hab
 obtain ⟨Q, hQ⟩ : ∃ Q, Q + (n + 1) = ln a := ⟨ln a - (n + 1), by omega⟩
 have hs := sets hb hab hd hQ
 obtain ⟨u, hu⟩ : ∃ u, u = a * d := ⟨_, rfl⟩
 obtain ⟨v, hv⟩ : ∃ v, v = b * d := ⟨_, rfl⟩
 have hd1 := hs.d1
 have hd2 := hs.d2
 have hlv := hs.lnv
 have hhalf := hs.half
 have hstart := hs.start
 have hquo := hs.quo
 have hrest := hs.rest
 have hsmall := hs.small
 have hwide := hs.wide
 rw [← hu, ← hv] at hstart hquo hrest
 rw [← hv] at hlv hhalf
 rw [← hu] at hwide
 have hdd : (1000000000 : Int) / (((dg b (n + 1) : Nat) : Int) + 1) = (d : Int) := by rw [hd]; simp
 have htl := dg_lt b (n + 1)
 obtain ⟨xb, xc, rfl, hxb, _⟩ := slice_form hx (by omega)
 obtain ⟨yb, yc, rfl, hyb, _⟩ := slice_form hy (by omega)
 have hbn : n + 2 ≤ ln b := by omega
 have hbn2 : ln b ≤ 1000000 := by omega
 have hQa : Q ≤ ln a := by omega
 have hQ2 : (ln a : Int) - ((n : Int) + 2) + 1 = (Q : Int) := by omega
 have HL := Lib.hid hl
 rw [hb] at HL ⊢
 have HX := Lib.hid hx
 have HY := Lib.hid hy
 have HU := Lib.hid hu
 have HV := Lib.hid hv
 have HLV := Lib.hid hlv
 have HST := Lib.hid hstart
 have HQU := Lib.hid hquo
 have HRE := Lib.hid hrest
 have HSM := Lib.hid hsmall
 have HWI := Lib.hid hwide
 have HB := Lib.hid hb
 have HQ2 := Lib.hid hQ2
 clear hx hy hu hv hlv hstart hquo hrest hsmall hwide hs hd hl hb hQ hQ2
 go_enter Tryz.func129, Tryz.ntmps129
 go_wp2_with fail
 refine HL.out.mono ?_
 rintro e w1 ⟨rfl, hb1⟩
 have hx1 := HX.out.below hb1
 have hy1 := HY.out.below hb1
 have c0 := hy1.cell (j := n + 1) (by omega)
 have HB1 := Lib.hid hb1
 have hsc1 := scaled_any hx1 ha hd2
 rw [← HU.out] at hsc1
 obtain ⟨g1, hg1⟩ : ∃ g1, g1 = w1.heap.size := ⟨_, rfl⟩
 rw [← hg1] at hsc1
 have HG1 := Lib.hid hg1
 have HS1 := Lib.hid hsc1
 have HY1 := Lib.hid hy1
 clear hb1 hx1 hy1 hsc1 hg1 HL
 go_wp2_with fail
 refine HS1.out.mono ?_
 rintro e w2 ⟨rfl, har2, hb2⟩
 have hy2 := HY1.out.below (by rw [← HG1.out]; exact hb2)
 have hsc2 := scaled_any hy2 hbn2 hd2
 rw [← HV.out, HB.out] at hsc2
 obtain ⟨g2, hg2⟩ : ∃ g2, g2 = w2.heap.size := ⟨_, rfl⟩
 rw [← hg2] at hsc2
 have HG2 := Lib.hid hg2
 have hg12 : g1 < g2 := by rw [hg2]; exact har2.lt
 have HAR2 := Lib.hid har2
 have HB2 := Lib.hid hb2
 have HS2 := Lib.hid hsc2
 clear har2 hb2 hy2 hsc2 hg2 HS1 HY1 c0
 go_wp2_with fail
 refine HS2.out.mono ?_
 rintro e w3 ⟨rfl, har3, hb3⟩
 have hb3' : Below w2.heap.size w2 w3 := by rw [← HG2.out]; exact hb3
 have hvlt : v < B ^ (n + 2 + 1) := by
  have := lt_pow_ln v
  rw [HLV.out] at this
  exact Nat.lt_trans this (by rw [pow_succ (n + 2), B_eq]; have := pow_pos (n + 2); rw [B_eq] at this; omega)
 have htr := trim_any (w := w3) (b := g2) (c := n + 2 + 1) (L := n + 2 + 1) (n := v) (by omega) (Nat.le_refl _) hvlt (fun j hj => har3.cell hj)
 rw [HLV.out] at htr
 have hdv : Num w3 (.slice (some ⟨g2, 0, none⟩) (n + 2) (n + 2 + 1)) v := by
  have := (har3.own (base := 0) (n := v) (Nat.zero_le _) (by omega) (by rw [HLV.out]; omega) (fun j _ => rfl)).num
  rwa [HLV.out] at this
 have har1 : Arr w3 g1 (ln a + 1) (dg u) := HAR2.out.below hb3' HAR2.out.lt
 have hgl3 := har3.lt
 have HB3 := Lib.hid (HB1.out.trans ((HB2.out.trans (hb3.mono (Nat.le_of_lt hg12))).mono (by rw [HG1.out]; exact HB1.out.size)))
 have hsz3 := HB3.out.size
 have HTR := Lib.hid htr
 have HDV := Lib.hid hdv
 have HAR1 := Lib.hid har1
 clear har3 hb3 hb3' hvlt htr hdv har1 HAR2 HB2 HS2
 go_wp2_with fail
 refine HTR.out.mono ?_
 rintro e w4 ⟨rfl, rfl⟩
 obtain ⟨g3, hg3⟩ : ∃ g3, g3 = w3.heap.size := ⟨_, rfl⟩
 have HG3 := Lib.hid hg3
 have hg23 : g2 < g3 := by rw [hg3]; exact hgl3
 clear hg3
 go_wp2_with (at_make; refine wpList_make_full _ rfl _ _ 108 rfl w3.heap.size 118 i0 (.int .u64 0) 1 Tryz.underlying108 hi hz0 hz1 _ _ _ _ Q rfl rfl HQ2.out HQ2.out (by rw [hz2]; omega) (by unfold maxLen; omega) (Nat.le_refl _) ?_)
 intro w5 hown5 hgrow5
 have harq : Arr w5 w3.heap.size Q (fun _ => 0) := Arr.made (base := w3.heap.size) (by rw [Nat.mul_one]; exact hown5)
 rw [← HG3.out] at harq
 have hb5 : Below w3.heap.size w3 w5 := (Below.refl _ _).grown hgrow5 (by simp) (fun k hk => by cases hk)
 have HARQ := Lib.hid harq
 have HAR5 := Lib.hid (HAR1.out.below hb5 HAR1.out.lt)
 have HDV5 := Lib.hid (HDV.out.below hb5)
 have HB5 := Lib.hid (HB3.out.trans (hb5.mono HB3.out.size))
 rw [← HG3.out] at hown5
 rw [← HG3.out]
 clear hown5 hgrow5 harq hb5 HAR1 HDV HTR
 go_wp2_with fail
 have hQn : Q + (n + 1) = ln a := by have := HQ2.out; omega
 have hQn1 : Q + (n + 1) ≤ ln a := by omega
 have hQn2 : ln a ≤ Q + (n + 1) := by omega
 clear hQn
 go_loopw [10] (fun s10 wr => ∃ k : Nat, k ≤ Q ∧ s10 = .int .i64 ((k : Int) - 1) ∧ Arr wr g1 (ln a + 1) (dg (u % (v * B ^ k))) ∧ Arr wr g3 Q (dgu (u / v) k) ∧ Num wr (.slice (some ⟨g2, 0, none⟩) (n + 2) (n + 2 + 1)) v ∧ Below w.heap.size w wr) (fun s10 _ => ((intOf s10) + 1).toNat)
 case atStart => exact ⟨Q, Nat.le_refl _, rfl, by rw [Nat.mod_eq_of_lt HST.out]; exact HAR5.out, HARQ.out.congr (fun j hj => by rw [dgu, if_neg (by omega)]), HDV5.out, HB5.out⟩
 case round =>
  obtain ⟨k, hk, rfl, har, haq, hdv, hbr⟩ := hrel
  have HAR := Lib.hid har
  have HAQ := Lib.hid haq
  have HDV := Lib.hid hdv
  have HBR := Lib.hid hbr
  have hwg : w.heap.size ≤ g1 := by rw [HG1.out]; exact HB1.out.size
  clear HAR5 HARQ HDV5 HB5 har haq hdv hbr
  have hv0 : 0 < v := by
   by_cases h : v = 0
   ·have := HLV.out; rw [h, ln_zero] at this; omega
   ·omega
  have HV0 := Lib.hid hv0
  clear hv0
  by_cases hk0 : 0 < k
  ·obtain ⟨q, rfl⟩ : ∃ q, k = q + 1 := ⟨k - 1, by omega⟩
   have hto := takeOut_any (w := wr) (g := g1) (N := ln a + 1) (i := q) (n := n) (c := ln a + 1 - q) (X := u % (v * B ^ (q + 1)) / B ^ q) (v := v) (yb := g2) (yc := n + 2 + 1) HAR.out (by omega) (by omega) (fun j _ => by rw [dg_shift]) HDV.out HLV.out.symm (by omega) hhalf (left_lt HV0.out)
   have hls := left_step u v q HV0.out
   have c1 := HAQ.out.cell (j := q) (by omega)
   have c2 := HAQ.out.free q
   rw [hls.2.1] at hto
   have HTO := Lib.hid hto
   have HLS := Lib.hid hls
   clear hto hls
   go_wp2_with fail
   rw [show q + (n + 2) + 1 - q = n + 2 + 1 by omega]
   refine HTO.out.mono ?_
   rintro e w6 ⟨rfl, har6, hk6⟩
   have hg3l : g3 < wr.heap.size := HAQ.out.lt
   have haq6 := HAQ.out.kept hk6 hg3l (by omega)
   have hdv6 := HDV.out.kept hk6 (by omega) (by omega)
   have har6' : Arr w6 g1 (ln a + 1) (dg (u % (v * B ^ q))) := har6.congr (fun j _ => row_round (n := n) HV0.out (by have := lt_pow_ln v; rwa [HLV.out] at this) j)
   have hb6 := HBR.out.trans (hk6.below hwg HBR.out.size)
   have c1 := haq6.cell (j := q) (by omega)
   have c2 := haq6.free q
   have haq7 := haq6.store q (dg (u / v) q)
   rw [dgu_step rfl] at haq7
   have har7 := har6'.other (a := ⟨g3, q, none⟩) (show g1 ≠ g3 by omega) (.int .u64 ((dg (u / v) q : Nat) : Int))
   have hdv7 := hdv6.kept ((Kept.refl g3 (g3 + 1) w6).setCell (p := ⟨g3, q, none⟩) (.inl rfl) (.int .u64 ((dg (u / v) q : Nat) : Int))) (by omega) (by omega)
   have hb7 := hb6.setCell (p := ⟨g3, q, none⟩) (show w.heap.size ≤ g3 by omega) (.int .u64 ((dg (u / v) q : Nat) : Int))
   have HF := Lib.hid (And.intro har7 (And.intro haq7 (And.intro hdv7 hb7)))
   clear har6 hk6 haq6 hdv6 har6' hb6 haq7 har7 hdv7 hb7 HTO
   go_wp2_with fail
   go_roundw
   case rel => exact ⟨q, by omega, by go_num, HF.out.1, HF.out.2.1, HF.out.2.2.1, HF.out.2.2.2⟩
   case measure => simp [intOf]
  ·obtain rfl : k = 0 := by omega
   obtain ⟨R, hR⟩ : ∃ R, R = u % v := ⟨_, rfl⟩
   have hRu : R < B ^ (ln a + 1) := Nat.lt_of_le_of_lt (by rw [hR]; exact Nat.mod_le _ _) HWI.out
   have har0 : Arr wr g1 (ln a + 1) (dg R) := by
    have := HAR.out
    rw [Nat.pow_zero, Nat.mul_one, ← hR] at this
    exact this
   have htr := trim_any (w := wr) (b := g1) (c := ln a + 1) (L := ln a + 1) (n := R) (by omega) (Nat.le_refl _) hRu (fun j hj => har0.cell hj)
   have hnr := (har0.own (base := 0) (Nat.zero_le _) (by omega) (ln_le hRu) (fun j _ => rfl)).num
   have hds := divideSmall_any hnr (by have h9 := ln_mono (Nat.le_of_lt (show R < v by rw [hR]; exact Nat.mod_lt _ HV0.out)); rw [HLV.out] at h9; omega) hd1 (show d < 1000000000 by omega)
   have hrd : R / d = a % b := by rw [hR]; exact HRE.out
   rw [hrd] at hds
   have HTR := Lib.hid htr
   have HDS := Lib.hid hds
   have hquo0 : u / v = a / b := HQU.out
   have hq0 : Arr wr g3 Q (dg (a / b)) := by
    rw [← hquo0]
    exact HAQ.out.congr (fun j _ => by rw [dgu, if_pos (Nat.zero_le _)])
   have HQ0 := Lib.hid hq0
   have hw3 : w.heap.size ≤ g3 := by omega
   clear hR hRu har0 htr hnr hds hrd hquo0 hq0
   go_wp2_with fail
   refine HTR.out.mono ?_
   rintro e w6 ⟨rfl, rfl⟩
   go_wp2_with fail
   refine HDS.out.mono ?_
   rintro e w7 ⟨rv, rfl, hrv, hb7⟩
   obtain ⟨rg, rc, rfl⟩ := hrv.1
   have hq7 := HQ0.out.below hb7 HQ0.out.lt
   have htq := trim_any (w := w7) (b := g3) (c := Q) (L := Q) (n := a / b) (by omega) (Nat.le_refl _) HSM.out (fun j hj => hq7.cell hj)
   have HTQ := Lib.hid htq
   have HF := Lib.hid (And.intro (hq7.own hw3 (by omega) (ln_le HSM.out) (fun j _ => rfl)) (And.intro (hrv.mono HBR.out.size) (HBR.out.trans (hb7.mono HBR.out.size))))
   clear hrv hb7 hq7 htq HDS
   go_wp2_with fail
   refine HTQ.out.mono ?_
   rintro e w8 ⟨rfl, rfl⟩
   go_wp2_with fail
   go_ret2
   exact ⟨_, _, rfl, HF.out.1, HF.out.2.1, HF.out.2.2⟩
open Go.RowKit NV
theorem divide_any {w : World} {x y : Value} {a b : Nat} (hx : Num w x a) (hy : Num w y b) (ha : ln a ≤ 1000000) (hb : ln b ≤ 1000000) (hb0 : b ≠ 0) :
  Calls Tryz.prog 129 #[x, y] w fun e w' => ∃ q r, e = .returned (.tuple #[q, r]) ∧ Num w' q (a / b) ∧ Num w' r (a % b) ∧ Below w.heap.size w w' := by
 by_cases hab : a < b
 ·refine (divide_less hx hy ha hb hab).mono ?_
  rintro e w' ⟨rfl, hbe⟩
  exact ⟨_, _, rfl, by rw [Nat.div_eq_of_lt hab]; exact Num.nil w', by rw [Nat.mod_eq_of_lt hab]; exact hx.below hbe, hbe⟩
 ·have hl := ln_pos hb0
  by_cases h1 : ln b = 1
  ·refine (divide_one hx hy ha h1 (by omega)).mono ?_
   rintro e w' ⟨q, r, rfl, hq, hr, hbe⟩
   exact ⟨_, _, rfl, hq.num, hr.num, hbe⟩
  ·refine (divide_many (n := ln b - 2) hx hy ha (by omega) (by omega)).mono ?_
   rintro e w' ⟨q, r, rfl, hq, hr, hbe⟩
   exact ⟨_, _, rfl, hq.num, hr.num, hbe⟩
open Go.RowKit NV
set_option maxHeartbeats 800000 in
theorem over_any {w : World} {x y : Value} {a b : Nat} (hx : Num w x a) (hy : Num w y b) (ha : ln a ≤ 1000000) (hb : ln b ≤ 1000000) (hb0 : b ≠ 0) :
  Calls Tryz.prog 99 #[x, y] w fun e w' => ∃ q, e = .returned q ∧ Num w' q (a / b) ∧ Below w.heap.size w w' := by
 have HO := Lib.hid (isOne_any hy)
 have HX := Lib.hid hx
 by_cases hb1 : b = 1
 ·rw [hb1, oneB_yes] at HO
  rw [hb1, Nat.div_one]
  obtain ⟨xa, xc, rfl⟩ := slice_any hx
  obtain ⟨ya, yc, rfl⟩ := slice_any hy
  clear hx hy hb1 hb0
  go_enter Tryz.func99, Tryz.ntmps99
  go_wp2_with fail
  refine HO.out.mono ?_
  rintro e w' ⟨rfl, rfl⟩
  go_wp2_with fail
  go_ret
  exact ⟨_, rfl, HX.out, Below.refl _ _⟩
 ·rw [oneB_no hb1] at HO
  have HD := Lib.hid (divide_any hx hy ha hb hb0)
  obtain ⟨xa, xc, rfl⟩ := slice_any hx
  obtain ⟨ya, yc, rfl⟩ := slice_any hy
  clear hx hy hb1 hb0
  go_enter Tryz.func99, Tryz.ntmps99
  go_wp2_with fail
  refine HO.out.mono ?_
  rintro e w' ⟨rfl, rfl⟩
  go_wp2_with fail
  refine HD.out.mono ?_
  rintro e w' ⟨q, r, rfl, hq, _, hbe⟩
  have HF := Lib.hid (And.intro hq hbe)
  obtain ⟨qa, qc, rfl⟩ := slice_any hq
  clear hq hbe
  go_wp2_with fail
  go_ret
  exact ⟨_, rfl, HF.out.1, HF.out.2⟩
end Go.Proofs.YtjpepjooefkbkaaGreatDoor
