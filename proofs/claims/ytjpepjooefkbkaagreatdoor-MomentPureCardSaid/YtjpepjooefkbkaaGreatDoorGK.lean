/-
  A product row by row, each added in place. The reference's Times. The reference's Write. The reference's number.
-/
import Derived.Test.YtjpepjooefkbkaaGreatDoorGA
import Derived.Test.YtjpepjooefkbkaaGreatDoorGF
import Derived.Test.YtjpepjooefkbkaaGreatDoorGB
import Derived.Test.YtjpepjooefkbkaaGreatDoorGC
import Derived.Laws.IdiomStrings
namespace Go.Proofs.YtjpepjooefkbkaaGreatDoor
namespace NV
def tc (H b d k : Nat) : Nat := (H % B ^ k + b % B ^ k * d) / B ^ k
theorem tc_zero (H b d : Nat) : tc H b d 0 = 0 := by simp [tc, Nat.mod_one]
theorem tc_lt (H b d k : Nat) (hd : d < 1000000000) : tc H b d k < 1000000000 := by
 rw [tc, Nat.div_lt_iff_lt_mul (pow_pos k)]
 have h1 : H % B ^ k < B ^ k := Nat.mod_lt _ (pow_pos k)
 have h2 : b % B ^ k ≤ B ^ k := Nat.le_of_lt (Nat.mod_lt _ (pow_pos k))
 have h3 : b % B ^ k * d ≤ B ^ k * 999999999 := Nat.mul_le_mul h2 (by omega)
 generalize B ^ k = P at *
 omega
theorem tc_step (H b d k : Nat) : H % B ^ (k + 1) + b % B ^ (k + 1) * d = (H % B ^ k + b % B ^ k * d) % B ^ k + B ^ k * (dg H k + dg b k * d + tc H b d k) := by
 rw [mod_succ, mod_succ, tc]
 have h := Nat.mod_add_div (H % B ^ k + b % B ^ k * d) (B ^ k)
 rw [Nat.add_mul, Nat.mul_add, Nat.mul_add, Nat.mul_assoc]
 omega
theorem tc_succ (H b d k : Nat) : tc H b d (k + 1) = (dg H k + dg b k * d + tc H b d k) / 1000000000 := by
 rw [tc, tc_step, pow_succ, ← Nat.div_div_eq_div_mul, Nat.add_mul_div_left _ _ (pow_pos k), Nat.div_eq_of_lt (Nat.mod_lt _ (pow_pos k)), Nat.zero_add, B_eq]
theorem dg_row (H b d k : Nat) : dg (H + b * d) k = (dg H k + dg b k * d + tc H b d k) % 1000000000 := by
 have h1 : (H + b * d) % B ^ (k + 1) = (H % B ^ (k + 1) + b % B ^ (k + 1) * d) % B ^ (k + 1) := by
  simp [Nat.add_mod, Nat.mul_mod]
 rw [← dg_mod (n := H + b * d) (k := k + 1) (by omega), h1, dg_mod (by omega), tc_step, dg_at (Nat.mod_lt _ (pow_pos k)), B_eq]
theorem dg_row_top {H b d L : Nat} (hH : H < B ^ L) (hb : b < B ^ L) (hd : d < 1000000000) : dg (H + b * d) L = tc H b d L := by
 have h := tc_lt H b d L hd
 rw [dg, ← B_eq] at *
 rw [tc, Nat.mod_eq_of_lt hH, Nat.mod_eq_of_lt hb] at h ⊢
 rw [Nat.mod_eq_of_lt h]
def rowsTo (a b i : Nat) : Nat := a % B ^ i * b
theorem rowsTo_zero (a b : Nat) : rowsTo a b 0 = 0 := by simp [rowsTo, Nat.mod_one]
theorem rowsTo_lt {a b L : Nat} (hb : b < B ^ L) (i : Nat) : rowsTo a b i < B ^ (i + L) := by
 rw [rowsTo, Nat.pow_add]
 exact Nat.mul_lt_mul'' (Nat.mod_lt _ (pow_pos i)) hb
theorem rowsTo_succ (a b i : Nat) : rowsTo a b (i + 1) = rowsTo a b i % B ^ i + B ^ i * (rowsTo a b i / B ^ i + b * dg a i) := by
 have h := Nat.mod_add_div (rowsTo a b i) (B ^ i)
 have e : rowsTo a b (i + 1) = rowsTo a b i + B ^ i * (b * dg a i) := by
  rw [rowsTo, rowsTo, mod_succ, Nat.add_mul, Nat.mul_assoc, Nat.mul_comm (dg a i) b]
 rw [e, Nat.mul_add]
 omega
theorem rowsTo_low (a b i j : Nat) (h : j < i) : dg (rowsTo a b (i + 1)) j = dg (rowsTo a b i) j := by
 rw [rowsTo_succ, dg_add_mul h, dg_mod h]
theorem rowsTo_high (a b i k : Nat) : dg (rowsTo a b (i + 1)) (i + k) = dg (rowsTo a b i / B ^ i + b * dg a i) k := by
 rw [← dg_shift]
 congr 1
 rw [rowsTo_succ, Nat.add_mul_div_left _ _ (pow_pos i), Nat.div_eq_of_lt (Nat.mod_lt _ (pow_pos i)), Nat.zero_add]
theorem rowsTo_end {a b L : Nat} (ha : a < B ^ L) : rowsTo a b L = a * b := by rw [rowsTo, Nat.mod_eq_of_lt ha]
def rowsAt (a b i k j : Nat) : Nat := if j < i + k then dg (rowsTo a b (i + 1)) j else dg (rowsTo a b i) j
theorem rowsAt_zero (a b i j : Nat) : rowsAt a b i 0 j = dg (rowsTo a b i) j := by
 rw [rowsAt]
 split
 ·exact rowsTo_low a b i j (by omega)
 ·rfl
theorem rowsAt_done {a b i L : Nat} (hb : b < B ^ L) (j : Nat) : rowsAt a b i (L + 1) j = dg (rowsTo a b (i + 1)) j := by
 rw [rowsAt]
 split
 ·rfl
 ·rw [dg_big, dg_big]
  ·exact Nat.lt_of_lt_of_le (rowsTo_lt hb (i + 1)) (Nat.pow_le_pow_right B_pos (by omega))
  ·exact Nat.lt_of_lt_of_le (rowsTo_lt hb i) (Nat.pow_le_pow_right B_pos (by omega))
theorem rowsAt_here (a b i k : Nat) : rowsAt a b i k (i + k) = dg (rowsTo a b i / B ^ i) k := by
 rw [rowsAt, if_neg (by omega), dg_shift]
theorem high_lt {a b L : Nat} (hb : b < B ^ L) (i : Nat) : rowsTo a b i / B ^ i < B ^ L := by
 rw [Nat.div_lt_iff_lt_mul (pow_pos i), Nat.mul_comm, ← Nat.pow_add]
 exact rowsTo_lt hb i
end NV
open Go.RowKit NV
set_option maxHeartbeats 1600000 in
set_option maxRecDepth 100000 in
theorem itimes_any {w : World} {x y : Value} {a b : Nat} (hx : INum w x a) (hy : INum w y b) (ha : ln a ≤ 1000000) (hb : ln b ≤ 1000000) :
  Calls Tryz.prog 50 #[x, y] w fun e w' => ∃ v, e = .returned v ∧ INum w' v (a * b) ∧ Below w.heap.size w w' := by
 obtain ⟨i0, hi, hz0, hz1, hz2⟩ := info_parts infoI
 obtain ⟨xa, xc, rfl⟩ := islice_any hx
 obtain ⟨ya, yc, rfl⟩ := islice_any hy
 have hlt0 : a * b < B ^ (ln a + ln b) := mul_lt_pow (lt_pow_ln a) (lt_pow_ln b)
 have hln := ln_le hlt0
 go_enter Tryz.func50, Tryz.ntmps50
 go_wp2_with (at_make; refine wpList_make_full _ rfl _ _ 59 rfl w.heap.size 3 i0 (.int .i64 0) 1 Tryz.underlying59 hi hz0 hz1 _ _ _ _ (ln a + ln b) rfl rfl (by omega) (by omega) (by rw [hz2]; omega) (by unfold maxLen; omega) (by simp) ?_)
 intro w1 hown1 hgrow1
 have harr : IArr w1 w.heap.size (ln a + ln b) (dg (rowsTo a b 0)) := (IArr.made (base := w.heap.size) (by rw [Nat.mul_one]; exact hown1)).congr (fun j _ => by rw [rowsTo_zero, dg_zero])
 have hb1 : Below w.heap.size w w1 := (Below.refl _ _).grown hgrow1 (by simp) (fun k hk => by cases hk)
 clear hown1 hgrow1
 go_wp2
 go_loopw [6] (fun i wr => ∃ p : Nat, p ≤ ln a ∧ i = .int .i64 p ∧ IArr wr w.heap.size (ln a + ln b) (dg (rowsTo a b p)) ∧ Below w.heap.size w wr) (fun i _ => ln a - (intOf i).toNat)
 case atStart => exact ⟨0, Nat.zero_le _, rfl, harr, hb1⟩
 case round =>
  obtain ⟨p, hp, rfl, har, hbr⟩ := hrel
  clear harr hb1
  obtain ⟨wo, rfl⟩ : ∃ wo : World, wo = wr := ⟨_, rfl⟩
  by_cases hlt : p < ln a
  ·obtain ⟨xb, rfl⟩ := hx.addr (by omega)
   have har0 : IArr wo w.heap.size (ln a + ln b) (rowsAt a b p 0) := har.congr (fun j _ => (rowsAt_zero a b p j).symm)
   clear har
   go_wp2_with fail
   go_loopw [7, 8] (fun c k wi => ∃ q : Nat, q ≤ ln b ∧ k = .int .i64 q ∧ c = .int .i64 ((tc (rowsTo a b p / B ^ p) b (dg a p) q : Nat) : Int) ∧ IArr wi w.heap.size (ln a + ln b) (rowsAt a b p q) ∧ Below w.heap.size w wi) (fun _ k _ => ln b - (intOf k).toNat)
   case atStart => exact ⟨0, Nat.zero_le _, rfl, by rw [tc_zero]; rfl, har0, hbr⟩
   case round =>
    obtain ⟨q, hq, rfl, rfl, hai, hbi⟩ := hrel
    clear har0 hbr
    have bt := tc_lt (rowsTo a b p / B ^ p) b (dg a p) q (dg_lt a p)
    by_cases hqb : q < ln b
    ·obtain ⟨yb, rfl⟩ := hy.addr (by omega)
     have c0 := hai.cell (show p + q < ln a + ln b by omega)
     have f0 := hai.free (p + q)
     rw [rowsAt_here] at c0
     have c1 := (hx.below hbi).cell hlt
     have c2 := (hy.below hbi).cell hqb
     have bh := dg_lt (rowsTo a b p / B ^ p) q
     have pb := prod_bd a b p q
     have hv := Lib.hid (show (((dg (rowsTo a b p / B ^ p) q : Nat) : Int) + ((dg a p : Nat) : Int) * ((dg b q : Nat) : Int) + ((tc (rowsTo a b p / B ^ p) b (dg a p) q : Nat) : Int)) % 1000000000 = ((dg (rowsTo a b (p + 1)) (p + q) : Nat) : Int) by
      rw [rowsTo_high, dg_row, Nat.mul_comm (dg b q)]; simp)
     have hw := Lib.hid (show (((dg (rowsTo a b p / B ^ p) q : Nat) : Int) + ((dg a p : Nat) : Int) * ((dg b q : Nat) : Int) + ((tc (rowsTo a b p / B ^ p) b (dg a p) q : Nat) : Int)) / 1000000000 = ((tc (rowsTo a b p / B ^ p) b (dg a p) (q + 1) : Nat) : Int) by
      rw [tc_succ, Nat.mul_comm (dg b q)]; simp)
     have HST := Lib.hid (show ∀ wz : World, IArr wz w.heap.size (ln a + ln b) (rowsAt a b p q) → IArr (wz.setCell ⟨w.heap.size, p + q, none⟩ (.int .i64 ((dg (rowsTo a b (p + 1)) (p + q) : Nat) : Int))) w.heap.size (ln a + ln b) (rowsAt a b p (q + 1)) from fun wz hz =>
      (hz.store (p + q) (dg (rowsTo a b (p + 1)) (p + q))).congr (fun j _ => by
       by_cases e : j = p + q
       ·rw [e, upd_same, rowsAt, if_pos (by omega)]
       ·rw [upd_other e, rowsAt, rowsAt]
        by_cases e2 : j < p + q
        ·rw [if_pos e2, if_pos (by omega)]
        ·rw [if_neg e2, if_neg (by omega)]))
     have HAI := Lib.hid hai
     generalize tc (rowsTo a b p / B ^ p) b (dg a p) q = C at *
     generalize dg (rowsTo a b p / B ^ p) q = D at *
     clear hai
     go_wp2_with fail
     go_quiet (fail)
     go_wp2_with fail
     go_roundw
     case rel => exact ⟨q + 1, by omega, by go_num, by rw [hw.out], by rw [hv.out]; exact HST.out _ HAI.out, (below_drewN hbi _).setCell (by simp) _⟩
     case measure => simp [intOf]; omega
    ·obtain rfl : q = ln b := by omega
     have c0 := hai.cell (show p + ln b < ln a + ln b by omega)
     have f0 := hai.free (p + ln b)
     have HV := Lib.hid (show tc (rowsTo a b p / B ^ p) b (dg a p) (ln b) = dg (rowsTo a b (p + 1)) (p + ln b) by
      rw [rowsTo_high, dg_row_top (high_lt (lt_pow_ln b) p) (lt_pow_ln b) (dg_lt a p)])
     have HST := Lib.hid (show ∀ wz : World, IArr wz w.heap.size (ln a + ln b) (rowsAt a b p (ln b)) → IArr (wz.setCell ⟨w.heap.size, p + ln b, none⟩ (.int .i64 ((dg (rowsTo a b (p + 1)) (p + ln b) : Nat) : Int))) w.heap.size (ln a + ln b) (dg (rowsTo a b (p + 1))) from fun wz hz =>
      (hz.store (p + ln b) (dg (rowsTo a b (p + 1)) (p + ln b))).congr (fun j _ => by
       refine Eq.trans ?_ (rowsAt_done (lt_pow_ln b) j)
       by_cases e : j = p + ln b
       ·rw [e, upd_same, rowsAt, if_pos (by omega)]
       ·rw [upd_other e, rowsAt, rowsAt]
        by_cases e2 : j < p + ln b
        ·rw [if_pos e2, if_pos (by omega)]
        ·rw [if_neg e2, if_neg (by omega)]))
     have HAI := Lib.hid hai
     rw [HV.out]
     clear hai HV bt
     go_wp2_with fail
     go_roundw
     case rel => exact ⟨p + 1, by omega, by go_num, HST.out _ HAI.out, hbi.setCell (by simp) _⟩
     case measure => simp [intOf]; omega
  ·obtain rfl : p = ln a := by omega
   have HC := Lib.hid (show ∀ j, j < ln a + ln b → wo.cell? ⟨w.heap.size, j, none⟩ = some (.int .i64 ((dg (a * b) j : Nat) : Int)) from fun j hj => by
    rw [har.cell hj, rowsTo_end (lt_pow_ln a)])
   have HN := Lib.hid (show ∀ _ : Nat, INum wo (.slice (some ⟨w.heap.size, 0, none⟩) (ln (a * b)) (ln a + ln b)) (a * b) from fun _ =>
    inum_of (k := ln a + ln b) har.lt hln (Nat.le_refl _) HC.out)
   go_wp2_with fail
   refine (itrim_any (n := a * b) (by omega) (Nat.le_refl _) hlt0 HC.out).mono ?_
   rintro e w2 ⟨rfl, rfl⟩
   go_wp2_with fail
   go_ret
   exact ⟨_, rfl, HN.out 0, hbr⟩
open Go.RowKit NV
open Go.Lib (decDigits)
def pb (n N j : Nat) : Nat := 48 + n / 10 ^ (N - 1 - j) % 10
theorem pb_bd (n N j : Nat) : 48 ≤ pb n N j ∧ pb n N j ≤ 57 := by unfold pb; omega
theorem dec_get (n : Nat) : ∀ i, i < (decDigits n).length → (decDigits n)[i]?.map (·.toNat) = some (pb n (decDigits n).length i) := by
 refine dec_ind (fun n => ∀ i, i < (decDigits n).length → (decDigits n)[i]?.map (·.toNat) = some (pb n (decDigits n).length i)) ?_ ?_ n
 ·intro n hn i hi
  rw [dec_small hn] at *
  have hi0 : i = 0 := by simp at hi; omega
  subst hi0
  rw [pb]
  simp [Nat.mod_eq_of_lt hn]
  omega
 ·intro n hn ih i hi
  rw [dec_big hn] at *
  rw [List.length_append, List.length_singleton] at *
  by_cases h : i < (decDigits (n / 10)).length
  ·rw [List.getElem?_append_left h, ih i h, pb, pb, Nat.div_div_eq_div_mul]
   have e : 10 * 10 ^ ((decDigits (n / 10)).length - 1 - i) = 10 ^ ((decDigits (n / 10)).length + 1 - 1 - i) := by
    rw [Nat.mul_comm, ← Nat.pow_succ]; congr 1; omega
   rw [e]
  ·have e : i = (decDigits (n / 10)).length := by omega
   rw [List.getElem?_append_right (by omega), e, Nat.sub_self, pb]
   simp
   omega
theorem limb_digit (n p t : Nat) (ht : t < 9) : dg n p / 10 ^ t % 10 = n / 10 ^ (9 * p + t) % 10 := by
 have e : (1000000000 : Nat) = 10 ^ t * 10 ^ (9 - t) := by rw [← Nat.pow_add]; simp [show t + (9 - t) = 9 by omega]
 rw [dg, B_pow, B_eq, Nat.pow_add, ← Nat.div_div_eq_div_mul]
 generalize n / 10 ^ (9 * p) = X
 rw [e, Nat.mod_mul_right_div_self]
 obtain ⟨q, hq⟩ : ∃ q, 9 - t = q + 1 := ⟨8 - t, by omega⟩
 rw [hq, Nat.pow_succ, Nat.mul_comm (10 ^ q) 10, Nat.mod_mul_right_mod]
def BArr (w : World) (g N : Nat) (f : Nat → Nat) : Prop :=
 ∃ cur, w.heap[g]? = some (.cells cur 5 (0, 0)) ∧ cur.size = N ∧ ∀ j, j < N → cur[j]? = some (.int .u8 ((f j : Nat) : Int))
theorem BArr.cell {w : World} {g N : Nat} {f : Nat → Nat} (h : BArr w g N f) {j : Nat} (hj : j < N) : w.cell? ⟨g, j, none⟩ = some (.int .u8 ((f j : Nat) : Int)) := by
 obtain ⟨cur, h1, h2, h3⟩ := h
 rw [cell_of_row w g j cur _ _ h1]
 exact h3 j hj
theorem BArr.free {w : World} {g N : Nat} {f : Nat → Nat} (h : BArr w g N f) (j : Nat) : w.frozen? ⟨g, j, none⟩ = false := by
 obtain ⟨cur, h1, h2, h3⟩ := h
 exact frozen_of_row w g j cur _ h1
theorem BArr.store {w : World} {g N : Nat} {f : Nat → Nat} (h : BArr w g N f) (i x : Nat) : BArr (w.setCell ⟨g, i, none⟩ (.int .u8 ((x : Nat) : Int))) g N (upd f i x) := by
 obtain ⟨cur, h1, h2, h3⟩ := h
 refine ⟨cur.setIfInBounds i (.int .u8 ((x : Nat) : Int)), heap_setCell_same w g i cur _ _ h1, by simpa using h2, fun j hj => ?_⟩
 rw [Array.getElem?_setIfInBounds]
 by_cases e : i = j
 ·subst e
  rw [if_pos rfl, if_pos (by omega), upd_same]
 ·rw [if_neg e, upd_other (fun h => e h.symm)]
  exact h3 j hj
theorem BArr.made {w : World} {base g N : Nat} (h : w.ownsRow base 5 1 (.slice (some ⟨g, 0, none⟩) N N) N (madeCells (Value.int .u8 0).cells (N * 1)).toList) : BArr w g N (fun _ => 0) := by
 rcases h.2 with ⟨h', _⟩ | ⟨g', cap', cur, h', hb, hg, hnc, hcm, hcs, htake⟩
 ·simp at h'
 ·simp only [Value.slice.injEq, Option.some.injEq, Addr.mk.injEq, and_true, true_and] at h'
  obtain ⟨rfl, rfl⟩ := h'
  refine ⟨cur, hg, by omega, fun j hj => ?_⟩
  have e : (cur.toList.take (N * 1))[j]? = some (.int .u8 0) := by
   rw [htake, Nat.mul_one]
   show (madeCells #[Value.int .u8 0] N).toList[j]? = _
   rw [toList_madeCells_one, List.getElem?_replicate, if_pos hj]
  rw [List.getElem?_take, if_pos (by omega)] at e
  simpa using e
theorem len_of_bounds {n m : Nat} (h0 : 1 ≤ m) (h1 : n < 10 ^ m) (h2 : m = 1 ∨ 10 ^ (m - 1) ≤ n) : (decDigits n).length = m := by
 have a1 := (dec_len_le (n := n) (k := m) (by omega)).2 h1
 have a2 := dec_len_pos n
 rcases h2 with h2 | h2
 ·omega
 ·by_cases hm : m = 1
  ·omega
  ·have a3 := mt (dec_len_le (n := n) (k := m - 1) (by omega)).1 (by omega)
   omega
set_option maxHeartbeats 3200000 in
set_option maxRecDepth 100000 in
theorem iwrite_any {w : World} {x : Value} {n : Nat} (hx : INum w x n) (hn : ln n ≤ 1000000) :
  Calls Tryz.prog 49 #[x] w fun e w' => e = .returned (.string (dstr n)) ∧ Below w.heap.size w w' := by
 obtain ⟨i0, hi, hz0, hz1, hz2⟩ := info_parts info5
 by_cases h0 : ln n = 0
 ·obtain ⟨xa, xc, rfl⟩ := islice_any hx
  have hn0 := ln_eq_zero h0
  have HR := Lib.hid (show (⟨#[48]⟩ : ByteArray) = dstr n by rw [hn0, dstr, dec_small (by omega)]; rfl)
  rw [h0]
  clear h0 hn0
  go_enter Tryz.func49, Tryz.ntmps49
  go_wp2_with fail
  go_ret
  exact ⟨by rw [← HR.out]; rfl, Below.refl _ _⟩
 ·obtain ⟨xb, xc, rfl, hxb, hxc⟩ := islice_form hx (by omega)
  obtain ⟨L, hL⟩ : ∃ L, ln n = L := ⟨_, rfl⟩
  have HLT := Lib.hid (show n < 10 ^ (9 * L) by rw [← hL, ← B_pow]; exact lt_pow_ln n)
  have hx' : ∀ j, j < L → w.cell? ⟨xb, j, none⟩ = some (.int .i64 ((dg n j : Nat) : Int)) := fun j hj => hx.cell (by omega)
  have hNZ := Lib.hid (show n ≠ 0 by intro e; rw [e, ln_zero] at h0; exact h0 rfl)
  rw [hL] at h0 hn ⊢
  have HX := Lib.hid hx'
  clear hx hx' hL hxc
  go_enter Tryz.func49, Tryz.ntmps49
  go_wp2_with (at_make; refine wpList_make_full _ rfl _ _ 129 rfl w.heap.size 5 i0 (.int .u8 0) 1 Tryz.underlying129 hi hz0 hz1 _ _ _ _ (9 * L) rfl rfl (by omega) (by omega) (by rw [hz2]; omega) (by unfold maxLen; omega) (by simp) ?_)
  intro w1 hown1 hgrow1
  have harr : BArr w1 w.heap.size (9 * L) (fun _ => 0) := BArr.made (base := w.heap.size) (by rw [Nat.mul_one]; exact hown1)
  have hb1 : Below w.heap.size w w1 := (Below.refl _ _).grown hgrow1 (by simp) (fun k hk => by cases hk)
  clear hown1 hgrow1
  go_wp2
  go_loopw [4] (fun i wr => ∃ (p : Nat) (f : Nat → Nat), p ≤ L ∧ i = .int .i64 p ∧ BArr wr w.heap.size (9 * L) f ∧ Hid (∀ j, j < 9 * p → f j = pb n (9 * L) j) ∧ Below w.heap.size w wr) (fun i _ => L - (intOf i).toNat)
  case atStart => exact ⟨0, _, Nat.zero_le _, rfl, harr, Lib.hid (fun j hj => by omega), hb1⟩
  case round =>
   obtain ⟨p, f, hp, rfl, har, HF, hbr⟩ := hrel
   clear harr hb1
   obtain ⟨wo, rfl⟩ : ∃ wo : World, wo = wr := ⟨_, rfl⟩
   by_cases hlt : p < L
   ·obtain ⟨P, hP⟩ : ∃ P, P = L - 1 - p := ⟨_, rfl⟩
    have e1 : ((L : Int) - 1 - (p : Int)) = (P : Int) := by omega
    have c1 : wo.cell? ⟨xb, P, none⟩ = some (.int .i64 ((dg n P : Nat) : Int)) := (hbr.cell (p := ⟨xb, P, none⟩) hxb).trans (HX.out P (by omega))
    have b1 := dg_lt n P
    have HP := Lib.hid hP
    have hPL : P < L := by omega
    clear hP
    go_wp2_with fail
    go_loopw [5, 6] (fun d k wi => ∃ (t : Nat) (f : Nat → Nat), t ≤ 9 ∧ k = .int .i64 (8 - (t : Int)) ∧ d = .int .i64 ((dg n P / 10 ^ t : Nat) : Int) ∧ BArr wi w.heap.size (9 * L) f ∧ Hid (∀ j, j < 9 * p ∨ (9 * p + 9 - t ≤ j ∧ j < 9 * p + 9) → f j = pb n (9 * L) j) ∧ Below w.heap.size w wi) (fun _ k _ => ((intOf k) + 1).toNat)
    case atStart => exact ⟨0, f, Nat.zero_le _, rfl, by simp, har, Lib.hid (fun j hj => HF.out j (by omega)), hbr⟩
    case round =>
     obtain ⟨t, f, ht, rfl, rfl, hai, HG, hbi⟩ := hrel
     clear har hbr c1
     by_cases ht9 : t < 9
     ·obtain ⟨K, hK⟩ : ∃ K, K = 8 - t := ⟨_, rfl⟩
      have e2 : (8 - (t : Int)) = (K : Int) := by omega
      have f1 := hai.free (9 * p + K)
      have c2 := hai.cell (show 9 * p + K < 9 * L by omega)
      have hv := Lib.hid (show (48 : Int) + ((dg n P / 10 ^ t : Nat) : Int) % 10 = ((pb n (9 * L) (9 * p + K) : Nat) : Int) by
       have e : 9 * L - 1 - (9 * p + K) = 9 * P + t := by have := HP.out; omega
       rw [pb, e, ← limb_digit n P t ht9]; simp)
      have hw := Lib.hid (show ((dg n P / 10 ^ t : Nat) : Int) / 10 = ((dg n P / 10 ^ (t + 1) : Nat) : Int) by
       rw [Nat.pow_succ, ← Nat.div_div_eq_div_mul]; simp)
      have hdb : dg n P / 10 ^ t ≤ 1000000000 := Nat.le_trans (Nat.div_le_self _ _) (by omega)
      have hpb := pb_bd n (9 * L) (9 * p + K)
      have HK := Lib.hid hK
      have hK8 : K ≤ 8 := by omega
      have HAI := Lib.hid hai
      clear hK hai
      rw [e2]
      generalize dg n P / 10 ^ t = D at *
      go_wp2_with fail
      go_roundw
      case rel => exact ⟨t + 1, _, by omega, by go_num, by rw [hw.out], by rw [hv.out]; exact HAI.out.store (9 * p + K) _, Lib.hid (fun j hj => by
       by_cases e : j = 9 * p + K
       ·rw [e, upd_same]
       ·rw [upd_other e]
        have := HK.out
        exact HG.out j (by omega)), hbi.setCell (by simp) _⟩
      case measure => simp [intOf]
     ·obtain rfl : t = 9 := by omega
      generalize dg n P / 10 ^ 9 = D at *
      go_wp2_with fail
      go_roundw
      case rel => exact ⟨p + 1, f, by omega, by go_num, hai, Lib.hid (fun j hj => HG.out j (by omega)), hbi⟩
      case measure => simp [intOf]; omega
   ·obtain rfl : p = L := by omega
    have HC := Lib.hid (show ∀ j, j < 9 * p → wo.cell? ⟨w.heap.size, j, none⟩ = some (.int .u8 ((pb n (9 * p) j : Nat) : Int)) from fun j hj => by
     rw [har.cell hj, HF.out j hj])
    clear har
    go_wp2_with fail
    go_loop [3] (fun s => ∃ k m : Nat, k + m = 9 * p ∧ 1 ≤ m ∧ s = .slice (some ⟨w.heap.size, k, none⟩) m m ∧ Hid (n < 10 ^ m)) (fun s => lenOf s)
    case atStart => exact ⟨0, 9 * p, by omega, by omega, rfl, HLT⟩
    case round =>
     obtain ⟨k, m, hkm, hm1, rfl, HM⟩ := hrel
     have c1 := HC.out k (by omega)
     have hpb := pb_bd n (9 * p) k
     have HE := Lib.hid (show pb n (9 * p) k = 48 + n / 10 ^ (m - 1) % 10 by rw [pb]; congr 4; omega)
     by_cases hgo : 1 < m ∧ pb n (9 * p) k = 48
     ·obtain ⟨hm2, hz⟩ := hgo
      rw [hz] at c1
      have HN := Lib.hid (show n < 10 ^ (m - 1) by
       have e := HE.out
       have h1 := HM.out
       obtain ⟨q, hq⟩ : ∃ q, m = q + 1 := ⟨m - 1, by omega⟩
       rw [hq, Nat.pow_succ] at h1
       rw [hq, Nat.add_sub_cancel] at e ⊢
       have h2 : n / 10 ^ q < 10 := (Nat.div_lt_iff_lt_mul (Nat.pow_pos (by omega))).2 (by rw [Nat.mul_comm]; exact h1)
       have h3 : n / 10 ^ q = 0 := by
        generalize n / 10 ^ q = X at h2 e
        omega
       exact (Nat.div_eq_zero_iff_lt (Nat.pow_pos (by omega))).1 h3)
      have hne : ¬ m = 1 := by omega
      clear hz hpb
      go_wp2_with fail
      go_round
      case rel => exact ⟨k + 1, m - 1, by omega, by omega, by simp, HN⟩
      case measure => simp [lenOf]; omega
     ·have HLEN := Lib.hid (show (decDigits n).length = m by
       refine len_of_bounds hm1 HM.out ?_
       by_cases h : m = 1
       ·exact .inl h
       ·have hz : pb n (9 * p) k ≠ 48 := fun e => hgo ⟨by omega, e⟩
        rw [HE.out] at hz
        refine .inr ?_
        by_cases h2 : n < 10 ^ (m - 1)
        ·rw [Nat.div_eq_of_lt h2] at hz; exact absurd rfl hz
        ·omega)
      have hcv := run_convert_bytes_back (P := Tryz.prog) wo 129 9 5 ⟨w.heap.size, k, none⟩ m (decDigits n) Tryz.underlying129 Tryz.underlying5 Tryz.underlying9 (fun j hj => by
       have hj' : j < m := by rw [← HLEN.out]; exact hj
       rw [Lib.add_plain, HC.out (k + j) (by omega)]
       have hg := dec_get n j hj
       rw [List.getElem?_eq_getElem hj] at hg
       simp only [Option.map_some, Option.some.injEq] at hg
       rw [hg, HLEN.out, pb, pb]
       congr 7
       omega)
      rw [HLEN.out] at hcv
      have HB := Lib.hid hbr
      by_cases hm2 : 1 < m
      ·have hz : ((pb n (9 * p) k : Nat) : Int) ≠ 48 := fun e => hgo ⟨hm2, by omega⟩
       have hzb : (((pb n (9 * p) k : Nat) : Int) == 48) = false := by rw [beq_eq_false_iff_ne]; exact hz
       clear hgo hbr
       go_wp2_with fail
       go_ret
       exact ⟨rfl, HB.out⟩
      ·clear hgo hbr
       go_wp2_with fail
       go_ret
       exact ⟨rfl, HB.out⟩
open Go.RowKit NV
open Go.Lib (decDigits)
end Go.Proofs.YtjpepjooefkbkaaGreatDoor
