/-
  How a slice of limbs reads as a natural number, and the contracts of at, trim and greatest. A block of limbs that the call itself has made: what it holds, what a store does to it; the contracts of plus and minus. The contracts of less and minus. The contracts of IsOne, One and Times. The contract of Compare.
-/
import Derived.Test.YtjpepjooefkbkaaGreatDoorProg
import Derived.Test.YtjpepjooefkbkaaGreatDoorGA
import Derived.WalkKit
import Derived.WalkSpells
import Derived.WalkLawsBesides
import Derived.Lib.Hide
import Derived.Deep.QuietTactic
import Derived.BigQuiet
import Derived.Test.YtjpepjooefkbkaaGreatDoorShelf
import Derived.StillTailTactics
namespace Go.Proofs.YtjpepjooefkbkaaGreatDoor
open Go.RowKit NV
def Num (w : World) (v : Value) (n : Nat) : Prop :=
 ∃ a c, v = .slice a (ln n) c ∧ ((n = 0 ∧ a = none ∧ c = 0) ∨ ∃ b, a = some ⟨b, 0, none⟩ ∧ b < w.heap.size ∧ ln n ≤ c ∧ ∀ j, j < ln n → w.cell? ⟨b, j, none⟩ = some (.int .u64 ((dg n j : Nat) : Int)))
theorem Num.below {w w' : World} {v : Value} {n : Nat} (h : Num w v n) (hb : Below w.heap.size w w') : Num w' v n := by
 obtain ⟨a, c, rfl, h | ⟨b, rfl, h1, h2, h4⟩⟩ := h
 ·exact ⟨a, c, rfl, .inl h⟩
 ·exact ⟨_, c, rfl, .inr ⟨b, rfl, Nat.lt_of_lt_of_le h1 hb.size, h2, fun j hj => (hb.cell (p := ⟨b, j, none⟩) h1).trans (h4 j hj)⟩⟩
theorem Num.nil (w : World) : Num w (.slice none 0 0) 0 := ⟨none, 0, by rw [ln_zero], .inl ⟨rfl, rfl, rfl⟩⟩
theorem slice_any {w : World} {v : Value} {n : Nat} (h : Num w v n) : ∃ a c, v = .slice a (ln n) c := by
 obtain ⟨a, c, h, _⟩ := h
 exact ⟨a, c, h⟩
theorem Num.addr {w : World} {a : Option Addr} {c n L : Nat} (h : Num w (.slice a L c) n) (h0 : 0 < ln n) : ∃ b, a = some ⟨b, 0, none⟩ := by
 obtain ⟨a', c', h', h | ⟨b, rfl, h1, h2, h4⟩⟩ := h
 ·rw [h.1, ln_zero] at h0; omega
 ·simp only [Value.slice.injEq] at h'
  exact ⟨b, h'.1⟩
theorem slice_form {w : World} {v : Value} {n : Nat} (h : Num w v n) (h0 : 0 < ln n) : ∃ b c, v = .slice (some ⟨b, 0, none⟩) (ln n) c ∧ b < w.heap.size ∧ ln n ≤ c := by
 obtain ⟨a, c, rfl, h | ⟨b, rfl, h1, h2, h4⟩⟩ := h
 ·rw [h.1, ln_zero] at h0; omega
 ·exact ⟨b, c, rfl, h1, h2⟩
theorem Num.cell {w : World} {b c n L : Nat} (h : Num w (.slice (some ⟨b, 0, none⟩) L c) n) {j : Nat} (hj : j < ln n) : w.cell? ⟨b, j, none⟩ = some (.int .u64 ((dg n j : Nat) : Int)) := by
 obtain ⟨a', c', h', h | ⟨b', rfl, h1, h2, h3⟩⟩ := h
 ·rw [h.1, ln_zero] at hj; omega
 ·simp only [Value.slice.injEq, Option.some.injEq, Addr.mk.injEq, and_true] at h'
  obtain ⟨rfl, _, rfl⟩ := h'
  exact h3 j hj
theorem Num.blt {w : World} {b c n L : Nat} (h : Num w (.slice (some ⟨b, 0, none⟩) L c) n) : b < w.heap.size := by
 obtain ⟨a', c', h', h | ⟨b', rfl, h1, h2, h3⟩⟩ := h
 ·rw [h.2.1] at h'; simp at h'
 ·simp only [Value.slice.injEq, Option.some.injEq, Addr.mk.injEq, and_true] at h'
  omega
set_option maxHeartbeats 400000 in
theorem at_any {w : World} {v : Value} {n : Nat} (h : Num w v n) (k : Nat) (hk : k < 4611686018427387904) :
  Calls Tryz.prog 134 #[v, .int .i64 (k : Int)] w fun e w' => e = .returned (.int .u64 ((dg n k : Nat) : Int)) ∧ w = w' := by
 by_cases hlt : k < ln n
 ·obtain ⟨b, c, rfl, hb, hlc⟩ := slice_form h (by omega)
  have hx := h.cell hlt
  clear h
  go_enter Tryz.func134, Tryz.ntmps134
  go_wp2
  go_ret
  exact ⟨rfl, rfl⟩
 ·obtain ⟨a, c, rfl⟩ := slice_any h
  clear h
  go_enter Tryz.func134, Tryz.ntmps134
  go_wp2
  go_ret
  exact ⟨by rw [dg_past (by omega)]; rfl, rfl⟩
def lenOf : Value → Nat
 | .slice _ n _ => n
 | _ => 0
theorem ret_slice {a : Option Addr} {n m c : Nat} (h : n = m) : Ending.returned (.slice a n c) = .returned (.slice a m c) := by rw [h]
theorem ret_int {k : IntKind} {a b : Int} (h : a = b) : Ending.returned (.int k a) = .returned (.int k b) := by rw [h]
set_option maxHeartbeats 400000 in
theorem trim_any {w : World} {b c L n : Nat} (hL : L ≤ 1099511627776) (hLc : L ≤ c) (hn : n < B ^ L) (hcell : ∀ j, j < L → w.cell? ⟨b, j, none⟩ = some (.int .u64 ((dg n j : Nat) : Int))) :
  Calls Tryz.prog 131 #[.slice (some ⟨b, 0, none⟩) L c] w fun e w' => e = .returned (.slice (some ⟨b, 0, none⟩) (ln n) c) ∧ w = w' := by
 have hln := ln_le hn
 go_enter Tryz.func131, Tryz.ntmps131
 go_wp2
 go_loop [0] (fun s => ∃ k : Nat, ln n ≤ k ∧ k ≤ L ∧ s = .slice (some ⟨b, 0, none⟩) k c) (fun s => lenOf s)
 case atStart => exact ⟨L, hln, Nat.le_refl _, rfl⟩
 case round =>
  obtain ⟨k, hk, hkL, rfl⟩ := hrel
  by_cases hk0 : 0 < k
  ·have hx := hcell (k - 1) (by omega)
   by_cases hz : dg n (k - 1) = 0
   ·have hlt : ln n ≤ k - 1 := by
     refine ln_le (lt_of_dg_zero ?_ hz)
     rw [Nat.sub_add_cancel hk0]
     exact Nat.lt_of_lt_of_le (lt_pow_ln n) (Nat.pow_le_pow_right B_pos hk)
    rw [hz] at hx
    clear hcell hz
    go_wp2
    go_round
    case rel => exact ⟨k - 1, hlt, by omega, rfl⟩
    case measure => simp [lenOf]; omega
   ·have he : ln n = k := by
     have := ln_of_top (n := n) (k := k - 1) (by rw [Nat.sub_add_cancel hk0]; exact Nat.lt_of_lt_of_le (lt_pow_ln n) (Nat.pow_le_pow_right B_pos hk)) hz
     omega
    have hzb : (((dg n (k - 1) : Nat) : Int) == 0) = false := by rw [beq_eq_false_iff_ne]; omega
    clear hcell hz
    go_wp2
    go_ret
    exact ⟨rfl, rfl⟩
  ·clear hcell
   go_wp2
   go_ret
   exact ⟨ret_slice (by omega), rfl⟩
set_option maxHeartbeats 400000 in
theorem greatest_int (a b m : Int) (h1 : a < b → m = b) (h2 : b ≤ a → m = a) (w : World) (g : Nat) (hc : w.cell? ⟨g, 0, none⟩ = some (.int .i64 b)) :
  Calls Tryz.prog 132 #[.int .i64 a, .slice (some ⟨g, 0, none⟩) 1 1] w fun e w' => e = .returned (.int .i64 m) ∧ w = w' := by
 by_cases h : a < b
 ·obtain rfl := h1 h
  clear h1 h2
  go_enter Tryz.func132, Tryz.ntmps132
  go_wp2
  refine wp_loop_rounds 2 ?_
  rw [rounds_succ]
  go_wp2
  rw [rounds_succ]
  go_wp2
  go_ret
  exact ⟨rfl, rfl⟩
 ·obtain rfl := h2 (by omega)
  clear h1 h2
  go_enter Tryz.func132, Tryz.ntmps132
  go_wp2
  refine wp_loop_rounds 2 ?_
  rw [rounds_succ]
  go_wp2
  rw [rounds_succ]
  go_wp2
  go_ret
  exact ⟨rfl, rfl⟩
set_option maxHeartbeats 400000 in
theorem least_int (a b m : Int) (h1 : b < a → m = b) (h2 : a ≤ b → m = a) (w : World) (g : Nat) (hc : w.cell? ⟨g, 0, none⟩ = some (.int .i64 b)) :
  Calls Tryz.prog 133 #[.int .i64 a, .slice (some ⟨g, 0, none⟩) 1 1] w fun e w' => e = .returned (.int .i64 m) ∧ w = w' := by
 by_cases h : b < a
 ·obtain rfl := h1 h
  clear h1 h2
  go_enter Tryz.func133, Tryz.ntmps133
  go_wp2
  refine wp_loop_rounds 2 ?_
  rw [rounds_succ]
  go_wp2
  rw [rounds_succ]
  go_wp2
  go_ret
  exact ⟨rfl, rfl⟩
 ·obtain rfl := h2 (by omega)
  clear h1 h2
  go_enter Tryz.func133, Tryz.ntmps133
  go_wp2
  refine wp_loop_rounds 2 ?_
  rw [rounds_succ]
  go_wp2
  rw [rounds_succ]
  go_wp2
  go_ret
  exact ⟨rfl, rfl⟩
set_option maxHeartbeats 400000 in
theorem greatest_int64 (a b m : Int) (h1 : a < b → m = b) (h2 : b ≤ a → m = a) (w : World) (g : Nat) (hc : w.cell? ⟨g, 0, none⟩ = some (.int .i64 b)) :
  Calls Tryz.prog 170 #[.int .i64 a, .slice (some ⟨g, 0, none⟩) 1 1] w fun e w' => e = .returned (.int .i64 m) ∧ w = w' := by
 by_cases h : a < b
 ·obtain rfl := h1 h
  clear h1 h2
  go_enter Tryz.func170, Tryz.ntmps170
  go_wp2
  refine wp_loop_rounds 2 ?_
  rw [rounds_succ]
  go_wp2
  rw [rounds_succ]
  go_wp2
  go_ret
  exact ⟨rfl, rfl⟩
 ·obtain rfl := h2 (by omega)
  clear h1 h2
  go_enter Tryz.func170, Tryz.ntmps170
  go_wp2
  refine wp_loop_rounds 2 ?_
  rw [rounds_succ]
  go_wp2
  rw [rounds_succ]
  go_wp2
  go_ret
  exact ⟨rfl, rfl⟩
open Go.RowKit NV
theorem info72 : (Tryz.prog.info? 118).map (fun i => (i.zero, i.size, i.bytes)) = some (some (.int .u64 0), 1, 8) := by kernel_rfl
def Arr (w : World) (g N : Nat) (f : Nat → Nat) : Prop :=
 ∃ cur, w.heap[g]? = some (.cells cur 118 (0, 0)) ∧ cur.size = N ∧ ∀ j, j < N → cur[j]? = some (.int .u64 ((f j : Nat) : Int))
def upd (f : Nat → Nat) (i x : Nat) : Nat → Nat := fun j => if j = i then x else f j
theorem upd_same (f : Nat → Nat) (i x : Nat) : upd f i x i = x := if_pos rfl
theorem upd_other {f : Nat → Nat} {i x j : Nat} (h : j ≠ i) : upd f i x j = f j := if_neg h
theorem Arr.cell {w : World} {g N : Nat} {f : Nat → Nat} (h : Arr w g N f) {j : Nat} (hj : j < N) : w.cell? ⟨g, j, none⟩ = some (.int .u64 ((f j : Nat) : Int)) := by
 obtain ⟨cur, h1, h2, h3⟩ := h
 rw [cell_of_row w g j cur _ _ h1]
 exact h3 j hj
theorem Arr.free {w : World} {g N : Nat} {f : Nat → Nat} (h : Arr w g N f) (j : Nat) : w.frozen? ⟨g, j, none⟩ = false := by
 obtain ⟨cur, h1, h2, h3⟩ := h
 exact frozen_of_row w g j cur _ h1
theorem Arr.lt {w : World} {g N : Nat} {f : Nat → Nat} (h : Arr w g N f) : g < w.heap.size := by
 obtain ⟨cur, h1, h2, h3⟩ := h
 exact (Array.getElem?_eq_some_iff.1 h1).1
theorem Arr.congr {w : World} {g N : Nat} {f f' : Nat → Nat} (h : Arr w g N f) (e : ∀ j, j < N → f j = f' j) : Arr w g N f' := by
 obtain ⟨cur, h1, h2, h3⟩ := h
 exact ⟨cur, h1, h2, fun j hj => by rw [h3 j hj, e j hj]⟩
theorem Arr.store {w : World} {g N : Nat} {f : Nat → Nat} (h : Arr w g N f) (i x : Nat) : Arr (w.setCell ⟨g, i, none⟩ (.int .u64 ((x : Nat) : Int))) g N (upd f i x) := by
 obtain ⟨cur, h1, h2, h3⟩ := h
 refine ⟨cur.setIfInBounds i (.int .u64 ((x : Nat) : Int)), heap_setCell_same w g i cur _ _ h1, by simpa using h2, fun j hj => ?_⟩
 rw [Array.getElem?_setIfInBounds]
 by_cases e : i = j
 ·subst e
  rw [if_pos rfl, if_pos (by omega), upd_same]
 ·rw [if_neg e, upd_other (fun h => e h.symm)]
  exact h3 j hj
theorem Arr.below {w w' : World} {g N : Nat} {f : Nat → Nat} (h : Arr w g N f) {b : Nat} (hb : Below b w w') (hg : g < b) : Arr w' g N f := by
 obtain ⟨cur, h1, h2, h3⟩ := h
 exact ⟨cur, (hb.block g hg).trans h1, h2, h3⟩
theorem Arr.other {w : World} {g N : Nat} {f : Nat → Nat} (h : Arr w g N f) {a : Addr} (ha : g ≠ a.block) (u : Value) : Arr (w.setCell a u) g N f := by
 obtain ⟨cur, h1, h2, h3⟩ := h
 exact ⟨cur, (heap_setCell_other w a g u ha).trans h1, h2, h3⟩
theorem Arr.drew {w : World} {g N : Nat} {f : Nat → Nat} (h : Arr w g N f) : Arr w.drew g N f := h
theorem Arr.made {w : World} {base g N : Nat} (h : w.ownsRow base 118 1 (.slice (some ⟨g, 0, none⟩) N N) N (madeCells (Value.int .u64 0).cells (N * 1)).toList) : Arr w g N (fun _ => 0) := by
 rcases h.2 with ⟨h', _⟩ | ⟨g', cap', cur, h', hb, hg, hnc, hcm, hcs, htake⟩
 ·simp at h'
 ·simp only [Value.slice.injEq, Option.some.injEq, Addr.mk.injEq, and_true, true_and] at h'
  obtain ⟨rfl, rfl⟩ := h'
  refine ⟨cur, hg, by omega, fun j hj => ?_⟩
  have e : (cur.toList.take (N * 1))[j]? = some (.int .u64 0) := by
   rw [htake, Nat.mul_one]
   show (madeCells #[Value.int .u64 0] N).toList[j]? = _
   rw [toList_madeCells_one, List.getElem?_replicate, if_pos hj]
  rw [List.getElem?_take, if_pos (by omega)] at e
  simpa using e
def Own (w : World) (base : Nat) (v : Value) (n : Nat) : Prop :=
 (∃ g c, v = .slice (some ⟨g, 0, none⟩) (ln n) c) ∧ w.ownsRow base 118 1 v (ln n) ((List.range (ln n)).map (fun j => Value.int .u64 ((dg n j : Nat) : Int)))
theorem Own.num {w : World} {base : Nat} {v : Value} {n : Nat} (h : Own w base v n) : Num w v n := by
 obtain ⟨⟨g, c, rfl⟩, h⟩ := h
 have h0 := h
 rcases h.2 with ⟨h', hn⟩ | ⟨g', cap, cur, h', hb, hg, hnc, hcm, hcs, htake⟩
 ·simp at h'
 ·simp only [Value.slice.injEq, Option.some.injEq, Addr.mk.injEq, and_true, true_and] at h'
  obtain ⟨rfl, rfl⟩ := h'
  refine ⟨_, c, rfl, .inr ⟨g, rfl, (Array.getElem?_eq_some_iff.1 hg).1, hnc, fun j hj => ?_⟩⟩
  rw [World.ownsRow.cellAt h0 j (by omega)]
  simp [hj]
theorem Arr.own {w : World} {g N n base : Nat} {f : Nat → Nat} (h : Arr w g N f) (hb : base ≤ g) (hN : N ≤ 1099511627776) (hn : ln n ≤ N) (hf : ∀ j, j < ln n → f j = dg n j) : Own w base (.slice (some ⟨g, 0, none⟩) (ln n) N) n := by
 obtain ⟨cur, h1, h2, h3⟩ := h
 refine ⟨⟨g, N, rfl⟩, by simp, .inr ⟨g, N, cur, rfl, hb, h1, hn, by unfold maxLen; omega, by omega, ?_⟩⟩
 apply List.ext_getElem?
 intro j
 by_cases hj : j < ln n
 ·rw [List.getElem?_take, if_pos (by omega)]
  simp only [Array.getElem?_toList, List.getElem?_map, List.getElem?_range hj, Option.map_some]
  rw [h3 j (by omega), hf j hj]
 ·rw [List.getElem?_take, if_neg (by omega)]
  simp [hj]
theorem Own.mono {w : World} {base base' : Nat} {v : Value} {n : Nat} (h : Own w base v n) (hb : base' ≤ base) : Own w base' v n := by
 obtain ⟨h0, h⟩ := h
 refine ⟨h0, h.1, ?_⟩
 rcases h.2 with h' | ⟨g, cap, cur, rfl, hbg, hg, rest⟩
 ·exact .inl h'
 ·exact .inr ⟨g, cap, cur, rfl, Nat.le_trans hb hbg, hg, rest⟩
theorem Own.below {w w' : World} {base : Nat} {v : Value} {n : Nat} (h : Own w base v n) (hb : Below w.heap.size w w') : Own w' base v n := by
 obtain ⟨h0, h⟩ := h
 refine ⟨h0, h.1, ?_⟩
 rcases h.2 with h' | ⟨g, cap, cur, rfl, hbg, hg, rest⟩
 ·exact .inl h'
 ·exact .inr ⟨g, cap, cur, rfl, hbg, (hb.block g (Array.getElem?_eq_some_iff.1 hg).1).trans hg, rest⟩
def addf (a b k : Nat) : Nat → Nat := fun j => if j < k then dg (a + b) j else 0
theorem addf_zero (a b : Nat) : addf a b 0 = fun _ => 0 := by funext j; simp [addf]
theorem addf_step {a b k x : Nat} (h : x = dg (a + b) k) : upd (addf a b k) k x = addf a b (k + 1) := by
 funext j
 unfold upd addf
 by_cases e : j = k
 ·subst e; rw [if_pos rfl, if_pos (by omega), h]
 ·rw [if_neg e]
  by_cases hj : j < k
  ·rw [if_pos hj, if_pos (by omega)]
  ·rw [if_neg hj, if_neg (by omega)]
theorem add_lt {a b N : Nat} (ha : ln a ≤ N) (hb : ln b ≤ N) : a + b < B ^ (N + 1) := by
 have h1 := Nat.lt_of_lt_of_le (lt_pow_ln a) (Nat.pow_le_pow_right B_pos ha)
 have h2 := Nat.lt_of_lt_of_le (lt_pow_ln b) (Nat.pow_le_pow_right B_pos hb)
 have h3 := pow_pos N
 rw [pow_succ, B_eq]
 rw [B_eq] at h1 h2 h3
 omega
set_option maxHeartbeats 800000 in
set_option maxRecDepth 100000 in
theorem plus_any {w : World} {x y : Value} {a b : Nat} (hx : Num w x a) (hy : Num w y b) (ha : ln a ≤ 1073741824) (hb : ln b ≤ 1073741824) :
  Calls Tryz.prog 101 #[x, y] w fun e w' => ∃ v, e = .returned v ∧ Own w' w.heap.size v (a + b) ∧ Below w.heap.size w w' := by
 obtain ⟨i0, hi, hz0, hz1, hz2⟩ := info_parts info72
 obtain ⟨m, hm1, hm2⟩ : ∃ m : Nat, (ln a < ln b → m = ln b) ∧ (ln b ≤ ln a → m = ln a) := ⟨if ln a < ln b then ln b else ln a, fun h => if_pos h, fun h => if_neg (by omega)⟩
 have hma : ln a ≤ m := by omega
 have hmb : ln b ≤ m := by omega
 have hm : m ≤ 1073741824 := by omega
 have hM := Lib.hid hm1
 have hM2 := Lib.hid hm2
 clear hm1 hm2
 obtain ⟨xa, xc, rfl⟩ := slice_any hx
 obtain ⟨ya, yc, rfl⟩ := slice_any hy
 go_enter Tryz.func101, Tryz.ntmps101
 go_wp2_with fail
 refine (greatest_int _ _ (m : Int) (fun h => by have := hM.out (by omega); omega) (fun h => by have := hM2.out (by omega); omega) _ w.heap.size (cell_one_new _ _ _ 0 _ rfl)).mono ?_
 rintro e w1 ⟨rfl, rfl⟩
 go_wp2_with (at_make; refine wpList_make_full _ rfl _ _ 108 rfl (w.heap.size + 1) 118 i0 (.int .u64 0) 1 Tryz.underlying108 hi hz0 hz1 _ _ _ _ (m + 1) rfl rfl (by omega) (by omega) (by rw [hz2]; omega) (by unfold maxLen; omega) (by simp) ?_)
 intro w1 hown1 hgrow1
 have harr : Arr w1 (w.heap.size + 1) (m + 1) (addf a b 0) := by rw [addf_zero]; exact Arr.made (base := w.heap.size + 1) (by rw [Nat.mul_one]; exact hown1)
 have hb1 : Below w.heap.size w w1 := ((Below.refl _ _).alloc (Nat.le_refl _) _).grown hgrow1 (by simp) (fun k hk => by cases hk)
 clear hown1 hgrow1
 go_wp2
 go_loopw [6, 19] (fun c i wr => ∃ k : Nat, k ≤ m + 1 ∧ i = .int .i64 k ∧ c = .int .u64 ((ca a b k : Nat) : Int) ∧ Arr wr (w.heap.size + 1) (m + 1) (addf a b k) ∧ Below w.heap.size w wr) (fun _ i _ => m + 1 - (intOf i).toNat)
 case atStart => exact ⟨0, Nat.zero_le _, rfl, by rw [ca_zero]; rfl, harr, hb1⟩
 case round =>
  obtain ⟨k, hk, rfl, rfl, har, hbr⟩ := hrel
  have hxr := hx.below hbr
  have hyr := hy.below hbr
  by_cases hlt : k < m + 1
  ·have c1 := har.cell hlt
   have c2 := har.free k
   have b1 := dg_lt a k
   have b2 := dg_lt b k
   have b3 := ca_le a b k
   have hv := Lib.hid (show ((dg a k : Nat) + (dg b k : Nat) + (ca a b k : Nat) : Int) % 1000000000 = ((dg (a + b) k : Nat) : Int) by rw [dg_add]; omega)
   have hw := Lib.hid (show ((dg a k : Nat) + (dg b k : Nat) + (ca a b k : Nat) : Int) / 1000000000 = ((ca a b (k + 1) : Nat) : Int) by rw [ca_succ]; omega)
   clear harr hb1
   go_wp2_with fail
   refine (at_any hxr k (by omega)).mono ?_
   rintro e w2 ⟨rfl, rfl⟩
   go_wp2_with fail
   refine (at_any hyr k (by omega)).mono ?_
   rintro e w2 ⟨rfl, rfl⟩
   go_wp2_with fail
   go_roundw
   case rel => exact ⟨k + 1, by omega, by go_num, by rw [hw.out], by rw [hv.out, ← addf_step rfl]; exact har.store k _, hbr.setCell (by simp) _⟩
   case measure => simp [intOf]; omega
  ·obtain rfl : k = m + 1 := by omega
   have hln := ln_le (add_lt hma hmb)
   have hcell : ∀ j, j < m + 1 → wr.cell? ⟨w.heap.size + 1, j, none⟩ = some (.int .u64 ((dg (a + b) j : Nat) : Int)) := fun j hj => by
    rw [har.cell hj, addf, if_pos hj]
   have HC := Lib.hid hcell
   clear hcell
   go_wp2_with fail
   refine (trim_any (n := a + b) (by omega) (Nat.le_refl _) (add_lt hma hmb) HC.out).mono ?_
   rintro e w2 ⟨rfl, rfl⟩
   go_wp2_with fail
   go_ret
   exact ⟨_, rfl, Arr.own har (by omega) (by omega) hln (fun j hj => by rw [addf, if_pos (by omega)]), hbr⟩
open Go.RowKit NV
def dgf (n k : Nat) : Nat → Nat := fun j => if j < k then dg n j else 0
theorem dgf_zero (n : Nat) : dgf n 0 = fun _ => 0 := by funext j; simp [dgf]
theorem dgf_step {n k x : Nat} (h : x = dg n k) : upd (dgf n k) k x = dgf n (k + 1) := by
 funext j
 unfold upd dgf
 by_cases e : j = k
 ·subst e; rw [if_pos rfl, if_pos (by omega), h]
 ·rw [if_neg e]
  by_cases hj : j < k
  ·rw [if_pos hj, if_pos (by omega)]
  ·rw [if_neg hj, if_neg (by omega)]
set_option maxHeartbeats 800000 in
set_option maxRecDepth 100000 in
theorem minus_any {w : World} {x y : Value} {a b : Nat} (hx : Num w x a) (hy : Num w y b) (ha : ln a ≤ 1073741824) (hba : b ≤ a) :
  Calls Tryz.prog 103 #[x, y] w fun e w' => ∃ v, e = .returned v ∧ Own w' w.heap.size v (a - b) ∧ Below w.heap.size w w' := by
 obtain ⟨i0, hi, hz0, hz1, hz2⟩ := info_parts info72
 obtain ⟨xa, xc, rfl⟩ := slice_any hx
 obtain ⟨ya, yc, rfl⟩ := slice_any hy
 have hln : ln (a - b) ≤ ln a := ln_mono (by omega)
 have hlt0 : a - b < B ^ ln a := Nat.lt_of_le_of_lt (by omega) (lt_pow_ln a)
 have HB := Lib.hid hba
 clear hba
 go_enter Tryz.func103, Tryz.ntmps103
 go_wp2_with (at_make; refine wpList_make_full _ rfl _ _ 108 rfl w.heap.size 118 i0 (.int .u64 0) 1 Tryz.underlying108 hi hz0 hz1 _ _ _ _ (ln a) rfl rfl (by omega) (by omega) (by rw [hz2]; omega) (by unfold maxLen; omega) (by simp) ?_)
 intro w1 hown1 hgrow1
 have harr : Arr w1 w.heap.size (ln a) (dgf (a - b) 0) := by rw [dgf_zero]; exact Arr.made (base := w.heap.size) (by rw [Nat.mul_one]; exact hown1)
 have hb1 : Below w.heap.size w w1 := (Below.refl _ _).grown hgrow1 (by simp) (fun k hk => by cases hk)
 clear hown1 hgrow1
 go_wp2
 go_loopw [6, 14] (fun c i wr => ∃ k : Nat, k ≤ ln a ∧ i = .int .i64 k ∧ c = .int .u64 ((bo a b k : Nat) : Int) ∧ Arr wr w.heap.size (ln a) (dgf (a - b) k) ∧ Below w.heap.size w wr) (fun _ i _ => ln a - (intOf i).toNat)
 case atStart => exact ⟨0, Nat.zero_le _, rfl, by rw [bo_zero]; rfl, harr, hb1⟩
 case round =>
  obtain ⟨k, hk, rfl, rfl, har, hbr⟩ := hrel
  have hxr := hx.below hbr
  have hyr := hy.below hbr
  by_cases hlt : k < ln a
  ·obtain ⟨xb, rfl⟩ := hx.addr (by omega)
   have c1 := har.cell hlt
   have c2 := har.free k
   have c3 := hxr.cell hlt
   have b1 := dg_lt a k
   have b2 := dg_lt b k
   have b3 := bo_le a b k
   obtain ⟨e1, e2⟩ := dg_sub HB.out k
   have hv := Lib.hid (show (((dg a k : Nat) : Int) + (1000000000 - ((dg b k : Nat) : Int) - ((bo a b k : Nat) : Int))) % 1000000000 = ((dg (a - b) k : Nat) : Int) by omega)
   have hw := Lib.hid (show 1 - (((dg a k : Nat) : Int) + (1000000000 - ((dg b k : Nat) : Int) - ((bo a b k : Nat) : Int))) / 1000000000 = ((bo a b (k + 1) : Nat) : Int) by omega)
   clear harr hb1 e1 e2
   go_wp2_with fail
   refine (at_any hyr k (by omega)).mono ?_
   rintro e w2 ⟨rfl, rfl⟩
   go_wp2_with fail
   go_roundw
   case rel => exact ⟨k + 1, by omega, by go_num, by rw [hw.out], by rw [hv.out, ← dgf_step rfl]; exact har.store k _, hbr.setCell (by simp) _⟩
   case measure => simp [intOf]; omega
  ·obtain rfl : k = ln a := by omega
   have HC := Lib.hid (show ∀ j, j < ln a → wr.cell? ⟨w.heap.size, j, none⟩ = some (.int .u64 ((dg (a - b) j : Nat) : Int)) from fun j hj => by
    rw [har.cell hj, dgf, if_pos hj])
   go_wp2_with fail
   refine (trim_any (n := a - b) (by omega) (Nat.le_refl _) hlt0 HC.out).mono ?_
   rintro e w2 ⟨rfl, rfl⟩
   go_wp2_with fail
   go_ret
   exact ⟨_, rfl, Arr.own har (by omega) (by omega) hln (fun j hj => by rw [dgf, if_pos (by omega)]), hbr⟩
open Go.RowKit NV
theorem cs_cast (a b p i : Nat) : ((cs a b p (i + 1) : Nat) : Int) = ((cs a b p i : Nat) : Int) + ((dg a i : Nat) : Int) * ((dg b (p - i) : Nat) : Int) := by
 rw [cs]; simp
theorem cell_at_new {w : World} {g : Nat} (h : g = w.heap.size) (v : Value) (e : TypeId) : (w.alloc (.cells #[v] e)).cell? ⟨g, 0, none⟩ = some v := by
 subst h; exact cell_one_new w v e 0 v rfl
theorem prod_bd (a b i j : Nat) : 0 ≤ ((dg a i : Nat) : Int) * ((dg b j : Nat) : Int) ∧ ((dg a i : Nat) : Int) * ((dg b j : Nat) : Int) ≤ 999999998000000001 := by
 have h := dg_prod a b i j
 have e : ((dg a i : Nat) : Int) * ((dg b j : Nat) : Int) = ((dg a i * dg b j : Nat) : Int) := by simp
 rw [e]; omega
def oneB (n : Nat) : Bool := decide (n = 1)
theorem oneB_yes : oneB 1 = true := by simp [oneB]
theorem oneB_no {n : Nat} (h : n ≠ 1) : oneB n = false := by simp [oneB, h]
theorem ret_bool {a b : Bool} (h : a = b) : Ending.returned (.bool a) = .returned (.bool b) := by rw [h]
theorem ln_one : ln 1 = 1 := ln_unique (k := 0) (by simp) (by rw [Nat.pow_one, B_eq]; omega)
theorem eq_dg0 {n : Nat} (h : ln n ≤ 1) : n = dg n 0 := by
 have h1 := lt_pow_ln n
 have h2 : B ^ ln n ≤ B ^ 1 := Nat.pow_le_pow_right B_pos h
 rw [Nat.pow_one] at h2
 rw [dg, Nat.pow_zero, Nat.div_one, Nat.mod_eq_of_lt (by omega)]
set_option maxHeartbeats 800000 in
theorem isOne_any {w : World} {x : Value} {n : Nat} (hx : Num w x n) :
  Calls Tryz.prog 118 #[x] w fun e w' => e = .returned (.bool (oneB n)) ∧ w = w' := by
 by_cases h1 : ln n = 1
 ·obtain ⟨xb, xc, rfl, _, _⟩ := slice_form hx (by omega)
  have c0 := hx.cell (j := 0) (by omega)
  have hd := eq_dg0 (n := n) (by omega)
  have HD := Lib.hid hd
  by_cases hn1 : dg n 0 = 1
  ·have HR := Lib.hid (show true = oneB n by have := HD.out; rw [this, hn1, oneB_yes])
   rw [h1]
   rw [hn1] at c0
   clear hx h1 hd hn1
   go_enter Tryz.func118, Tryz.ntmps118
   go_wp2_with fail
   go_ret
   exact ⟨ret_bool HR.out, rfl⟩
  ·have HR := Lib.hid (show false = oneB n by rw [oneB_no (by rw [hd]; exact hn1)])
   have hne : (((dg n 0 : Nat) : Int) == 1) = false := by rw [beq_eq_false_iff_ne]; omega
   rw [h1]
   clear hx h1 hd hn1
   go_enter Tryz.func118, Tryz.ntmps118
   go_wp2_with fail
   go_ret
   exact ⟨ret_bool HR.out, rfl⟩
 ·have HR := Lib.hid (show false = oneB n by rw [oneB_no (by intro e; rw [e, ln_one] at h1; exact h1 rfl)])
  obtain ⟨xa, xc, rfl⟩ := slice_any hx
  have hne : (((ln n : Nat) : Int) == 1) = false := by rw [beq_eq_false_iff_ne]; omega
  clear hx h1
  go_enter Tryz.func118, Tryz.ntmps118
  go_wp2_with fail
  go_ret
  exact ⟨ret_bool HR.out, rfl⟩
set_option maxHeartbeats 1600000 in
set_option maxRecDepth 100000 in
theorem times_main {w : World} {x y : Value} {a b : Nat} (hx : Num w x a) (hy : Num w y b) (ha : ln a ≤ 2000000) (hb : ln b ≤ 2000000) (ha1 : a ≠ 1) (hb1 : b ≠ 1) :
  Calls Tryz.prog 100 #[x, y] w fun e w' => ∃ v, e = .returned v ∧ Own w' w.heap.size v (a * b) ∧ Below w.heap.size w w' := by
 obtain ⟨i0, hi, hz0, hz1, hz2⟩ := info_parts info72
 have HOA := Lib.hid (isOne_any hx)
 have HOB := Lib.hid (isOne_any hy)
 rw [oneB_no ha1] at HOA
 rw [oneB_no hb1] at HOB
 obtain ⟨xa, xc, rfl⟩ := slice_any hx
 obtain ⟨ya, yc, rfl⟩ := slice_any hy
 clear ha1 hb1
 have hlt0 : a * b < B ^ (ln a + ln b) := mul_lt_pow (lt_pow_ln a) (lt_pow_ln b)
 have hln := ln_le hlt0
 go_enter Tryz.func100, Tryz.ntmps100
 go_wp2_with fail
 refine HOA.out.mono ?_
 rintro e w' ⟨rfl, rfl⟩
 go_wp2_with fail
 refine HOB.out.mono ?_
 rintro e w' ⟨rfl, rfl⟩
 go_wp2_with (at_make; refine wpList_make_full _ rfl _ _ 108 rfl w.heap.size 118 i0 (.int .u64 0) 1 Tryz.underlying108 hi hz0 hz1 _ _ _ _ (ln a + ln b) rfl rfl (by omega) (by omega) (by rw [hz2]; omega) (by unfold maxLen; omega) (by simp) ?_)
 intro w1 hown1 hgrow1
 have harr : Arr w1 w.heap.size (ln a + ln b) (dgf (a * b) 0) := by rw [dgf_zero]; exact Arr.made (base := w.heap.size) (by rw [Nat.mul_one]; exact hown1)
 have hb1 : Below w.heap.size w w1 := (Below.refl _ _).grown hgrow1 (by simp) (fun k hk => by cases hk)
 clear hown1 hgrow1
 go_wp2
 go_loopw [6, 27] (fun c i wr => ∃ p : Nat, p ≤ ln a + ln b ∧ i = .int .i64 p ∧ c = .int .u64 ((cy a b p : Nat) : Int) ∧ Arr wr w.heap.size (ln a + ln b) (dgf (a * b) p) ∧ Below w.heap.size w wr) (fun _ i _ => ln a + ln b - (intOf i).toNat)
 case atStart => exact ⟨0, Nat.zero_le _, rfl, by rw [cy_zero]; rfl, harr, hb1⟩
 case round =>
  obtain ⟨p, hp, rfl, rfl, har, hbr⟩ := hrel
  clear harr hb1
  obtain ⟨wo, rfl⟩ : ∃ wo : World, wo = wr := ⟨_, rfl⟩
  by_cases hlt : p < ln a + ln b
  ·obtain ⟨f, hf⟩ : ∃ f : Nat, f = p + 1 - ln b := ⟨_, rfl⟩
   obtain ⟨l1, hl1⟩ : ∃ l1 : Nat, l1 = if ln a < p + 1 then ln a else p + 1 := ⟨_, rfl⟩
   have hl2 : l1 ≤ ln a ∧ l1 ≤ p + 1 ∧ f ≤ l1 ∧ (l1 = ln a ∨ l1 = p + 1) := by split at hl1 <;> omega
   obtain ⟨g1, g2, g3, g4⟩ := hl2
   have hfb : f ≤ p + 1 ∧ p + 1 ≤ f + ln b := by omega
   have G1 := Lib.hid (show (0 : Int) < (p : Int) - (ln b : Int) + 1 → (f : Int) = (p : Int) - (ln b : Int) + 1 by omega)
   have G2 := Lib.hid (show (p : Int) - (ln b : Int) + 1 ≤ 0 → (f : Int) = 0 by omega)
   have G3 := Lib.hid (show (ln a : Int) - 1 < (p : Int) → (l1 : Int) - 1 = (ln a : Int) - 1 by omega)
   have G4 := Lib.hid (show (p : Int) ≤ (ln a : Int) - 1 → (l1 : Int) - 1 = (p : Int) by omega)
   have hcs0 : cs a b p f = 0 := by
    by_cases h0 : f = 0
    ·rw [h0]; rfl
    ·exact cs_first a b p f (ln b) (Nat.le_refl _) (by omega)
   have hcs1 : cs a b p l1 = cs a b p (p + 1) := by
    rcases g4 with h | h
    ·rw [h]; exact cs_end a b p (ln a) (Nat.le_refl _) (by omega)
    ·rw [h]
   have hcy := cy_le a b p (ln a) (Nat.le_refl _)
   have HS := Lib.hid hcs0
   have HE := Lib.hid hcs1
   clear hcs0 hcs1 hf hl1 g4
   have hxo := hx.below hbr
   have hyo := hy.below hbr
   have hsz := hbr.size
   go_wp2_with fail
   refine (greatest_int _ _ (f : Int) G1.out G2.out _ wo.heap.size (cell_one_new _ _ _ 0 _ rfl)).mono ?_
   rintro e w2 ⟨rfl, rfl⟩
   go_wp2_with fail
   refine (least_int _ _ ((l1 : Int) - 1) G3.out G4.out _ (wo.heap.size + 1) (cell_at_new (by simp) _ _)).mono ?_
   rintro e w2 ⟨rfl, rfl⟩
   go_wp2_with fail
   go_loopw [10, 11, 12] (fun c tk i wi => ∃ (C T : Int) (k : Nat), f ≤ k ∧ k ≤ l1 ∧ i = .int .i64 k ∧ c = .int .u64 C ∧ tk = .int .u64 T ∧ 0 ≤ C ∧ C < 8000000000000000000 ∧ 0 ≤ T ∧ T ≤ 8000000000 * (k : Int) ∧ C + 1000000000 * T = ((cy a b p : Nat) : Int) + ((cs a b p k : Nat) : Int) ∧ Below wo.heap.size wo wi) (fun _ _ i _ => l1 - (intOf i).toNat)
   case atStart => exact ⟨((cy a b p : Nat) : Int), 0, f, Nat.le_refl _, g3, rfl, rfl, rfl, by omega, by omega, by omega, by omega, by rw [HS.out]; omega, ((Below.refl _ _).alloc (Nat.le_refl _) _).alloc (by simp) _⟩
   case round =>
    obtain ⟨C, T, k, hfk, hkl, rfl, rfl, rfl, hC0, hC1, hT0, hT1, hCT, hbi⟩ := hrel
    have HCT := Lib.hid hCT
    clear hCT
    have hari := har.below hbi har.lt
    by_cases hkl1 : k < l1
    ·obtain ⟨xb, rfl⟩ := hxo.addr (by omega)
     obtain ⟨yb, rfl⟩ := hyo.addr (by omega)
     have c1 := (hxo.below hbi).cell (j := k) (by omega)
     have c2 := (hyo.below hbi).cell (j := p - k) (by omega)
     have pb := prod_bd a b k (p - k)
     have HP := Lib.hid (cs_cast a b p k)
     have hka : k < ln a := by omega
     have hpk : k ≤ p := by omega
     have hpkb : p - k < ln b := by omega
     by_cases hbig : (8000000000000000000 : Int) ≤ C + ((dg a k : Nat) : Int) * ((dg b (p - k) : Nat) : Int)
     ·go_wp2_with fail
      go_quiet (fail)
      go_wp2_with fail
      go_roundw
      case rel => exact ⟨_, _, k + 1, by omega, by omega, by go_num, rfl, rfl, by omega, by omega, by omega, by omega, by rw [HP.out]; have := HCT.out; omega, below_drewN hbi _⟩
      case measure => simp [intOf]; omega
     ·go_wp2_with fail
      go_quiet (fail)
      go_wp2_with fail
      go_roundw
      case rel => exact ⟨_, _, k + 1, by omega, by omega, by go_num, rfl, rfl, by omega, by omega, by omega, by omega, by rw [HP.out]; have := HCT.out; omega, below_drewN hbi _⟩
      case measure => simp [intOf]; omega
    ·obtain rfl : k = l1 := by omega
     have c1 := hari.cell hlt
     have c2 := hari.free p
     have hbw := hbr.trans (hbi.mono hbr.size)
     have hv := Lib.hid (show C % 1000000000 = ((dg (a * b) p : Nat) : Int) by have h1 := HCT.out; have h2 := HE.out; have h3 := dg_mul a b p; omega)
     have hw := Lib.hid (show C / 1000000000 + T = ((cy a b (p + 1) : Nat) : Int) by have h1 := HCT.out; have h2 := HE.out; have h3 := cy_succ a b p; omega)
     go_wp2_with fail
     go_roundw
     case rel => exact ⟨p + 1, by omega, by go_num, by rw [hw.out], by rw [hv.out, ← dgf_step rfl]; exact hari.store p _, hbw.setCell (by simp) _⟩
     case measure => simp [intOf]; omega
  ·obtain rfl : p = ln a + ln b := by omega
   have HC := Lib.hid (show ∀ j, j < ln a + ln b → wo.cell? ⟨w.heap.size, j, none⟩ = some (.int .u64 ((dg (a * b) j : Nat) : Int)) from fun j hj => by
    rw [har.cell hj, dgf, if_pos hj])
   go_wp2_with fail
   refine (trim_any (n := a * b) (by omega) (Nat.le_refl _) hlt0 HC.out).mono ?_
   rintro e w2 ⟨rfl, rfl⟩
   go_wp2_with fail
   go_ret
   exact ⟨_, rfl, Arr.own har (by omega) (by omega) hln (fun j hj => by rw [dgf, if_pos (by omega)]), hbr⟩
set_option maxHeartbeats 800000 in
theorem times_any {w : World} {x y : Value} {a b : Nat} (hx : Num w x a) (hy : Num w y b) (ha : ln a ≤ 2000000) (hb : ln b ≤ 2000000) :
  Calls Tryz.prog 100 #[x, y] w fun e w' => ∃ v, e = .returned v ∧ Num w' v (a * b) ∧ Below w.heap.size w w' := by
 by_cases ha1 : a = 1
 ·have HOA := Lib.hid (isOne_any hx)
  rw [ha1, oneB_yes] at HOA
  rw [ha1, Nat.one_mul]
  have HY := Lib.hid hy
  obtain ⟨xa, xc, rfl⟩ := slice_any hx
  obtain ⟨ya, yc, rfl⟩ := slice_any hy
  clear hx hy ha1
  go_enter Tryz.func100, Tryz.ntmps100
  go_wp2_with fail
  refine HOA.out.mono ?_
  rintro e w' ⟨rfl, rfl⟩
  go_wp2_with fail
  go_ret
  exact ⟨_, rfl, HY.out, Below.refl _ _⟩
 ·by_cases hb1 : b = 1
  ·have HOA := Lib.hid (isOne_any hx)
   have HOB := Lib.hid (isOne_any hy)
   rw [oneB_no ha1] at HOA
   rw [hb1, oneB_yes] at HOB
   rw [hb1, Nat.mul_one]
   have HX := Lib.hid hx
   obtain ⟨xa, xc, rfl⟩ := slice_any hx
   obtain ⟨ya, yc, rfl⟩ := slice_any hy
   clear hx hy ha1 hb1
   go_enter Tryz.func100, Tryz.ntmps100
   go_wp2_with fail
   refine HOA.out.mono ?_
   rintro e w' ⟨rfl, rfl⟩
   go_wp2_with fail
   refine HOB.out.mono ?_
   rintro e w' ⟨rfl, rfl⟩
   go_wp2_with fail
   go_ret
   exact ⟨_, rfl, HX.out, Below.refl _ _⟩
  ·refine (times_main hx hy ha hb ha1 hb1).mono ?_
   rintro e w' ⟨v, rfl, hv, hb⟩
   exact ⟨v, rfl, hv.num, hb⟩
open Go.RowKit NV
theorem div_step (n k : Nat) : n / B ^ k = n / B ^ (k + 1) * 1000000000 + dg n k := by
 rw [dg, pow_succ, ← Nat.div_div_eq_div_mul]
 have := Nat.mod_add_div (n / B ^ k) B
 rw [B_eq] at this ⊢
 omega
theorem lt_of_dg {a b k : Nat} (h : a / B ^ (k + 1) = b / B ^ (k + 1)) (hd : dg a k < dg b k) : a < b := by
 have h1 := div_step a k
 have h2 := div_step b k
 have h3 : a / B ^ k < b / B ^ k := by omega
 by_cases hab : a < b
 ·exact hab
 ·have := Nat.div_le_div_right (c := B ^ k) (show b ≤ a by omega)
  omega
theorem eq_of_dg {a b k : Nat} (h : a / B ^ (k + 1) = b / B ^ (k + 1)) (hd : dg a k = dg b k) : a / B ^ k = b / B ^ k := by
 rw [div_step a k, div_step b k, h, hd]
def cmpN (a b : Nat) : Int := if a < b then -1 else if b < a then 1 else 0
theorem cmpN_lt {a b : Nat} (h : a < b) : cmpN a b = -1 := if_pos h
theorem cmpN_gt {a b : Nat} (h : b < a) : cmpN a b = 1 := by rw [cmpN, if_neg (by omega), if_pos h]
theorem cmpN_eq (a : Nat) : cmpN a a = 0 := by rw [cmpN, if_neg (by omega), if_neg (by omega)]
theorem cmpN_low {a b : Nat} (h : a < b) : cmpN a b < 0 := by rw [cmpN_lt h]; omega
theorem cmpN_high {a b : Nat} (h : b ≤ a) : 0 ≤ cmpN a b := by
 by_cases e : b < a
 ·rw [cmpN_gt e]; omega
 ·rw [show a = b by omega, cmpN_eq]; omega
set_option maxHeartbeats 400000 in
theorem isNaN_u64 (x : Int) (w : World) : Calls Tryz.prog 162 #[.int .u64 x] w fun e w' => e = .returned (.bool false) ∧ w = w' := by
 go_enter Tryz.func162, Tryz.ntmps162
 go_wp2
 go_ret
 exact ⟨by simp, rfl⟩
set_option maxHeartbeats 400000 in
theorem compareU (x y : Int) (w : World) : Calls Tryz.prog 136 #[.int .u64 x, .int .u64 y] w fun e w' => e = .returned (.int .i64 (Go.Lib.compareInt x y)) ∧ w = w' := by
 by_cases h1 : x < y
 ·have HR := Lib.hid (show (-1 : Int) = Go.Lib.compareInt x y by unfold Go.Lib.compareInt; rw [if_pos h1])
  go_enter Tryz.func136, Tryz.ntmps136
  go_wp2_with fail
  refine (isNaN_u64 _ _).mono ?_
  rintro e w' ⟨rfl, rfl⟩
  go_wp2_with fail
  refine (isNaN_u64 _ _).mono ?_
  rintro e w' ⟨rfl, rfl⟩
  go_wp2_with fail
  go_ret
  exact ⟨ret_int HR.out, rfl⟩
 ·by_cases h2 : y < x
  ·have HR := Lib.hid (show (1 : Int) = Go.Lib.compareInt x y by unfold Go.Lib.compareInt; rw [if_neg h1, if_pos h2])
   go_enter Tryz.func136, Tryz.ntmps136
   go_wp2_with fail
   refine (isNaN_u64 _ _).mono ?_
   rintro e w' ⟨rfl, rfl⟩
   go_wp2_with fail
   refine (isNaN_u64 _ _).mono ?_
   rintro e w' ⟨rfl, rfl⟩
   go_wp2_with fail
   go_ret
   exact ⟨ret_int HR.out, rfl⟩
  ·have HR := Lib.hid (show (0 : Int) = Go.Lib.compareInt x y by unfold Go.Lib.compareInt; rw [if_neg h1, if_neg h2])
   go_enter Tryz.func136, Tryz.ntmps136
   go_wp2_with fail
   refine (isNaN_u64 _ _).mono ?_
   rintro e w' ⟨rfl, rfl⟩
   go_wp2_with fail
   refine (isNaN_u64 _ _).mono ?_
   rintro e w' ⟨rfl, rfl⟩
   go_wp2_with fail
   go_ret
   exact ⟨ret_int HR.out, rfl⟩
set_option maxHeartbeats 800000 in
set_option maxRecDepth 100000 in
theorem ncmp_any {w : World} {x y : Value} {a b : Nat} (hx : Num w x a) (hy : Num w y b) (ha : ln a ≤ 1073741824) (_hb : ln b ≤ 1073741824) :
  Calls Tryz.prog 102 #[x, y] w fun e w' => e = .returned (.int .i64 (cmpN a b)) ∧ Below w.heap.size w w' := by
 obtain ⟨xa, xc, rfl⟩ := slice_any hx
 obtain ⟨ya, yc, rfl⟩ := slice_any hy
 by_cases hl : ln a = ln b
 ·have hlb : ln b ≤ ln a := by omega
  have hla : ln a ≤ ln b := by omega
  obtain ⟨L, hL⟩ : ∃ L, L = ln a := ⟨_, rfl⟩
  have hd0 : a / B ^ L = b / B ^ L := by
   rw [Nat.div_eq_of_lt (by rw [hL]; exact lt_pow_ln a), Nat.div_eq_of_lt (by rw [hL, hl]; exact lt_pow_ln b)]
  rw [← hL] at hl
  rw [← hL, ← hl]
  have HL := Lib.hid hL
  have HL2 := Lib.hid hl
  have hL3 : L ≤ ln a := by omega
  have hL4 : L ≤ ln b := by omega
  have hL5 : L ≤ 1073741824 := by omega
  clear hL hl hla hlb
  go_enter Tryz.func102, Tryz.ntmps102
  go_wp2
  go_loopw [5] (fun i wr => ∃ k : Nat, k ≤ L ∧ i = .int .i64 ((k : Int) - 1) ∧ a / B ^ k = b / B ^ k ∧ Below w.heap.size w wr) (fun i _ => ((intOf i) + 1).toNat)
  case atStart => exact ⟨L, Nat.le_refl _, rfl, hd0, Below.refl _ _⟩
  case round =>
   obtain ⟨k, hk, rfl, hdk, hbr⟩ := hrel
   have HD := Lib.hid hdk
   clear hdk hd0
   by_cases h0 : 0 < k
   ·obtain ⟨q, rfl⟩ : ∃ q, k = q + 1 := ⟨k - 1, by omega⟩
    obtain ⟨xb, rfl⟩ := hx.addr (by omega)
    obtain ⟨yb, rfl⟩ := hy.addr (by omega)
    have c1 := (hx.below hbr)
    have c2 := (hy.below hbr)
    have d1 := c1.cell (j := q) (by omega)
    have d2 := c2.cell (j := q) (by omega)
    clear c1 c2
    by_cases he : dg a q = dg b q
    ·have HE := Lib.hid (eq_of_dg HD.out he)
     rw [he] at d1
     clear he
     go_wp2_with fail
     go_quiet (fail)
     go_wp2_with fail
     go_roundw
     case rel => exact ⟨q, by omega, rfl, HE.out, below_drewN hbr _⟩
     case measure => simp [intOf]
    ·have hne : (((dg a q : Nat) : Int) != ((dg b q : Nat) : Int)) = true := by rw [bne_iff_ne]; omega
     have HR := Lib.hid (show Go.Lib.compareInt ((dg a q : Nat) : Int) ((dg b q : Nat) : Int) = cmpN a b by
      unfold Go.Lib.compareInt
      by_cases hlt : dg a q < dg b q
      ·rw [if_pos (by omega), cmpN_lt (lt_of_dg HD.out hlt)]
      ·rw [if_neg (by omega), if_pos (by omega), cmpN_gt (lt_of_dg HD.out.symm (show dg b q < dg a q by omega))])
     clear he
     go_wp2_with fail
     go_quiet (fail)
     go_wp2_with fail
     have e3 : (q : Int) < (L : Int) := by omega
     have hb8 := below_drewN hbr nq
     have d3 : (wr.drewN nq).cell? ⟨xb, q, none⟩ = some (.int .u64 ((dg a q : Nat) : Int)) := by rw [World.cell?_drewN]; exact d1
     have d4 : (wr.drewN nq).cell? ⟨yb, q, none⟩ = some (.int .u64 ((dg b q : Nat) : Int)) := by rw [World.cell?_drewN]; exact d2
     generalize wr.drewN nq = w8 at hb8 d3 d4 ⊢
     go_still_tail 8, (by kernel_rfl)
     change wpList _ _ _ _ _ w8.drew
     have hb9 := hb8.drew
     generalize w8.drew = w9 at hb9 ⊢
     go_wp2_with fail
     refine (compareU _ _ _).mono ?_
     rintro e w' ⟨rfl, rfl⟩
     go_wp2_with fail
     go_ret
     exact ⟨ret_int HR.out, hb9⟩
   ·obtain rfl : k = 0 := by omega
    have hab : a = b := by have := HD.out; simpa using this
    have HR := Lib.hid (show (0 : Int) = cmpN a b by rw [hab, cmpN_eq])
    clear hab
    go_wp2_with fail
    go_ret
    exact ⟨ret_int HR.out, hbr⟩
 ·have HR := Lib.hid (show Go.Lib.compareInt ((ln a : Nat) : Int) ((ln b : Nat) : Int) = cmpN a b by
   unfold Go.Lib.compareInt
   by_cases h : ln a < ln b
   ·rw [if_pos (by omega), cmpN_lt (lt_of_ln_lt h)]
   ·rw [if_neg (by omega), if_pos (by omega), cmpN_gt (lt_of_ln_lt (show ln b < ln a by omega))])
  have hne : (((ln a : Nat) : Int) != ((ln b : Nat) : Int)) = true := by rw [bne_iff_ne]; omega
  clear hl
  go_enter Tryz.func102, Tryz.ntmps102
  go_wp2_with fail
  refine (Tryz.cmp_Compare_int _ _ _).mono ?_
  rintro e w' ⟨rfl, rfl⟩
  go_wp2_with fail
  go_ret
  exact ⟨ret_int HR.out, Below.refl _ _⟩
end Go.Proofs.YtjpepjooefkbkaaGreatDoor
