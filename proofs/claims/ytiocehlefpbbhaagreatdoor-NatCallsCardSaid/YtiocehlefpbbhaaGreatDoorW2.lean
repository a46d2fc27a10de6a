/-
  A block of limbs that the call itself has made: what it holds, what a store does to it; the contracts of plus and minus.
-/
import Derived.Test.YtiocehlefpbbhaaGreatDoorW1
namespace Go.Proofs.YtiocehlefpbbhaaGreatDoor
open Go.RowKit NV

theorem info72 : (Tryz.prog.info? 65).map (fun i => (i.zero, i.size, i.bytes)) = some (some (.int .u64 0), 1, 8) := by kernel_rfl

/-- Block g is a row of N limbs, limb j being f j. -/
def Arr (w : World) (g N : Nat) (f : Nat → Nat) : Prop :=
  ∃ cur, w.heap[g]? = some (.cells cur 65 (0, 0)) ∧ cur.size = N ∧ ∀ j, j < N → cur[j]? = some (.int .u64 ((f j : Nat) : Int))

def upd (f : Nat → Nat) (i x : Nat) : Nat → Nat := fun j => if j = i then x else f j

theorem upd_same (f : Nat → Nat) (i x : Nat) : upd f i x i = x := if_pos rfl
theorem upd_other {f : Nat → Nat} {i x j : Nat} (h : j ≠ i) : upd f i x j = f j := if_neg h

theorem Arr.cell {w : World} {g N : Nat} {f : Nat → Nat} (h : Arr w g N f) {j : Nat} (hj : j < N) : w.cell? ⟨g, j, none⟩ = some (.int .u64 ((f j : Nat) : Int)) := by
  obtain ⟨cur, h1, h2, h3⟩ := h
  rw [cell_of_row w g j cur _ _ h1]
  exact h3 j hj

theorem Arr.free {w : World} {g N : Nat} {f : Nat → Nat} (h : Arr w g N f) (j : Nat) : w.frozen? ⟨g, j, none⟩ = false := by
  obtain ⟨cur, h1, h2, h3⟩ := h
  exact frozen_of_row w g j cur _ h1

theorem Arr.lt {w : World} {g N : Nat} {f : Nat → Nat} (h : Arr w g N f) : g < w.heap.size := by
  obtain ⟨cur, h1, h2, h3⟩ := h
  exact (Array.getElem?_eq_some_iff.1 h1).1

theorem Arr.congr {w : World} {g N : Nat} {f f' : Nat → Nat} (h : Arr w g N f) (e : ∀ j, j < N → f j = f' j) : Arr w g N f' := by
  obtain ⟨cur, h1, h2, h3⟩ := h
  exact ⟨cur, h1, h2, fun j hj => by rw [h3 j hj, e j hj]⟩

theorem Arr.store {w : World} {g N : Nat} {f : Nat → Nat} (h : Arr w g N f) (i x : Nat) : Arr (w.setCell ⟨g, i, none⟩ (.int .u64 ((x : Nat) : Int))) g N (upd f i x) := by
  obtain ⟨cur, h1, h2, h3⟩ := h
  refine ⟨cur.setIfInBounds i (.int .u64 ((x : Nat) : Int)), heap_setCell_same w g i cur _ _ h1, by simpa using h2, fun j hj => ?_⟩
  rw [Array.getElem?_setIfInBounds]
  by_cases e : i = j
  · subst e
    rw [if_pos rfl, if_pos (by omega), upd_same]
  · rw [if_neg e, upd_other (fun h => e h.symm)]
    exact h3 j hj

theorem Arr.below {w w' : World} {g N : Nat} {f : Nat → Nat} (h : Arr w g N f) {b : Nat} (hb : Below b w w') (hg : g < b) : Arr w' g N f := by
  obtain ⟨cur, h1, h2, h3⟩ := h
  exact ⟨cur, (hb.block g hg).trans h1, h2, h3⟩

theorem Arr.other {w : World} {g N : Nat} {f : Nat → Nat} (h : Arr w g N f) {a : Addr} (ha : g ≠ a.block) (u : Value) : Arr (w.setCell a u) g N f := by
  obtain ⟨cur, h1, h2, h3⟩ := h
  exact ⟨cur, (heap_setCell_other w a g u ha).trans h1, h2, h3⟩

theorem Arr.drew {w : World} {g N : Nat} {f : Nat → Nat} (h : Arr w g N f) : Arr w.drew g N f := h

/-- What 'make([]uint64, N)' leaves. -/
theorem Arr.made {w : World} {base g N : Nat} (h : w.ownsRow base 65 1 (.slice (some ⟨g, 0, none⟩) N N) N (madeCells (Value.int .u64 0).cells (N * 1)).toList) : Arr w g N (fun _ => 0) := by
  rcases h.2 with ⟨h', _⟩ | ⟨g', cap', cur, h', hb, hg, hnc, hcm, hcs, htake⟩
  · simp at h'
  · simp only [Value.slice.injEq, Option.some.injEq, Addr.mk.injEq, and_true, true_and] at h'
    obtain ⟨rfl, rfl⟩ := h'
    refine ⟨cur, hg, by omega, fun j hj => ?_⟩
    have e : (cur.toList.take (N * 1))[j]? = some (.int .u64 0) := by
      rw [htake, Nat.mul_one]
      show (madeCells #[Value.int .u64 0] N).toList[j]? = _
      rw [toList_madeCells_one, List.getElem?_replicate, if_pos hj]
    rw [List.getElem?_take, if_pos (by omega)] at e
    simpa using e

/-- The slice v of the call's own reads as the number n. -/
def Own (w : World) (base : Nat) (v : Value) (n : Nat) : Prop :=
  (∃ g c, v = .slice (some ⟨g, 0, none⟩) (ln n) c) ∧ w.ownsRow base 65 1 v (ln n) ((List.range (ln n)).map (fun j => Value.int .u64 ((dg n j : Nat) : Int)))

theorem Own.num {w : World} {base : Nat} {v : Value} {n : Nat} (h : Own w base v n) : Num w v n := by
  obtain ⟨⟨g, c, rfl⟩, h⟩ := h
  have h0 := h
  rcases h.2 with ⟨h', hn⟩ | ⟨g', cap, cur, h', hb, hg, hnc, hcm, hcs, htake⟩
  · simp at h'
  · simp only [Value.slice.injEq, Option.some.injEq, Addr.mk.injEq, and_true, true_and] at h'
    obtain ⟨rfl, rfl⟩ := h'
    refine ⟨_, c, rfl, .inr ⟨g, rfl, (Array.getElem?_eq_some_iff.1 hg).1, hnc, fun j hj => ?_⟩⟩
    rw [World.ownsRow.cellAt h0 j (by omega)]
    simp [hj]

theorem Arr.own {w : World} {g N n base : Nat} {f : Nat → Nat} (h : Arr w g N f) (hb : base ≤ g) (hN : N ≤ 1099511627776) (hn : ln n ≤ N) (hf : ∀ j, j < ln n → f j = dg n j) : Own w base (.slice (some ⟨g, 0, none⟩) (ln n) N) n := by
  obtain ⟨cur, h1, h2, h3⟩ := h
  refine ⟨⟨g, N, rfl⟩, by simp, .inr ⟨g, N, cur, rfl, hb, h1, hn, by unfold maxLen; omega, by omega, ?_⟩⟩
  apply List.ext_getElem?
  intro j
  by_cases hj : j < ln n
  · rw [List.getElem?_take, if_pos (by omega)]
    simp only [Array.getElem?_toList, List.getElem?_map, List.getElem?_range hj, Option.map_some]
    rw [h3 j (by omega), hf j hj]
  · rw [List.getElem?_take, if_neg (by omega)]
    simp [hj]

theorem Own.mono {w : World} {base base' : Nat} {v : Value} {n : Nat} (h : Own w base v n) (hb : base' ≤ base) : Own w base' v n := by
  obtain ⟨h0, h⟩ := h
  refine ⟨h0, h.1, ?_⟩
  rcases h.2 with h' | ⟨g, cap, cur, rfl, hbg, hg, rest⟩
  · exact .inl h'
  · exact .inr ⟨g, cap, cur, rfl, Nat.le_trans hb hbg, hg, rest⟩

theorem Own.below {w w' : World} {base : Nat} {v : Value} {n : Nat} (h : Own w base v n) (hb : Below w.heap.size w w') : Own w' base v n := by
  obtain ⟨h0, h⟩ := h
  refine ⟨h0, h.1, ?_⟩
  rcases h.2 with h' | ⟨g, cap, cur, rfl, hbg, hg, rest⟩
  · exact .inl h'
  · exact .inr ⟨g, cap, cur, rfl, hbg, (hb.block g (Array.getElem?_eq_some_iff.1 hg).1).trans hg, rest⟩

/-- The limbs of a sum after k places. -/
def addf (a b k : Nat) : Nat → Nat := fun j => if j < k then dg (a + b) j else 0

theorem addf_zero (a b : Nat) : addf a b 0 = fun _ => 0 := by funext j; simp [addf]
theorem addf_step {a b k x : Nat} (h : x = dg (a + b) k) : upd (addf a b k) k x = addf a b (k + 1) := by
  funext j
  unfold upd addf
  by_cases e : j = k
  · subst e; rw [if_pos rfl, if_pos (by omega), h]
  · rw [if_neg e]
    by_cases hj : j < k
    · rw [if_pos hj, if_pos (by omega)]
    · rw [if_neg hj, if_neg (by omega)]

theorem add_lt {a b N : Nat} (ha : ln a ≤ N) (hb : ln b ≤ N) : a + b < B ^ (N + 1) := by
  have h1 := Nat.lt_of_lt_of_le (lt_pow_ln a) (Nat.pow_le_pow_right B_pos ha)
  have h2 := Nat.lt_of_lt_of_le (lt_pow_ln b) (Nat.pow_le_pow_right B_pos hb)
  have h3 := pow_pos N
  rw [pow_succ, B_eq]
  rw [B_eq] at h1 h2 h3
  omega

set_option maxHeartbeats 800000 in
set_option maxRecDepth 100000 in
/-- plus returns the sum, in memory of its own. -/
theorem plus_any {w : World} {x y : Value} {a b : Nat} (hx : Num w x a) (hy : Num w y b) (ha : ln a ≤ 1073741824) (hb : ln b ≤ 1073741824) :
    Calls Tryz.prog 28 #[x, y] w fun e w' => ∃ v, e = .returned v ∧ Own w' w.heap.size v (a + b) ∧ Below w.heap.size w w' := by
  obtain ⟨i0, hi, hz0, hz1, hz2⟩ := info_parts info72
  obtain ⟨m, hm1, hm2⟩ : ∃ m : Nat, (ln a < ln b → m = ln b) ∧ (ln b ≤ ln a → m = ln a) := ⟨if ln a < ln b then ln b else ln a, fun h => if_pos h, fun h => if_neg (by omega)⟩
  have hma : ln a ≤ m := by omega
  have hmb : ln b ≤ m := by omega
  have hm : m ≤ 1073741824 := by omega
  have hM := Lib.hid hm1
  have hM2 := Lib.hid hm2
  clear hm1 hm2
  obtain ⟨xa, xc, rfl⟩ := slice_any hx
  obtain ⟨ya, yc, rfl⟩ := slice_any hy
  go_enter Tryz.func28, Tryz.ntmps28
  go_wp2_with fail
  refine (greatest_int _ _ (m : Int) (fun h => by have := hM.out (by omega); omega) (fun h => by have := hM2.out (by omega); omega) _ w.heap.size (cell_one_new _ _ _ 0 _ rfl)).mono ?_
  rintro e w1 ⟨rfl, rfl⟩
  go_wp2_with (at_make; refine wpList_make_full _ rfl _ _ 40 rfl (w.heap.size + 1) 65 i0 (.int .u64 0) 1 Tryz.underlying40 hi hz0 hz1 _ _ _ _ (m + 1) rfl rfl (by omega) (by omega) (by rw [hz2]; omega) (by unfold maxLen; omega) (by simp) ?_)
  intro w1 hown1 hgrow1
  have harr : Arr w1 (w.heap.size + 1) (m + 1) (addf a b 0) := by rw [addf_zero]; exact Arr.made (base := w.heap.size + 1) (by rw [Nat.mul_one]; exact hown1)
  have hb1 : Below w.heap.size w w1 := ((Below.refl _ _).alloc (Nat.le_refl _) _).grown hgrow1 (by simp) (fun k hk => by cases hk)
  clear hown1 hgrow1
  go_wp2
  go_loopw [6, 19] (fun c i wr => ∃ k : Nat, k ≤ m + 1 ∧ i = .int .i64 k ∧ c = .int .u64 ((ca a b k : Nat) : Int) ∧ Arr wr (w.heap.size + 1) (m + 1) (addf a b k) ∧ Below w.heap.size w wr) (fun _ i _ => m + 1 - (intOf i).toNat)
  case atStart => exact ⟨0, Nat.zero_le _, rfl, by rw [ca_zero]; rfl, harr, hb1⟩
  case round =>
    obtain ⟨k, hk, rfl, rfl, har, hbr⟩ := hrel
    have hxr := hx.below hbr
    have hyr := hy.below hbr
    by_cases hlt : k < m + 1
    · have c1 := har.cell hlt
      have c2 := har.free k
      have b1 := dg_lt a k
      have b2 := dg_lt b k
      have b3 := ca_le a b k
      have hv := Lib.hid (show ((dg a k : Nat) + (dg b k : Nat) + (ca a b k : Nat) : Int) % 1000000000 = ((dg (a + b) k : Nat) : Int) by rw [dg_add]; omega)
      have hw := Lib.hid (show ((dg a k : Nat) + (dg b k : Nat) + (ca a b k : Nat) : Int) / 1000000000 = ((ca a b (k + 1) : Nat) : Int) by rw [ca_succ]; omega)
      clear harr hb1
      go_wp2_with fail
      refine (at_any hxr k (by omega)).mono ?_
      rintro e w2 ⟨rfl, rfl⟩
      go_wp2_with fail
      refine (at_any hyr k (by omega)).mono ?_
      rintro e w2 ⟨rfl, rfl⟩
      go_wp2_with fail
      go_roundw
      case rel => exact ⟨k + 1, by omega, by go_num, by rw [hw.out], by rw [hv.out, ← addf_step rfl]; exact har.store k _, hbr.setCell (by simp) _⟩
      case measure => simp [intOf]; omega
    · obtain rfl : k = m + 1 := by omega
      have hln := ln_le (add_lt hma hmb)
      have hcell : ∀ j, j < m + 1 → wr.cell? ⟨w.heap.size + 1, j, none⟩ = some (.int .u64 ((dg (a + b) j : Nat) : Int)) := fun j hj => by
        rw [har.cell hj, addf, if_pos hj]
      have HC := Lib.hid hcell
      clear hcell
      go_wp2_with fail
      refine (trim_any (n := a + b) (by omega) (Nat.le_refl _) (add_lt hma hmb) HC.out).mono ?_
      rintro e w2 ⟨rfl, rfl⟩
      go_wp2_with fail
      go_ret
      exact ⟨_, rfl, Arr.own har (by omega) (by omega) hln (fun j hj => by rw [addf, if_pos (by omega)]), hbr⟩

end Go.Proofs.YtiocehlefpbbhaaGreatDoor
