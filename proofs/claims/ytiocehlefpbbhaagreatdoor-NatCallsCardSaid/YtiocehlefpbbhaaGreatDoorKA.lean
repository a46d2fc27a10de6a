/-
  Merged of M10, I1, I2, I3, I4, I5, I12, I13 (a claim has at most 60 files).
-/
import Derived.Test.YtiocehlefpbbhaaGreatDoorM4
import Derived.Test.YtiocehlefpbbhaaGreatDoorW5
import Derived.Test.YtiocehlefpbbhaaGreatDoorW7
import Derived.Laws.AppendOwn
import Derived.Test.YtiocehlefpbbhaaGreatDoorW15
import Derived.Test.YtiocehlefpbbhaaGreatDoorW4
import Derived.Test.YtiocehlefpbbhaaGreatDoorD1
import Derived.Test.YtiocehlefpbbhaaGreatDoorW8
import Derived.Laws.IdiomStrings
import Derived.Test.YtiocehlefpbbhaaGreatDoorW6
namespace Go.Proofs.YtiocehlefpbbhaaGreatDoor.NV

/-- The carry below limb k of H + b*d. -/
def tc (H b d k : Nat) : Nat := (H % B ^ k + b % B ^ k * d) / B ^ k
theorem tc_zero (H b d : Nat) : tc H b d 0 = 0 := by simp [tc, Nat.mod_one]

theorem tc_lt (H b d k : Nat) (hd : d < 1000000000) : tc H b d k < 1000000000 := by
  rw [tc, Nat.div_lt_iff_lt_mul (pow_pos k)]
  have h1 : H % B ^ k < B ^ k := Nat.mod_lt _ (pow_pos k)
  have h2 : b % B ^ k ≤ B ^ k := Nat.le_of_lt (Nat.mod_lt _ (pow_pos k))
  have h3 : b % B ^ k * d ≤ B ^ k * 999999999 := Nat.mul_le_mul h2 (by omega)
  generalize B ^ k = P at *
  omega

theorem tc_step (H b d k : Nat) : H % B ^ (k + 1) + b % B ^ (k + 1) * d = (H % B ^ k + b % B ^ k * d) % B ^ k + B ^ k * (dg H k + dg b k * d + tc H b d k) := by
  rw [mod_succ, mod_succ, tc]
  have h := Nat.mod_add_div (H % B ^ k + b % B ^ k * d) (B ^ k)
  rw [Nat.add_mul, Nat.mul_add, Nat.mul_add, Nat.mul_assoc]
  omega

theorem tc_succ (H b d k : Nat) : tc H b d (k + 1) = (dg H k + dg b k * d + tc H b d k) / 1000000000 := by
  rw [tc, tc_step, pow_succ, ← Nat.div_div_eq_div_mul, Nat.add_mul_div_left _ _ (pow_pos k), Nat.div_eq_of_lt (Nat.mod_lt _ (pow_pos k)), Nat.zero_add, B_eq]

theorem dg_row (H b d k : Nat) : dg (H + b * d) k = (dg H k + dg b k * d + tc H b d k) % 1000000000 := by
  have h1 : (H + b * d) % B ^ (k + 1) = (H % B ^ (k + 1) + b % B ^ (k + 1) * d) % B ^ (k + 1) := by
    simp [Nat.add_mod, Nat.mul_mod]
  rw [← dg_mod (n := H + b * d) (k := k + 1) (by omega), h1, dg_mod (by omega), tc_step, dg_at (Nat.mod_lt _ (pow_pos k)), B_eq]

theorem dg_row_top {H b d L : Nat} (hH : H < B ^ L) (hb : b < B ^ L) (hd : d < 1000000000) : dg (H + b * d) L = tc H b d L := by
  have h := tc_lt H b d L hd
  rw [dg, ← B_eq] at *
  rw [tc, Nat.mod_eq_of_lt hH, Nat.mod_eq_of_lt hb] at h ⊢
  rw [Nat.mod_eq_of_lt h]

/-- What the rows below i give. -/
def rowsTo (a b i : Nat) : Nat := a % B ^ i * b
theorem rowsTo_zero (a b : Nat) : rowsTo a b 0 = 0 := by simp [rowsTo, Nat.mod_one]
theorem rowsTo_lt {a b L : Nat} (hb : b < B ^ L) (i : Nat) : rowsTo a b i < B ^ (i + L) := by
  rw [rowsTo, Nat.pow_add]
  exact Nat.mul_lt_mul'' (Nat.mod_lt _ (pow_pos i)) hb
theorem rowsTo_succ (a b i : Nat) : rowsTo a b (i + 1) = rowsTo a b i % B ^ i + B ^ i * (rowsTo a b i / B ^ i + b * dg a i) := by
  have h := Nat.mod_add_div (rowsTo a b i) (B ^ i)
  have e : rowsTo a b (i + 1) = rowsTo a b i + B ^ i * (b * dg a i) := by
    rw [rowsTo, rowsTo, mod_succ, Nat.add_mul, Nat.mul_assoc, Nat.mul_comm (dg a i) b]
  rw [e, Nat.mul_add]
  omega
theorem rowsTo_low (a b i j : Nat) (h : j < i) : dg (rowsTo a b (i + 1)) j = dg (rowsTo a b i) j := by
  rw [rowsTo_succ, dg_add_mul h, dg_mod h]
theorem rowsTo_high (a b i k : Nat) : dg (rowsTo a b (i + 1)) (i + k) = dg (rowsTo a b i / B ^ i + b * dg a i) k := by
  rw [← dg_shift]
  congr 1
  rw [rowsTo_succ, Nat.add_mul_div_left _ _ (pow_pos i), Nat.div_eq_of_lt (Nat.mod_lt _ (pow_pos i)), Nat.zero_add]
theorem rowsTo_end {a b L : Nat} (ha : a < B ^ L) : rowsTo a b L = a * b := by rw [rowsTo, Nat.mod_eq_of_lt ha]

/-- The limbs in the midst of row i, k of them done. -/
def rowsAt (a b i k j : Nat) : Nat := if j < i + k then dg (rowsTo a b (i + 1)) j else dg (rowsTo a b i) j
theorem rowsAt_zero (a b i j : Nat) : rowsAt a b i 0 j = dg (rowsTo a b i) j := by
  rw [rowsAt]
  split
  · exact rowsTo_low a b i j (by omega)
  · rfl
theorem rowsAt_done {a b i L : Nat} (hb : b < B ^ L) (j : Nat) : rowsAt a b i (L + 1) j = dg (rowsTo a b (i + 1)) j := by
  rw [rowsAt]
  split
  · rfl
  · rw [dg_big, dg_big]
    · exact Nat.lt_of_lt_of_le (rowsTo_lt hb (i + 1)) (Nat.pow_le_pow_right B_pos (by omega))
    · exact Nat.lt_of_lt_of_le (rowsTo_lt hb i) (Nat.pow_le_pow_right B_pos (by omega))
theorem rowsAt_here (a b i k : Nat) : rowsAt a b i k (i + k) = dg (rowsTo a b i / B ^ i) k := by
  rw [rowsAt, if_neg (by omega), dg_shift]

theorem high_lt {a b L : Nat} (hb : b < B ^ L) (i : Nat) : rowsTo a b i / B ^ i < B ^ L := by
  rw [Nat.div_lt_iff_lt_mul (pow_pos i), Nat.mul_comm, ← Nat.pow_add]
  exact rowsTo_lt hb i

end Go.Proofs.YtiocehlefpbbhaaGreatDoor.NV

namespace Go.Proofs.YtiocehlefpbbhaaGreatDoor
open Go.RowKit NV

/-- The slice v reads as the number n: it has as many limbs as n (0 has none, and may be nil). -/
def INum (w : World) (v : Value) (n : Nat) : Prop :=
  ∃ a c, v = .slice a (ln n) c ∧ ((n = 0 ∧ a = none ∧ c = 0) ∨ ∃ b, a = some ⟨b, 0, none⟩ ∧ b < w.heap.size ∧ ln n ≤ c ∧ ∀ j, j < ln n → w.cell? ⟨b, j, none⟩ = some (.int .i64 ((dg n j : Nat) : Int)))

theorem INum.below {w w' : World} {v : Value} {n : Nat} (h : INum w v n) (hb : Below w.heap.size w w') : INum w' v n := by
  obtain ⟨a, c, rfl, h | ⟨b, rfl, h1, h2, h4⟩⟩ := h
  · exact ⟨a, c, rfl, .inl h⟩
  · exact ⟨_, c, rfl, .inr ⟨b, rfl, Nat.lt_of_lt_of_le h1 hb.size, h2, fun j hj => (hb.cell (p := ⟨b, j, none⟩) h1).trans (h4 j hj)⟩⟩

theorem INum.nil (w : World) : INum w (.slice none 0 0) 0 := ⟨none, 0, by rw [ln_zero], .inl ⟨rfl, rfl, rfl⟩⟩

/-- A number's slice. -/
theorem islice_any {w : World} {v : Value} {n : Nat} (h : INum w v n) : ∃ a c, v = .slice a (ln n) c := by
  obtain ⟨a, c, h, _⟩ := h
  exact ⟨a, c, h⟩

/-- A slice with limbs is not nil. -/
theorem INum.addr {w : World} {a : Option Addr} {c n L : Nat} (h : INum w (.slice a L c) n) (h0 : 0 < ln n) : ∃ b, a = some ⟨b, 0, none⟩ := by
  obtain ⟨a', c', h', h | ⟨b, rfl, h1, h2, h4⟩⟩ := h
  · rw [h.1, ln_zero] at h0; omega
  · simp only [Value.slice.injEq] at h'
    exact ⟨b, h'.1⟩

theorem islice_form {w : World} {v : Value} {n : Nat} (h : INum w v n) (h0 : 0 < ln n) : ∃ b c, v = .slice (some ⟨b, 0, none⟩) (ln n) c ∧ b < w.heap.size ∧ ln n ≤ c := by
  obtain ⟨a, c, rfl, h | ⟨b, rfl, h1, h2, h4⟩⟩ := h
  · rw [h.1, ln_zero] at h0; omega
  · exact ⟨b, c, rfl, h1, h2⟩

theorem INum.cell {w : World} {b c n L : Nat} (h : INum w (.slice (some ⟨b, 0, none⟩) L c) n) {j : Nat} (hj : j < ln n) : w.cell? ⟨b, j, none⟩ = some (.int .i64 ((dg n j : Nat) : Int)) := by
  obtain ⟨a', c', h', h | ⟨b', rfl, h1, h2, h3⟩⟩ := h
  · rw [h.1, ln_zero] at hj; omega
  · simp only [Value.slice.injEq, Option.some.injEq, Addr.mk.injEq, and_true] at h'
    obtain ⟨rfl, _, rfl⟩ := h'
    exact h3 j hj

theorem INum.blt {w : World} {b c n L : Nat} (h : INum w (.slice (some ⟨b, 0, none⟩) L c) n) : b < w.heap.size := by
  obtain ⟨a', c', h', h | ⟨b', rfl, h1, h2, h3⟩⟩ := h
  · rw [h.2.1] at h'; simp at h'
  · simp only [Value.slice.injEq, Option.some.injEq, Addr.mk.injEq, and_true] at h'
    omega

set_option maxHeartbeats 400000 in
/-- trim: of L limbs as many are left as the number has. -/
theorem itrim_any {w : World} {b c L n : Nat} (hL : L ≤ 1099511627776) (hLc : L ≤ c) (hn : n < B ^ L) (hcell : ∀ j, j < L → w.cell? ⟨b, j, none⟩ = some (.int .i64 ((dg n j : Nat) : Int))) :
    Calls Tryz.prog 54 #[.slice (some ⟨b, 0, none⟩) L c] w fun e w' => e = .returned (.slice (some ⟨b, 0, none⟩) (ln n) c) ∧ w = w' := by
  have hln := ln_le hn
  go_enter Tryz.func54, Tryz.ntmps54
  go_wp2
  go_loop [0] (fun s => ∃ k : Nat, ln n ≤ k ∧ k ≤ L ∧ s = .slice (some ⟨b, 0, none⟩) k c) (fun s => lenOf s)
  case atStart => exact ⟨L, hln, Nat.le_refl _, rfl⟩
  case round =>
    obtain ⟨k, hk, hkL, rfl⟩ := hrel
    by_cases hk0 : 0 < k
    · have hx := hcell (k - 1) (by omega)
      by_cases hz : dg n (k - 1) = 0
      · have hlt : ln n ≤ k - 1 := by
          refine ln_le (lt_of_dg_zero ?_ hz)
          rw [Nat.sub_add_cancel hk0]
          exact Nat.lt_of_lt_of_le (lt_pow_ln n) (Nat.pow_le_pow_right B_pos hk)
        rw [hz] at hx
        clear hcell hz
        go_wp2
        go_round
        case rel => exact ⟨k - 1, hlt, by omega, rfl⟩
        case measure => simp [lenOf]; omega
      · have he : ln n = k := by
          have := ln_of_top (n := n) (k := k - 1) (by rw [Nat.sub_add_cancel hk0]; exact Nat.lt_of_lt_of_le (lt_pow_ln n) (Nat.pow_le_pow_right B_pos hk)) hz
          omega
        have hzb : (((dg n (k - 1) : Nat) : Int) == 0) = false := by rw [beq_eq_false_iff_ne]; omega
        clear hcell hz
        go_wp2
        go_ret
        exact ⟨rfl, rfl⟩
    · clear hcell
      go_wp2
      go_ret
      exact ⟨ret_slice (by omega), rfl⟩


theorem infoI : (Tryz.prog.info? 3).map (fun i => (i.zero, i.size, i.bytes)) = some (some (.int .i64 0), 1, 8) := by kernel_rfl

/-- Block g is a row of N limbs, limb j being f j. -/
def IArr (w : World) (g N : Nat) (f : Nat → Nat) : Prop :=
  ∃ cur, w.heap[g]? = some (.cells cur 3 (0, 0)) ∧ cur.size = N ∧ ∀ j, j < N → cur[j]? = some (.int .i64 ((f j : Nat) : Int))

theorem IArr.cell {w : World} {g N : Nat} {f : Nat → Nat} (h : IArr w g N f) {j : Nat} (hj : j < N) : w.cell? ⟨g, j, none⟩ = some (.int .i64 ((f j : Nat) : Int)) := by
  obtain ⟨cur, h1, h2, h3⟩ := h
  rw [cell_of_row w g j cur _ _ h1]
  exact h3 j hj

theorem IArr.free {w : World} {g N : Nat} {f : Nat → Nat} (h : IArr w g N f) (j : Nat) : w.frozen? ⟨g, j, none⟩ = false := by
  obtain ⟨cur, h1, h2, h3⟩ := h
  exact frozen_of_row w g j cur _ h1

theorem IArr.lt {w : World} {g N : Nat} {f : Nat → Nat} (h : IArr w g N f) : g < w.heap.size := by
  obtain ⟨cur, h1, h2, h3⟩ := h
  exact (Array.getElem?_eq_some_iff.1 h1).1

theorem IArr.congr {w : World} {g N : Nat} {f f' : Nat → Nat} (h : IArr w g N f) (e : ∀ j, j < N → f j = f' j) : IArr w g N f' := by
  obtain ⟨cur, h1, h2, h3⟩ := h
  exact ⟨cur, h1, h2, fun j hj => by rw [h3 j hj, e j hj]⟩

theorem IArr.store {w : World} {g N : Nat} {f : Nat → Nat} (h : IArr w g N f) (i x : Nat) : IArr (w.setCell ⟨g, i, none⟩ (.int .i64 ((x : Nat) : Int))) g N (upd f i x) := by
  obtain ⟨cur, h1, h2, h3⟩ := h
  refine ⟨cur.setIfInBounds i (.int .i64 ((x : Nat) : Int)), heap_setCell_same w g i cur _ _ h1, by simpa using h2, fun j hj => ?_⟩
  rw [Array.getElem?_setIfInBounds]
  by_cases e : i = j
  · subst e
    rw [if_pos rfl, if_pos (by omega), upd_same]
  · rw [if_neg e, upd_other (fun h => e h.symm)]
    exact h3 j hj

theorem IArr.below {w w' : World} {g N : Nat} {f : Nat → Nat} (h : IArr w g N f) {b : Nat} (hb : Below b w w') (hg : g < b) : IArr w' g N f := by
  obtain ⟨cur, h1, h2, h3⟩ := h
  exact ⟨cur, (hb.block g hg).trans h1, h2, h3⟩

theorem IArr.other {w : World} {g N : Nat} {f : Nat → Nat} (h : IArr w g N f) {a : Addr} (ha : g ≠ a.block) (u : Value) : IArr (w.setCell a u) g N f := by
  obtain ⟨cur, h1, h2, h3⟩ := h
  exact ⟨cur, (heap_setCell_other w a g u ha).trans h1, h2, h3⟩

theorem IArr.drew {w : World} {g N : Nat} {f : Nat → Nat} (h : IArr w g N f) : IArr w.drew g N f := h

/-- What 'make([]uint64, N)' leaves. -/
theorem IArr.made {w : World} {base g N : Nat} (h : w.ownsRow base 3 1 (.slice (some ⟨g, 0, none⟩) N N) N (madeCells (Value.int .i64 0).cells (N * 1)).toList) : IArr w g N (fun _ => 0) := by
  rcases h.2 with ⟨h', _⟩ | ⟨g', cap', cur, h', hb, hg, hnc, hcm, hcs, htake⟩
  · simp at h'
  · simp only [Value.slice.injEq, Option.some.injEq, Addr.mk.injEq, and_true, true_and] at h'
    obtain ⟨rfl, rfl⟩ := h'
    refine ⟨cur, hg, by omega, fun j hj => ?_⟩
    have e : (cur.toList.take (N * 1))[j]? = some (.int .i64 0) := by
      rw [htake, Nat.mul_one]
      show (madeCells #[Value.int .i64 0] N).toList[j]? = _
      rw [toList_madeCells_one, List.getElem?_replicate, if_pos hj]
    rw [List.getElem?_take, if_pos (by omega)] at e
    simpa using e

/-- The slice v of the call's own reads as the number n. -/
def IOwn (w : World) (base : Nat) (v : Value) (n : Nat) : Prop :=
  (∃ g c, v = .slice (some ⟨g, 0, none⟩) (ln n) c) ∧ w.ownsRow base 3 1 v (ln n) ((List.range (ln n)).map (fun j => Value.int .i64 ((dg n j : Nat) : Int)))

theorem IOwn.num {w : World} {base : Nat} {v : Value} {n : Nat} (h : IOwn w base v n) : INum w v n := by
  obtain ⟨⟨g, c, rfl⟩, h⟩ := h
  have h0 := h
  rcases h.2 with ⟨h', hn⟩ | ⟨g', cap, cur, h', hb, hg, hnc, hcm, hcs, htake⟩
  · simp at h'
  · simp only [Value.slice.injEq, Option.some.injEq, Addr.mk.injEq, and_true, true_and] at h'
    obtain ⟨rfl, rfl⟩ := h'
    refine ⟨_, c, rfl, .inr ⟨g, rfl, (Array.getElem?_eq_some_iff.1 hg).1, hnc, fun j hj => ?_⟩⟩
    rw [World.ownsRow.cellAt h0 j (by omega)]
    simp [hj]

theorem IArr.own {w : World} {g N n base : Nat} {f : Nat → Nat} (h : IArr w g N f) (hb : base ≤ g) (hN : N ≤ 1099511627776) (hn : ln n ≤ N) (hf : ∀ j, j < ln n → f j = dg n j) : IOwn w base (.slice (some ⟨g, 0, none⟩) (ln n) N) n := by
  obtain ⟨cur, h1, h2, h3⟩ := h
  refine ⟨⟨g, N, rfl⟩, by simp, .inr ⟨g, N, cur, rfl, hb, h1, hn, by unfold maxLen; omega, by omega, ?_⟩⟩
  apply List.ext_getElem?
  intro j
  by_cases hj : j < ln n
  · rw [List.getElem?_take, if_pos (by omega)]
    simp only [Array.getElem?_toList, List.getElem?_map, List.getElem?_range hj, Option.map_some]
    rw [h3 j (by omega), hf j hj]
  · rw [List.getElem?_take, if_neg (by omega)]
    simp [hj]

theorem IOwn.mono {w : World} {base base' : Nat} {v : Value} {n : Nat} (h : IOwn w base v n) (hb : base' ≤ base) : IOwn w base' v n := by
  obtain ⟨h0, h⟩ := h
  refine ⟨h0, h.1, ?_⟩
  rcases h.2 with h' | ⟨g, cap, cur, rfl, hbg, hg, rest⟩
  · exact .inl h'
  · exact .inr ⟨g, cap, cur, rfl, Nat.le_trans hb hbg, hg, rest⟩

theorem IOwn.below {w w' : World} {base : Nat} {v : Value} {n : Nat} (h : IOwn w base v n) (hb : Below w.heap.size w w') : IOwn w' base v n := by
  obtain ⟨h0, h⟩ := h
  refine ⟨h0, h.1, ?_⟩
  rcases h.2 with h' | ⟨g, cap, cur, rfl, hbg, hg, rest⟩
  · exact .inl h'
  · exact .inr ⟨g, cap, cur, rfl, hbg, (hb.block g (Array.getElem?_eq_some_iff.1 hg).1).trans hg, rest⟩


set_option maxHeartbeats 800000 in
set_option maxRecDepth 100000 in
/-- Order tells how two numbers compare. -/
theorem iorder_any {w : World} {x y : Value} {a b : Nat} (hx : INum w x a) (hy : INum w y b) (ha : ln a ≤ 1073741824) (_hb : ln b ≤ 1073741824) :
    Calls Tryz.prog 35 #[x, y] w fun e w' => e = .returned (.int .i64 (cmpN a b)) ∧ Below w.heap.size w w' := by
  obtain ⟨xa, xc, rfl⟩ := islice_any hx
  obtain ⟨ya, yc, rfl⟩ := islice_any hy
  by_cases hl : ln a = ln b
  · have hlb : ln b ≤ ln a := by omega
    have hla : ln a ≤ ln b := by omega
    obtain ⟨L, hL⟩ : ∃ L, L = ln a := ⟨_, rfl⟩
    have hd0 : a / B ^ L = b / B ^ L := by
      rw [Nat.div_eq_of_lt (by rw [hL]; exact lt_pow_ln a), Nat.div_eq_of_lt (by rw [hL, hl]; exact lt_pow_ln b)]
    rw [← hL] at hl
    rw [← hL, ← hl]
    have HL := Lib.hid hL
    have HL2 := Lib.hid hl
    have hL3 : L ≤ ln a := by omega
    have hL4 : L ≤ ln b := by omega
    have hL5 : L ≤ 1073741824 := by omega
    clear hL hl hla hlb
    go_enter Tryz.func35, Tryz.ntmps35
    go_wp2
    go_loopw [5] (fun i wr => ∃ k : Nat, k ≤ L ∧ i = .int .i64 ((k : Int) - 1) ∧ a / B ^ k = b / B ^ k ∧ Below w.heap.size w wr) (fun i _ => ((intOf i) + 1).toNat)
    case atStart => exact ⟨L, Nat.le_refl _, rfl, hd0, Below.refl _ _⟩
    case round =>
      obtain ⟨k, hk, rfl, hdk, hbr⟩ := hrel
      have HD := Lib.hid hdk
      clear hdk hd0
      by_cases h0 : 0 < k
      · obtain ⟨q, rfl⟩ : ∃ q, k = q + 1 := ⟨k - 1, by omega⟩
        obtain ⟨xb, rfl⟩ := hx.addr (by omega)
        obtain ⟨yb, rfl⟩ := hy.addr (by omega)
        have c1 := (hx.below hbr)
        have c2 := (hy.below hbr)
        have d1 := c1.cell (j := q) (by omega)
        have d2 := c2.cell (j := q) (by omega)
        clear c1 c2
        rcases Nat.lt_trichotomy (dg a q) (dg b q) with he | he | he
        · have HR := Lib.hid (show (-1 : Int) = cmpN a b by rw [cmpN_lt (lt_of_dg HD.out he)])
          have he1 : ((dg a q : Nat) : Int) < ((dg b q : Nat) : Int) := by omega
          clear he
          go_wp2_with fail
          go_quiet (fail)
          go_wp2_with fail
          go_ret
          exact ⟨ret_int HR.out, below_drewN hbr _⟩
        · have HE := Lib.hid (eq_of_dg HD.out he)
          rw [he] at d1
          clear he
          go_wp2_with fail
          go_quiet (fail)
          go_wp2_with fail
          go_quiet (fail)
          go_wp2_with fail
          go_roundw
          case rel => exact ⟨q, by omega, by go_num, HE.out, below_drewN hbr _⟩
          case measure => simp [intOf]
        · have HR := Lib.hid (show (1 : Int) = cmpN a b by rw [cmpN_gt (lt_of_dg HD.out.symm he)])
          have he1 : ((dg b q : Nat) : Int) < ((dg a q : Nat) : Int) := by omega
          have he2 : decide (((dg a q : Nat) : Int) < ((dg b q : Nat) : Int)) = false := decide_eq_false (by omega)
          clear he
          go_wp2_with fail
          go_quiet (fail)
          go_wp2_with fail
          go_quiet (fail)
          go_wp2_with fail
          go_ret
          exact ⟨ret_int HR.out, below_drewN (below_drewN hbr _) _⟩
      · obtain rfl : k = 0 := by omega
        have hab : a = b := by have := HD.out; simpa using this
        have HR := Lib.hid (show (0 : Int) = cmpN a b by rw [hab, cmpN_eq])
        clear hab
        go_wp2_with fail
        go_ret
        exact ⟨ret_int HR.out, hbr⟩
  · have hne : (((ln a : Nat) : Int) != ((ln b : Nat) : Int)) = true := by rw [bne_iff_ne]; omega
    by_cases h : ln a < ln b
    · have HR := Lib.hid (show (-1 : Int) = cmpN a b by rw [cmpN_lt (lt_of_ln_lt h)])
      clear hl
      go_enter Tryz.func35, Tryz.ntmps35
      go_wp2_with fail
      go_ret
      exact ⟨ret_int HR.out, Below.refl _ _⟩
    · have HR := Lib.hid (show (1 : Int) = cmpN a b by rw [cmpN_gt (lt_of_ln_lt (show ln b < ln a by omega))])
      have hge : decide (((ln a : Nat) : Int) < ((ln b : Nat) : Int)) = false := decide_eq_false (by omega)
      clear hl
      go_enter Tryz.func35, Tryz.ntmps35
      go_wp2_with fail
      go_ret
      exact ⟨ret_int HR.out, Below.refl _ _⟩

end Go.Proofs.YtiocehlefpbbhaaGreatDoor

namespace Go.Proofs.YtiocehlefpbbhaaGreatDoor
open Go.RowKit NV

/-- The limbs from 0 on, k of them, as ints. -/
def ilvs (n k : Nat) : List Value := (List.range k).map (fun j => Value.int .i64 ((dg n j : Nat) : Int))
theorem ilvs_succ (n k : Nat) : ilvs n (k + 1) = ilvs n k ++ [.int .i64 ((dg n k : Nat) : Int)] := by simp [ilvs, List.range_succ]

/-- A row of the call's own that is not nil. -/
theorem iown_form {w : World} {base n k : Nat} {v : Value} (h : w.ownsRow base 3 1 v k (ilvs n k)) (h0 : v ≠ .slice none 0 0) :
    ∃ g c, v = .slice (some ⟨g, 0, none⟩) k c ∧ base ≤ g ∧ g < w.heap.size ∧ k ≤ c ∧ ∀ j, j < k → w.cell? ⟨g, j, none⟩ = some (.int .i64 ((dg n j : Nat) : Int)) := by
  rcases h.2 with ⟨h', _⟩ | ⟨g, cap, cur, h', hb, hg, hnc, hcm, hcs, htake⟩
  · exact absurd h' h0
  · subst h'
    refine ⟨g, cap, rfl, hb, (Array.getElem?_eq_some_iff.1 hg).1, hnc, fun j hj => ?_⟩
    rw [World.ownsRow.cellAt h j (by omega)]
    simp [ilvs, hj]

theorem inum_of {w : World} {g c n k : Nat} (hg : g < w.heap.size) (hk : ln n ≤ k) (hc : k ≤ c) (h : ∀ j, j < k → w.cell? ⟨g, j, none⟩ = some (.int .i64 ((dg n j : Nat) : Int))) : INum w (.slice (some ⟨g, 0, none⟩) (ln n) c) n :=
  ⟨_, c, rfl, .inr ⟨g, rfl, hg, Nat.le_trans hk hc, fun j hj => h j (Nat.lt_of_lt_of_le hj hk)⟩⟩

theorem bt_at (s : ByteArray) (k : Nat) (h : k < s.size) : bt s.data.toList k = (s[k]).toNat := by
  have h2 := byte_at s k h
  unfold bt
  rw [List.getD_eq_getElem?_getD, h2]
  rfl

theorem bt_piece (l : List UInt8) {lo e q : Nat} (h : lo + q < e) : bt ((l.take e).drop lo) q = bt l (lo + q) := by
  unfold bt
  rw [List.getD_eq_getElem?_getD, List.getD_eq_getElem?_getD, List.getElem?_drop, List.getElem?_take, if_pos h]

set_option maxHeartbeats 1600000 in
set_option maxRecDepth 100000 in
/-- Read returns the number that a text of digits is. -/
theorem iread_any (s : ByteArray) (w : World) (hs0 : 0 < s.size) (hs : s.size ≤ 1000000) (hd : Digs s.data.toList) :
    Calls Tryz.prog 32 #[.string s] w fun e w' => ∃ v, e = .returned v ∧ INum w' v (dv s.data.toList) ∧ Below w.heap.size w w' := by
  obtain ⟨i0, hi, hz0, hz1, hz2⟩ := info_parts infoI
  have HSZ := Lib.hid (Go.Lib.size_eq s)
  obtain ⟨n, hn⟩ : ∃ n, n = dv s.data.toList := ⟨_, rfl⟩
  rw [← hn]
  have HN := Lib.hid hn
  have hown0 : w.ownsRow w.heap.size 3 1 (.slice none 0 0) 0 (ilvs n 0) := World.ownsRow_nil w _ _ _
  have HD := Lib.hid hd
  clear hn hd
  go_enter Tryz.func32, Tryz.ntmps32
  go_wp2_with fail
  go_loopw [3, 4] (fun v e wr => ∃ k : Nat, 9 * k < s.size + 9 ∧ e = .int .i64 ((s.size : Int) - 9 * (k : Int)) ∧ wr.ownsRow w.heap.size 3 1 v k (ilvs n k) ∧ Hid (v = .slice none 0 0 ↔ k = 0) ∧ Below w.heap.size w wr) (fun _ e _ => (intOf e).toNat)
  case atStart => exact ⟨0, by omega, by go_num, hown0, Lib.hid (by simp), Below.refl _ _⟩
  case round =>
    obtain ⟨k, hk, rfl, hown, hnil, hbr⟩ := hrel
    clear hown0
    by_cases hlt : 9 * k < s.size
    · obtain ⟨e, he⟩ : ∃ e : Nat, e = s.size - 9 * k := ⟨_, rfl⟩
      obtain ⟨lo, hlo⟩ : ∃ lo : Nat, lo = e - 9 := ⟨_, rfl⟩
      have HP := Lib.hid (dv_piece HD.out (e := e) (lo := lo) (k := k) (by rw [← HSZ.out]; omega) hlo)
      obtain ⟨pl, hpl⟩ : ∃ pl, pl = (s.data.toList.take e).drop lo := ⟨_, rfl⟩
      have hplen : pl.length = e - lo := by rw [hpl, List.length_drop, List.length_take, ← HSZ.out]; omega
      have HPL := Lib.hid hpl
      have HLEN := Lib.hid hplen
      have hdp : Digs pl := by rw [hpl]; exact (HD.out.take _).drop _
      have HDP := Lib.hid hdp
      have he1 : (s.size : Int) - 9 * (k : Int) = (e : Int) := by omega
      have he2 : e ≤ s.size := by omega
      have hel : lo ≤ e ∧ e ≤ lo + 9 := by omega
      have hmx : max (0 : Int) ((e : Int) - 9) = (lo : Int) := by omega
      have HE := Lib.hid he
      have HLO := Lib.hid hlo
      rw [he1]
      clear hpl hplen hdp he1 he hlo
      have hc0 : 0 < e := by have := HE.out; omega
      go_wp2_with fail
      go_loop [5, 6] (fun c i => ∃ q : Nat, q ≤ e - lo ∧ i = .int .i64 ((lo : Int) + (q : Int)) ∧ c = .int .i64 ((tv pl q : Nat) : Int)) (fun _ i => e - (intOf i).toNat)
      case atStart => exact ⟨0, Nat.zero_le _, by go_num, rfl⟩
      case round =>
        obtain ⟨q, hq, rfl, rfl⟩ := hrel
        by_cases hqm : lo + q < e
        · obtain ⟨x, hx⟩ : ∃ x, x = lo + q := ⟨_, rfl⟩
          have hxs : x < s.size := by omega
          have d1 := digs_getD HDP.out (j := q) (by rw [HLEN.out]; omega)
          have d2 := tv_lt HDP.out (j := q) (by omega)
          have hb := bt_at s x hxs
          have hbp : bt pl q = (s[x]).toNat := by rw [HPL.out, bt_piece _ hqm, ← hx, hb]
          rw [hbp] at d1
          have HS := Lib.hid (show 10 * ((tv pl q : Nat) : Int) + (((s[x]).toNat : Nat) - 48 : Int) = ((tv pl (q + 1) : Nat) : Int) by
            rw [tv_succ _ (by rw [HLEN.out]; omega), hbp]; omega)
          have hxi : (lo : Int) + (q : Int) = (x : Int) := by omega
          have hxe : (x : Int) < (e : Int) := by omega
          have hxz : (x : Int) < (s.size : Int) := by omega
          have HXQ := Lib.hid hx
          rw [hxi]
          clear hb hbp hx hxi
          go_wp2_with fail
          go_round
          case rel => exact ⟨q + 1, by omega, congrArg (Value.int .i64) (by have := HXQ.out; omega), by rw [HS.out]⟩
          case measure => simp [intOf]; omega
        · obtain rfl : q = e - lo := by omega
          have hval : ((tv pl (e - lo) : Nat) : Int) = ((dg n k : Nat) : Int) := by
            rw [tv, List.take_of_length_le (by rw [HLEN.out]; exact Nat.le_refl _), HPL.out, HP.out, HN.out]
          have HVAL := Lib.hid hval
          rw [hval]
          clear hval
          have HNEWS := Lib.hid (cell_one_new wr (.int .i64 ((dg n k : Nat) : Int)) 3 0 (.int .i64 ((dg n k : Nat) : Int)) rfl)
          have hbe : Below wr.heap.size wr (wr.alloc (.cells #[.int .i64 ((dg n k : Nat) : Int)] 3)) := (Below.refl _ _).alloc (Nat.le_refl _) _
          have hsr := hbr.size
          have hownA := owns_below hown hbe
          have hbA := hbr.trans (hbe.mono hsr)
          have hbase : w.heap.size ≤ (wr.alloc (.cells #[.int .i64 ((dg n k : Nat) : Int)] 3)).heap.size := by simp; omega
          clear hown hbr hbe
          go_wp2_with (at_builtin; refine wpList_append_own _ rfl _ _ 46 rfl w.heap.size 3 i0 (.int .i64 0) 1 8 Tryz.underlying46 hi hz0 hz1 hz2 rfl (by decide) _ k _ rfl hownA ⟨wr.heap.size, 0, none⟩ 1 1 [.int .i64 ((dg n k : Nat) : Int)] rfl rfl (by
            intro j u hj
            obtain rfl : j = 0 := by
              have := (List.getElem?_eq_some_iff.1 hj).1
              simpa using this
            simp at hj
            subst hj
            exact HNEWS.out) (by intro u hu; simp at hu; subst hu; rfl) (by unfold maxLen; omega) (by omega) hbase ?_)
          intro v' w3 hown3 hgrow3 hnil3
          rw [← ilvs_succ] at hown3
          have hb3 : Below w.heap.size w w3 := hbA.grown hgrow3 hbase (fun b hb => (World.ownsRow.lt hownA b hb).1)
          have HF := Lib.hid (And.intro hown3 hb3)
          have HNIL := Lib.hid hnil3
          clear hown3 hgrow3 hb3 hnil3 hownA hbA
          go_wp2_with fail
          go_roundw
          case rel => exact ⟨k + 1, by have := HE.out; omega, congrArg (Value.int .i64) (by have := HE.out; omega), HF.out.1, Lib.hid ⟨fun h => absurd h HNIL.out, fun h => by omega⟩, HF.out.2⟩
          case measure => simp [intOf]; omega
    · have hk1 : k ≠ 0 := by omega
      obtain ⟨g, c, rfl, hg, hgl, hkc, hcell⟩ := iown_form hown (fun e => hk1 (hnil.out.1 e))
      have hln : n < B ^ k := by rw [HN.out]; exact dv_lt_pow HD.out (by rw [← HSZ.out]; omega)
      have HTR := Lib.hid (itrim_any (n := n) (by omega) hkc hln hcell)
      have HF := Lib.hid (And.intro (inum_of hgl (ln_le hln) hkc hcell) hbr)
      clear hown hcell hbr hln
      go_wp2_with fail
      refine HTR.out.mono ?_
      rintro e w4 ⟨rfl, rfl⟩
      go_wp2_with fail
      go_ret
      exact ⟨_, rfl, HF.out.1, HF.out.2⟩

end Go.Proofs.YtiocehlefpbbhaaGreatDoor

namespace Go.Proofs.YtiocehlefpbbhaaGreatDoor
open Go.RowKit NV

set_option maxHeartbeats 1600000 in
set_option maxRecDepth 100000 in
/-- scaled returns the product with a number below the base, in one limb more than there were. -/
theorem iscaled_any {w : World} {x : Value} {a d : Nat} (hx : INum w x a) (ha : ln a ≤ 1000000) (hd : d ≤ 500000000) :
    Calls Tryz.prog 67 #[x, .int .i64 d] w fun e w' => e = .returned (.slice (some ⟨w.heap.size, 0, none⟩) (ln a + 1) (ln a + 1)) ∧ IArr w' w.heap.size (ln a + 1) (dg (a * d)) ∧ Below w.heap.size w w' := by
  obtain ⟨i0, hi, hz0, hz1, hz2⟩ := info_parts infoI
  obtain ⟨xa, xc, rfl⟩ := islice_any hx
  go_enter Tryz.func67, Tryz.ntmps67
  go_wp2_with (at_make; refine wpList_make_full _ rfl _ _ 46 rfl w.heap.size 3 i0 (.int .i64 0) 1 Tryz.underlying46 hi hz0 hz1 _ _ _ _ (ln a + 1) rfl rfl (by omega) (by omega) (by rw [hz2]; omega) (by unfold maxLen; omega) (by simp) ?_)
  intro w1 hown1 hgrow1
  have harr : IArr w1 w.heap.size (ln a + 1) (dgf (a * d) 0) := by rw [dgf_zero]; exact IArr.made (base := w.heap.size) (by rw [Nat.mul_one]; exact hown1)
  have hb1 : Below w.heap.size w w1 := (Below.refl _ _).grown hgrow1 (by simp) (fun k hk => by cases hk)
  clear hown1 hgrow1
  go_wp2
  go_loopw [6, 7] (fun c i wr => ∃ k : Nat, k ≤ ln a ∧ i = .int .i64 k ∧ c = .int .i64 ((sc a d k : Nat) : Int) ∧ IArr wr w.heap.size (ln a + 1) (dgf (a * d) k) ∧ Below w.heap.size w wr) (fun _ i _ => ln a - (intOf i).toNat)
  case atStart => exact ⟨0, Nat.zero_le _, rfl, by rw [sc_zero]; rfl, harr, hb1⟩
  case round =>
    obtain ⟨k, hk, rfl, rfl, har, hbr⟩ := hrel
    have b3 := sc_le a d k
    have c1 := har.cell (show k < ln a + 1 by omega)
    have c2 := har.free k
    clear harr hb1
    by_cases hlt : k < ln a
    · obtain ⟨xb, rfl⟩ := hx.addr (by omega)
      have c3 := (hx.below hbr).cell hlt
      have b1 := dg_lt a k
      have b2 : ((dg a k : Nat) : Int) * (d : Int) ≤ 999999999 * 500000000 := by
        have : dg a k * d ≤ 999999999 * 500000000 := Nat.mul_le_mul (by omega) hd
        have e : ((dg a k : Nat) : Int) * (d : Int) = ((dg a k * d : Nat) : Int) := by simp
        omega
      have b4 : 0 ≤ ((dg a k : Nat) : Int) * (d : Int) := by
        have e : ((dg a k : Nat) : Int) * (d : Int) = ((dg a k * d : Nat) : Int) := by simp
        omega
      have hv := Lib.hid (show (((dg a k : Nat) : Int) * (d : Int) + ((sc a d k : Nat) : Int)) % 1000000000 = ((dg (a * d) k : Nat) : Int) by rw [dg_scaled]; simp)
      have hw := Lib.hid (show (((dg a k : Nat) : Int) * (d : Int) + ((sc a d k : Nat) : Int)) / 1000000000 = ((sc a d (k + 1) : Nat) : Int) by rw [sc_succ]; simp)
      go_wp2_with fail
      go_roundw
      case rel => exact ⟨k + 1, by omega, by go_num, by rw [hw.out], by rw [hv.out, ← dgf_step rfl]; exact har.store k _, hbr.setCell (by simp) _⟩
      case measure => simp [intOf]; omega
    · obtain rfl : k = ln a := by omega
      have ht := Lib.hid (show sc a d (ln a) = dg (a * d) (ln a) by
        rw [dg_scaled_top (lt_pow_ln a) (by omega) (.inr (.inr trivial)), Nat.mod_eq_of_lt (by omega)])
      go_wp2_with fail
      go_ret
      refine ⟨rfl, ?_, hbr.setCell (by simp) _⟩
      rw [ht.out]
      refine ((har.store (ln a) (dg (a * d) (ln a))).congr (f' := dg (a * d)) ?_)
      intro j hj
      rw [dgf_step rfl, dgf, if_pos hj]

set_option maxHeartbeats 1600000 in
set_option maxRecDepth 100000 in
/-- short returns quotient and remainder by a number from 1 to less than the base. -/
theorem ishort_any {w : World} {x : Value} {a y : Nat} (hx : INum w x a) (ha : ln a ≤ 1000000) (hy1 : 1 ≤ y) (hy2 : y < 1000000000) :
    Calls Tryz.prog 47 #[x, .int .i64 y] w fun e w' => ∃ v, e = .returned (.tuple #[v, .int .i64 ((a % y : Nat) : Int)]) ∧ INum w' v (a / y) ∧ Below w.heap.size w w' := by
  obtain ⟨i0, hi, hz0, hz1, hz2⟩ := info_parts infoI
  obtain ⟨xa, xc, rfl⟩ := islice_any hx
  have hqa : a / y ≤ a := Nat.div_le_self _ _
  have hln : ln (a / y) ≤ ln a := ln_mono hqa
  have hlt0 : a / y < B ^ ln a := Nat.lt_of_le_of_lt hqa (lt_pow_ln a)
  have hr0 : a / B ^ ln a % y = 0 := by rw [Nat.div_eq_of_lt (lt_pow_ln a)]; simp
  obtain ⟨L, hL⟩ : ∃ L, L = ln a := ⟨_, rfl⟩
  rw [← hL] at hln hlt0 hr0 ha ⊢
  have HL := Lib.hid hL
  have hLl : L ≤ ln a := by omega
  have HR0 := Lib.hid hr0
  clear hL hqa hr0
  go_enter Tryz.func47, Tryz.ntmps47
  go_wp2_with (at_make; refine wpList_make_full _ rfl _ _ 46 rfl w.heap.size 3 i0 (.int .i64 0) 1 Tryz.underlying46 hi hz0 hz1 _ _ _ _ L rfl rfl (by omega) (by omega) (by rw [hz2]; omega) (by unfold maxLen; omega) (by simp) ?_)
  intro w1 hown1 hgrow1
  have harr : IArr w1 w.heap.size L (fun _ => 0) := IArr.made (base := w.heap.size) (by rw [Nat.mul_one]; exact hown1)
  have hb1 : Below w.heap.size w w1 := (Below.refl _ _).grown hgrow1 (by simp) (fun k hk => by cases hk)
  clear hown1 hgrow1
  go_wp2
  go_loopw [7, 8] (fun r i wr => ∃ k : Nat, k ≤ L ∧ i = .int .i64 ((k : Int) - 1) ∧ r = .int .i64 ((a / B ^ k % y : Nat) : Int) ∧ IArr wr w.heap.size L (dgu (a / y) k) ∧ Below w.heap.size w wr) (fun _ i _ => ((intOf i) + 1).toNat)
  case atStart => exact ⟨L, Nat.le_refl _, rfl, by rw [HR0.out]; rfl, harr.congr (fun j hj => by rw [dgu, if_neg (by omega)]), hb1⟩
  case round =>
    obtain ⟨k, hk, rfl, rfl, har, hbr⟩ := hrel
    clear harr hb1
    by_cases hk0 : 0 < k
    · obtain ⟨q, rfl⟩ : ∃ q, k = q + 1 := ⟨k - 1, by omega⟩
      have c1 := har.cell (show q < L by omega)
      have c2 := har.free q
      obtain ⟨xb, rfl⟩ := hx.addr (by omega)
      have c3 := (hx.below hbr).cell (j := q) (by omega)
      have b1 := dg_lt a q
      have b2 : a / B ^ (q + 1) % y < y := Nat.mod_lt _ (by omega)
      have hv := Lib.hid (show (((a / B ^ (q + 1) % y : Nat) : Int) * 1000000000 + ((dg a q : Nat) : Int)) / (y : Int) = ((dg (a / y) q : Nat) : Int) by rw [div_digit a y q (by omega)]; simp)
      have hw := Lib.hid (show (((a / B ^ (q + 1) % y : Nat) : Int) * 1000000000 + ((dg a q : Nat) : Int)) % (y : Int) = ((a / B ^ q % y : Nat) : Int) by rw [div_rest a y q]; simp)
      have hvb := dg_lt (a / y) q
      generalize hX : a / B ^ (q + 1) % y = X at *
      clear hX
      obtain ⟨U, hU, hU2, hU3⟩ : ∃ U : Nat, (X : Int) * 1000000000 + ((dg a q : Nat) : Int) = (U : Int) ∧ U ≤ 1000000000000000000 ∧ (U : Int) / (y : Int) ≤ 1000000000 := by
        refine ⟨X * 1000000000 + dg a q, by simp, by omega, ?_⟩
        have := hv.out
        have e : ((X * 1000000000 + dg a q : Nat) : Int) = (X : Int) * 1000000000 + ((dg a q : Nat) : Int) := by simp
        rw [e, this]; omega
      have hv2 := Lib.hid (show (U : Int) / (y : Int) = ((dg (a / y) q : Nat) : Int) by rw [← hU]; exact hv.out)
      have hw2 := Lib.hid (show (U : Int) % (y : Int) = ((a / B ^ q % y : Nat) : Int) by rw [← hU]; exact hw.out)
      have hU4 : 0 ≤ (U : Int) / (y : Int) := by rw [hv2.out]; omega
      clear hv hw
      go_wp2_with fail
      go_roundw
      case rel => exact ⟨q, by omega, by go_num, by rw [hw2.out], by rw [hv2.out, ← dgu_step rfl]; exact har.store q _, hbr.setCell (by simp) _⟩
      case measure => simp [intOf]
    · obtain rfl : k = 0 := by omega
      have HC := Lib.hid (show ∀ j, j < L → wr.cell? ⟨w.heap.size, j, none⟩ = some (.int .i64 ((dg (a / y) j : Nat) : Int)) from fun j hj => by
        rw [har.cell hj, dgu, if_pos (Nat.zero_le _)])
      have HR := Lib.hid (show ((a / B ^ 0 % y : Nat) : Int) = ((a % y : Nat) : Int) by simp)
      generalize a / B ^ 0 % y = X at *
      go_wp2_with fail
      refine (itrim_any (n := a / y) (by omega) (Nat.le_refl _) hlt0 HC.out).mono ?_
      rintro e w2 ⟨rfl, rfl⟩
      go_wp2_with fail
      go_ret2
      exact ⟨_, by rw [← HR.out]; rfl, (IArr.own har (by omega) (by omega) hln (fun j hj => by rw [dgu, if_pos (Nat.zero_le _)]) : IOwn _ w.heap.size _ _).num, hbr⟩

end Go.Proofs.YtiocehlefpbbhaaGreatDoor

namespace Go.Proofs.YtiocehlefpbbhaaGreatDoor
open Go.RowKit NV

set_option maxHeartbeats 1600000 in
set_option maxRecDepth 100000 in
/-- Times returns the product. -/
theorem itimes_any {w : World} {x y : Value} {a b : Nat} (hx : INum w x a) (hy : INum w y b) (ha : ln a ≤ 1000000) (hb : ln b ≤ 1000000) :
    Calls Tryz.prog 38 #[x, y] w fun e w' => ∃ v, e = .returned v ∧ INum w' v (a * b) ∧ Below w.heap.size w w' := by
  obtain ⟨i0, hi, hz0, hz1, hz2⟩ := info_parts infoI
  obtain ⟨xa, xc, rfl⟩ := islice_any hx
  obtain ⟨ya, yc, rfl⟩ := islice_any hy
  have hlt0 : a * b < B ^ (ln a + ln b) := mul_lt_pow (lt_pow_ln a) (lt_pow_ln b)
  have hln := ln_le hlt0
  go_enter Tryz.func38, Tryz.ntmps38
  go_wp2_with (at_make; refine wpList_make_full _ rfl _ _ 46 rfl w.heap.size 3 i0 (.int .i64 0) 1 Tryz.underlying46 hi hz0 hz1 _ _ _ _ (ln a + ln b) rfl rfl (by omega) (by omega) (by rw [hz2]; omega) (by unfold maxLen; omega) (by simp) ?_)
  intro w1 hown1 hgrow1
  have harr : IArr w1 w.heap.size (ln a + ln b) (dg (rowsTo a b 0)) := (IArr.made (base := w.heap.size) (by rw [Nat.mul_one]; exact hown1)).congr (fun j _ => by rw [rowsTo_zero, dg_zero])
  have hb1 : Below w.heap.size w w1 := (Below.refl _ _).grown hgrow1 (by simp) (fun k hk => by cases hk)
  clear hown1 hgrow1
  go_wp2
  go_loopw [6] (fun i wr => ∃ p : Nat, p ≤ ln a ∧ i = .int .i64 p ∧ IArr wr w.heap.size (ln a + ln b) (dg (rowsTo a b p)) ∧ Below w.heap.size w wr) (fun i _ => ln a - (intOf i).toNat)
  case atStart => exact ⟨0, Nat.zero_le _, rfl, harr, hb1⟩
  case round =>
    obtain ⟨p, hp, rfl, har, hbr⟩ := hrel
    clear harr hb1
    obtain ⟨wo, rfl⟩ : ∃ wo : World, wo = wr := ⟨_, rfl⟩
    by_cases hlt : p < ln a
    · obtain ⟨xb, rfl⟩ := hx.addr (by omega)
      have har0 : IArr wo w.heap.size (ln a + ln b) (rowsAt a b p 0) := har.congr (fun j _ => (rowsAt_zero a b p j).symm)
      clear har
      go_wp2_with fail
      go_loopw [7, 8] (fun c k wi => ∃ q : Nat, q ≤ ln b ∧ k = .int .i64 q ∧ c = .int .i64 ((tc (rowsTo a b p / B ^ p) b (dg a p) q : Nat) : Int) ∧ IArr wi w.heap.size (ln a + ln b) (rowsAt a b p q) ∧ Below w.heap.size w wi) (fun _ k _ => ln b - (intOf k).toNat)
      case atStart => exact ⟨0, Nat.zero_le _, rfl, by rw [tc_zero]; rfl, har0, hbr⟩
      case round =>
        obtain ⟨q, hq, rfl, rfl, hai, hbi⟩ := hrel
        clear har0 hbr
        have bt := tc_lt (rowsTo a b p / B ^ p) b (dg a p) q (dg_lt a p)
        by_cases hqb : q < ln b
        · obtain ⟨yb, rfl⟩ := hy.addr (by omega)
          have c0 := hai.cell (show p + q < ln a + ln b by omega)
          have f0 := hai.free (p + q)
          rw [rowsAt_here] at c0
          have c1 := (hx.below hbi).cell hlt
          have c2 := (hy.below hbi).cell hqb
          have bh := dg_lt (rowsTo a b p / B ^ p) q
          have pb := prod_bd a b p q
          have hv := Lib.hid (show (((dg (rowsTo a b p / B ^ p) q : Nat) : Int) + ((dg a p : Nat) : Int) * ((dg b q : Nat) : Int) + ((tc (rowsTo a b p / B ^ p) b (dg a p) q : Nat) : Int)) % 1000000000 = ((dg (rowsTo a b (p + 1)) (p + q) : Nat) : Int) by
            rw [rowsTo_high, dg_row, Nat.mul_comm (dg b q)]; simp)
          have hw := Lib.hid (show (((dg (rowsTo a b p / B ^ p) q : Nat) : Int) + ((dg a p : Nat) : Int) * ((dg b q : Nat) : Int) + ((tc (rowsTo a b p / B ^ p) b (dg a p) q : Nat) : Int)) / 1000000000 = ((tc (rowsTo a b p / B ^ p) b (dg a p) (q + 1) : Nat) : Int) by
            rw [tc_succ, Nat.mul_comm (dg b q)]; simp)
          have HST := Lib.hid (show ∀ wz : World, IArr wz w.heap.size (ln a + ln b) (rowsAt a b p q) → IArr (wz.setCell ⟨w.heap.size, p + q, none⟩ (.int .i64 ((dg (rowsTo a b (p + 1)) (p + q) : Nat) : Int))) w.heap.size (ln a + ln b) (rowsAt a b p (q + 1)) from fun wz hz =>
            (hz.store (p + q) (dg (rowsTo a b (p + 1)) (p + q))).congr (fun j _ => by
              by_cases e : j = p + q
              · rw [e, upd_same, rowsAt, if_pos (by omega)]
              · rw [upd_other e, rowsAt, rowsAt]
                by_cases e2 : j < p + q
                · rw [if_pos e2, if_pos (by omega)]
                · rw [if_neg e2, if_neg (by omega)]))
          have HAI := Lib.hid hai
          generalize tc (rowsTo a b p / B ^ p) b (dg a p) q = C at *
          generalize dg (rowsTo a b p / B ^ p) q = D at *
          clear hai
          go_wp2_with fail
          go_quiet (fail)
          go_wp2_with fail
          go_roundw
          case rel => exact ⟨q + 1, by omega, by go_num, by rw [hw.out], by rw [hv.out]; exact HST.out _ HAI.out, (below_drewN hbi _).setCell (by simp) _⟩
          case measure => simp [intOf]; omega
        · obtain rfl : q = ln b := by omega
          have c0 := hai.cell (show p + ln b < ln a + ln b by omega)
          have f0 := hai.free (p + ln b)
          have HV := Lib.hid (show tc (rowsTo a b p / B ^ p) b (dg a p) (ln b) = dg (rowsTo a b (p + 1)) (p + ln b) by
            rw [rowsTo_high, dg_row_top (high_lt (lt_pow_ln b) p) (lt_pow_ln b) (dg_lt a p)])
          have HST := Lib.hid (show ∀ wz : World, IArr wz w.heap.size (ln a + ln b) (rowsAt a b p (ln b)) → IArr (wz.setCell ⟨w.heap.size, p + ln b, none⟩ (.int .i64 ((dg (rowsTo a b (p + 1)) (p + ln b) : Nat) : Int))) w.heap.size (ln a + ln b) (dg (rowsTo a b (p + 1))) from fun wz hz =>
            (hz.store (p + ln b) (dg (rowsTo a b (p + 1)) (p + ln b))).congr (fun j _ => by
              refine Eq.trans ?_ (rowsAt_done (lt_pow_ln b) j)
              by_cases e : j = p + ln b
              · rw [e, upd_same, rowsAt, if_pos (by omega)]
              · rw [upd_other e, rowsAt, rowsAt]
                by_cases e2 : j < p + ln b
                · rw [if_pos e2, if_pos (by omega)]
                · rw [if_neg e2, if_neg (by omega)]))
          have HAI := Lib.hid hai
          rw [HV.out]
          clear hai HV bt
          go_wp2_with fail
          go_roundw
          case rel => exact ⟨p + 1, by omega, by go_num, HST.out _ HAI.out, hbi.setCell (by simp) _⟩
          case measure => simp [intOf]; omega
    · obtain rfl : p = ln a := by omega
      have HC := Lib.hid (show ∀ j, j < ln a + ln b → wo.cell? ⟨w.heap.size, j, none⟩ = some (.int .i64 ((dg (a * b) j : Nat) : Int)) from fun j hj => by
        rw [har.cell hj, rowsTo_end (lt_pow_ln a)])
      have HN := Lib.hid (show ∀ _ : Nat, INum wo (.slice (some ⟨w.heap.size, 0, none⟩) (ln (a * b)) (ln a + ln b)) (a * b) from fun _ =>
        inum_of (k := ln a + ln b) har.lt hln (Nat.le_refl _) HC.out)
      go_wp2_with fail
      refine (itrim_any (n := a * b) (by omega) (Nat.le_refl _) hlt0 HC.out).mono ?_
      rintro e w2 ⟨rfl, rfl⟩
      go_wp2_with fail
      go_ret
      exact ⟨_, rfl, HN.out 0, hbr⟩

end Go.Proofs.YtiocehlefpbbhaaGreatDoor

namespace Go.Proofs.YtiocehlefpbbhaaGreatDoor
open Go.RowKit NV
open Go.Lib (decDigits)

/-- The byte at place j of N decimal places. -/
def pb (n N j : Nat) : Nat := 48 + n / 10 ^ (N - 1 - j) % 10
theorem pb_bd (n N j : Nat) : 48 ≤ pb n N j ∧ pb n N j ≤ 57 := by unfold pb; omega

/-- The digits of a numeral. -/
theorem dec_get (n : Nat) : ∀ i, i < (decDigits n).length → (decDigits n)[i]?.map (·.toNat) = some (pb n (decDigits n).length i) := by
  refine dec_ind (fun n => ∀ i, i < (decDigits n).length → (decDigits n)[i]?.map (·.toNat) = some (pb n (decDigits n).length i)) ?_ ?_ n
  · intro n hn i hi
    rw [dec_small hn] at *
    have hi0 : i = 0 := by simp at hi; omega
    subst hi0
    rw [pb]
    simp [Nat.mod_eq_of_lt hn]
    omega
  · intro n hn ih i hi
    rw [dec_big hn] at *
    rw [List.length_append, List.length_singleton] at *
    by_cases h : i < (decDigits (n / 10)).length
    · rw [List.getElem?_append_left h, ih i h, pb, pb, Nat.div_div_eq_div_mul]
      have e : 10 * 10 ^ ((decDigits (n / 10)).length - 1 - i) = 10 ^ ((decDigits (n / 10)).length + 1 - 1 - i) := by
        rw [Nat.mul_comm, ← Nat.pow_succ]; congr 1; omega
      rw [e]
    · have e : i = (decDigits (n / 10)).length := by omega
      rw [List.getElem?_append_right (by omega), e, Nat.sub_self, pb]
      simp
      omega

theorem limb_digit (n p t : Nat) (ht : t < 9) : dg n p / 10 ^ t % 10 = n / 10 ^ (9 * p + t) % 10 := by
  have e : (1000000000 : Nat) = 10 ^ t * 10 ^ (9 - t) := by rw [← Nat.pow_add]; simp [show t + (9 - t) = 9 by omega]
  rw [dg, B_pow, B_eq, Nat.pow_add, ← Nat.div_div_eq_div_mul]
  generalize n / 10 ^ (9 * p) = X
  rw [e, Nat.mod_mul_right_div_self]
  obtain ⟨q, hq⟩ : ∃ q, 9 - t = q + 1 := ⟨8 - t, by omega⟩
  rw [hq, Nat.pow_succ, Nat.mul_comm (10 ^ q) 10, Nat.mod_mul_right_mod]

/-- Block g is a row of N bytes, byte j being f j. -/
def BArr (w : World) (g N : Nat) (f : Nat → Nat) : Prop :=
  ∃ cur, w.heap[g]? = some (.cells cur 5 (0, 0)) ∧ cur.size = N ∧ ∀ j, j < N → cur[j]? = some (.int .u8 ((f j : Nat) : Int))

theorem BArr.cell {w : World} {g N : Nat} {f : Nat → Nat} (h : BArr w g N f) {j : Nat} (hj : j < N) : w.cell? ⟨g, j, none⟩ = some (.int .u8 ((f j : Nat) : Int)) := by
  obtain ⟨cur, h1, h2, h3⟩ := h
  rw [cell_of_row w g j cur _ _ h1]
  exact h3 j hj
theorem BArr.free {w : World} {g N : Nat} {f : Nat → Nat} (h : BArr w g N f) (j : Nat) : w.frozen? ⟨g, j, none⟩ = false := by
  obtain ⟨cur, h1, h2, h3⟩ := h
  exact frozen_of_row w g j cur _ h1
theorem BArr.store {w : World} {g N : Nat} {f : Nat → Nat} (h : BArr w g N f) (i x : Nat) : BArr (w.setCell ⟨g, i, none⟩ (.int .u8 ((x : Nat) : Int))) g N (upd f i x) := by
  obtain ⟨cur, h1, h2, h3⟩ := h
  refine ⟨cur.setIfInBounds i (.int .u8 ((x : Nat) : Int)), heap_setCell_same w g i cur _ _ h1, by simpa using h2, fun j hj => ?_⟩
  rw [Array.getElem?_setIfInBounds]
  by_cases e : i = j
  · subst e
    rw [if_pos rfl, if_pos (by omega), upd_same]
  · rw [if_neg e, upd_other (fun h => e h.symm)]
    exact h3 j hj
theorem BArr.made {w : World} {base g N : Nat} (h : w.ownsRow base 5 1 (.slice (some ⟨g, 0, none⟩) N N) N (madeCells (Value.int .u8 0).cells (N * 1)).toList) : BArr w g N (fun _ => 0) := by
  rcases h.2 with ⟨h', _⟩ | ⟨g', cap', cur, h', hb, hg, hnc, hcm, hcs, htake⟩
  · simp at h'
  · simp only [Value.slice.injEq, Option.some.injEq, Addr.mk.injEq, and_true, true_and] at h'
    obtain ⟨rfl, rfl⟩ := h'
    refine ⟨cur, hg, by omega, fun j hj => ?_⟩
    have e : (cur.toList.take (N * 1))[j]? = some (.int .u8 0) := by
      rw [htake, Nat.mul_one]
      show (madeCells #[Value.int .u8 0] N).toList[j]? = _
      rw [toList_madeCells_one, List.getElem?_replicate, if_pos hj]
    rw [List.getElem?_take, if_pos (by omega)] at e
    simpa using e

theorem len_of_bounds {n m : Nat} (h0 : 1 ≤ m) (h1 : n < 10 ^ m) (h2 : m = 1 ∨ 10 ^ (m - 1) ≤ n) : (decDigits n).length = m := by
  have a1 := (dec_len_le (n := n) (k := m) (by omega)).2 h1
  have a2 := dec_len_pos n
  rcases h2 with h2 | h2
  · omega
  · by_cases hm : m = 1
    · omega
    · have a3 := mt (dec_len_le (n := n) (k := m - 1) (by omega)).1 (by omega)
      omega

set_option maxHeartbeats 3200000 in
set_option maxRecDepth 100000 in
/-- Write returns the numeral. -/
theorem iwrite_any {w : World} {x : Value} {n : Nat} (hx : INum w x n) (hn : ln n ≤ 1000000) :
    Calls Tryz.prog 42 #[x] w fun e w' => e = .returned (.string (dstr n)) ∧ Below w.heap.size w w' := by
  obtain ⟨i0, hi, hz0, hz1, hz2⟩ := info_parts info5
  by_cases h0 : ln n = 0
  · obtain ⟨xa, xc, rfl⟩ := islice_any hx
    have hn0 := ln_eq_zero h0
    have HR := Lib.hid (show (⟨#[48]⟩ : ByteArray) = dstr n by rw [hn0, dstr, dec_small (by omega)]; rfl)
    rw [h0]
    clear h0 hn0
    go_enter Tryz.func42, Tryz.ntmps42
    go_wp2_with fail
    go_ret
    exact ⟨by rw [← HR.out]; rfl, Below.refl _ _⟩
  · obtain ⟨xb, xc, rfl, hxb, hxc⟩ := islice_form hx (by omega)
    obtain ⟨L, hL⟩ : ∃ L, ln n = L := ⟨_, rfl⟩
    have HLT := Lib.hid (show n < 10 ^ (9 * L) by rw [← hL, ← B_pow]; exact lt_pow_ln n)
    have hx' : ∀ j, j < L → w.cell? ⟨xb, j, none⟩ = some (.int .i64 ((dg n j : Nat) : Int)) := fun j hj => hx.cell (by omega)
    have hNZ := Lib.hid (show n ≠ 0 by intro e; rw [e, ln_zero] at h0; exact h0 rfl)
    rw [hL] at h0 hn ⊢
    have HX := Lib.hid hx'
    clear hx hx' hL hxc
    go_enter Tryz.func42, Tryz.ntmps42
    go_wp2_with (at_make; refine wpList_make_full _ rfl _ _ 79 rfl w.heap.size 5 i0 (.int .u8 0) 1 Tryz.underlying79 hi hz0 hz1 _ _ _ _ (9 * L) rfl rfl (by omega) (by omega) (by rw [hz2]; omega) (by unfold maxLen; omega) (by simp) ?_)
    intro w1 hown1 hgrow1
    have harr : BArr w1 w.heap.size (9 * L) (fun _ => 0) := BArr.made (base := w.heap.size) (by rw [Nat.mul_one]; exact hown1)
    have hb1 : Below w.heap.size w w1 := (Below.refl _ _).grown hgrow1 (by simp) (fun k hk => by cases hk)
    clear hown1 hgrow1
    go_wp2
    go_loopw [4] (fun i wr => ∃ (p : Nat) (f : Nat → Nat), p ≤ L ∧ i = .int .i64 p ∧ BArr wr w.heap.size (9 * L) f ∧ Hid (∀ j, j < 9 * p → f j = pb n (9 * L) j) ∧ Below w.heap.size w wr) (fun i _ => L - (intOf i).toNat)
    case atStart => exact ⟨0, _, Nat.zero_le _, rfl, harr, Lib.hid (fun j hj => by omega), hb1⟩
    case round =>
      obtain ⟨p, f, hp, rfl, har, HF, hbr⟩ := hrel
      clear harr hb1
      obtain ⟨wo, rfl⟩ : ∃ wo : World, wo = wr := ⟨_, rfl⟩
      by_cases hlt : p < L
      · obtain ⟨P, hP⟩ : ∃ P, P = L - 1 - p := ⟨_, rfl⟩
        have e1 : ((L : Int) - 1 - (p : Int)) = (P : Int) := by omega
        have c1 : wo.cell? ⟨xb, P, none⟩ = some (.int .i64 ((dg n P : Nat) : Int)) := (hbr.cell (p := ⟨xb, P, none⟩) hxb).trans (HX.out P (by omega))
        have b1 := dg_lt n P
        have HP := Lib.hid hP
        have hPL : P < L := by omega
        clear hP
        go_wp2_with fail
        go_loopw [5, 6] (fun d k wi => ∃ (t : Nat) (f : Nat → Nat), t ≤ 9 ∧ k = .int .i64 (8 - (t : Int)) ∧ d = .int .i64 ((dg n P / 10 ^ t : Nat) : Int) ∧ BArr wi w.heap.size (9 * L) f ∧ Hid (∀ j, j < 9 * p ∨ (9 * p + 9 - t ≤ j ∧ j < 9 * p + 9) → f j = pb n (9 * L) j) ∧ Below w.heap.size w wi) (fun _ k _ => ((intOf k) + 1).toNat)
        case atStart => exact ⟨0, f, Nat.zero_le _, rfl, by simp, har, Lib.hid (fun j hj => HF.out j (by omega)), hbr⟩
        case round =>
          obtain ⟨t, f, ht, rfl, rfl, hai, HG, hbi⟩ := hrel
          clear har hbr c1
          by_cases ht9 : t < 9
          · obtain ⟨K, hK⟩ : ∃ K, K = 8 - t := ⟨_, rfl⟩
            have e2 : (8 - (t : Int)) = (K : Int) := by omega
            have f1 := hai.free (9 * p + K)
            have c2 := hai.cell (show 9 * p + K < 9 * L by omega)
            have hv := Lib.hid (show (48 : Int) + ((dg n P / 10 ^ t : Nat) : Int) % 10 = ((pb n (9 * L) (9 * p + K) : Nat) : Int) by
              have e : 9 * L - 1 - (9 * p + K) = 9 * P + t := by have := HP.out; omega
              rw [pb, e, ← limb_digit n P t ht9]; simp)
            have hw := Lib.hid (show ((dg n P / 10 ^ t : Nat) : Int) / 10 = ((dg n P / 10 ^ (t + 1) : Nat) : Int) by
              rw [Nat.pow_succ, ← Nat.div_div_eq_div_mul]; simp)
            have hdb : dg n P / 10 ^ t ≤ 1000000000 := Nat.le_trans (Nat.div_le_self _ _) (by omega)
            have hpb := pb_bd n (9 * L) (9 * p + K)
            have HK := Lib.hid hK
            have hK8 : K ≤ 8 := by omega
            have HAI := Lib.hid hai
            clear hK hai
            rw [e2]
            generalize dg n P / 10 ^ t = D at *
            go_wp2_with fail
            go_roundw
            case rel => exact ⟨t + 1, _, by omega, by go_num, by rw [hw.out], by rw [hv.out]; exact HAI.out.store (9 * p + K) _, Lib.hid (fun j hj => by
              by_cases e : j = 9 * p + K
              · rw [e, upd_same]
              · rw [upd_other e]
                have := HK.out
                exact HG.out j (by omega)), hbi.setCell (by simp) _⟩
            case measure => simp [intOf]
          · obtain rfl : t = 9 := by omega
            generalize dg n P / 10 ^ 9 = D at *
            go_wp2_with fail
            go_roundw
            case rel => exact ⟨p + 1, f, by omega, by go_num, hai, Lib.hid (fun j hj => HG.out j (by omega)), hbi⟩
            case measure => simp [intOf]; omega
      · obtain rfl : p = L := by omega
        have HC := Lib.hid (show ∀ j, j < 9 * p → wo.cell? ⟨w.heap.size, j, none⟩ = some (.int .u8 ((pb n (9 * p) j : Nat) : Int)) from fun j hj => by
          rw [har.cell hj, HF.out j hj])
        clear har
        go_wp2_with fail
        go_loop [3] (fun s => ∃ k m : Nat, k + m = 9 * p ∧ 1 ≤ m ∧ s = .slice (some ⟨w.heap.size, k, none⟩) m m ∧ Hid (n < 10 ^ m)) (fun s => lenOf s)
        case atStart => exact ⟨0, 9 * p, by omega, by omega, rfl, HLT⟩
        case round =>
          obtain ⟨k, m, hkm, hm1, rfl, HM⟩ := hrel
          have c1 := HC.out k (by omega)
          have hpb := pb_bd n (9 * p) k
          have HE := Lib.hid (show pb n (9 * p) k = 48 + n / 10 ^ (m - 1) % 10 by rw [pb]; congr 4; omega)
          by_cases hgo : 1 < m ∧ pb n (9 * p) k = 48
          · obtain ⟨hm2, hz⟩ := hgo
            rw [hz] at c1
            have HN := Lib.hid (show n < 10 ^ (m - 1) by
              have e := HE.out
              have h1 := HM.out
              obtain ⟨q, hq⟩ : ∃ q, m = q + 1 := ⟨m - 1, by omega⟩
              rw [hq, Nat.pow_succ] at h1
              rw [hq, Nat.add_sub_cancel] at e ⊢
              have h2 : n / 10 ^ q < 10 := (Nat.div_lt_iff_lt_mul (Nat.pow_pos (by omega))).2 (by rw [Nat.mul_comm]; exact h1)
              have h3 : n / 10 ^ q = 0 := by
                generalize n / 10 ^ q = X at h2 e
                omega
              exact (Nat.div_eq_zero_iff_lt (Nat.pow_pos (by omega))).1 h3)
            have hne : ¬ m = 1 := by omega
            clear hz hpb
            go_wp2_with fail
            go_round
            case rel => exact ⟨k + 1, m - 1, by omega, by omega, by simp, HN⟩
            case measure => simp [lenOf]; omega
          · have HLEN := Lib.hid (show (decDigits n).length = m by
              refine len_of_bounds hm1 HM.out ?_
              by_cases h : m = 1
              · exact .inl h
              · have hz : pb n (9 * p) k ≠ 48 := fun e => hgo ⟨by omega, e⟩
                rw [HE.out] at hz
                refine .inr ?_
                by_cases h2 : n < 10 ^ (m - 1)
                · rw [Nat.div_eq_of_lt h2] at hz; exact absurd rfl hz
                · omega)
            have hcv := run_convert_bytes_back (P := Tryz.prog) wo 79 9 5 ⟨w.heap.size, k, none⟩ m (decDigits n) Tryz.underlying79 Tryz.underlying5 Tryz.underlying9 (fun j hj => by
              have hj' : j < m := by rw [← HLEN.out]; exact hj
              rw [Lib.add_plain, HC.out (k + j) (by omega)]
              have hg := dec_get n j hj
              rw [List.getElem?_eq_getElem hj] at hg
              simp only [Option.map_some, Option.some.injEq] at hg
              rw [hg, HLEN.out, pb, pb]
              congr 7
              omega)
            rw [HLEN.out] at hcv
            have HB := Lib.hid hbr
            by_cases hm2 : 1 < m
            · have hz : ((pb n (9 * p) k : Nat) : Int) ≠ 48 := fun e => hgo ⟨hm2, by omega⟩
              have hzb : (((pb n (9 * p) k : Nat) : Int) == 48) = false := by rw [beq_eq_false_iff_ne]; exact hz
              clear hgo hbr
              go_wp2_with fail
              go_ret
              exact ⟨rfl, HB.out⟩
            · clear hgo hbr
              go_wp2_with fail
              go_ret
              exact ⟨rfl, HB.out⟩

end Go.Proofs.YtiocehlefpbbhaaGreatDoor

namespace Go.Proofs.YtiocehlefpbbhaaGreatDoor
open Go.RowKit NV
open Go.Lib (decDigits)

/-- What number returns. -/
def outR (n : Nat) : ByteArray × Nat := if (decDigits n).length ≤ 4000 then (dstr n, 0) else (⟨#[]⟩, 5)
theorem outR_yes {n : Nat} (h : Ok n) : outR n = (dstr n, 0) := if_pos h
theorem outR_no {n : Nat} (h : ¬ Ok n) : outR n = (⟨#[]⟩, 5) := if_neg h

set_option maxHeartbeats 800000 in
theorem inumber_any {w : World} {x : Value} {n : Nat} (hx : INum w x n) (hn : ln n ≤ 1000000) :
    Calls Tryz.prog 30 #[x] w fun e w' => e = .returned (.tuple #[.string (outR n).1, .int .i64 ((outR n).2 : Int)]) ∧ Below w.heap.size w w' := by
  have hw := iwrite_any hx hn
  have HSZ := Lib.hid (dstr_size n)
  by_cases hk : Ok n
  · have h1 : ((dstr n).size : Int) ≤ 4000 := by rw [dstr_size]; unfold Ok at hk; omega
    rw [outR_yes hk]
    have HW := Lib.hid hw
    clear hw hx hk
    go_enter Tryz.func30, Tryz.ntmps30
    go_wp2_with fail
    refine HW.out.mono ?_
    rintro e w1 ⟨rfl, hb1⟩
    have HB := Lib.hid hb1
    clear hb1
    go_wp2_with fail
    go_ret2
    exact ⟨rfl, HB.out⟩
  · have h1 : (4000 : Int) < ((dstr n).size : Int) := by rw [dstr_size]; unfold Ok at hk; omega
    rw [outR_no hk]
    have HW := Lib.hid hw
    clear hw hx hk
    go_enter Tryz.func30, Tryz.ntmps30
    go_wp2_with fail
    refine HW.out.mono ?_
    rintro e w1 ⟨rfl, hb1⟩
    have HB := Lib.hid hb1
    clear hb1
    go_wp2_with fail
    go_ret2
    exact ⟨rfl, HB.out⟩

end Go.Proofs.YtiocehlefpbbhaaGreatDoor

namespace Go.Proofs.YtiocehlefpbbhaaGreatDoor
open Go.RowKit NV
open Go.Lib (decDigits)

/-- A text without error is a numeral. -/
theorem text_of_chk {s : ByteArray} (h : chk s.data.toList = 0) : ∃ a, s = dstr a ∧ Ok a := by
  obtain ⟨h1, h2⟩ := dec_of_chk h
  exact ⟨dv s.data.toList, dstr_of h1.symm, by unfold Ok; rw [h1]; exact h2⟩

set_option maxHeartbeats 800000 in
/-- light tells whether the texts are short enough. -/
theorem light_any (l : List ByteArray) (hl : l.length ≤ 1000) (g c : Nat) (w : World) (hc : ∀ j (h : j < l.length), w.cell? ⟨g, j, none⟩ = some (.string l[j])) :
    Calls Tryz.prog 5 #[.slice (some ⟨g, 0, none⟩) l.length c] w fun e w' => e = .returned (.bool (l.all fun s => decide (s.size ≤ 4100))) ∧ w = w' := by
  obtain ⟨L, hL⟩ : ∃ L, L = l.length := ⟨_, rfl⟩
  have HL := Lib.hid hL
  have HC := Lib.hid hc
  rw [← hL] at hl ⊢
  clear hL hc
  go_enter Tryz.func5, Tryz.ntmps5
  go_wp2_with fail
  go_loop [3] (fun i => ∃ k : Nat, k ≤ L ∧ i = .int .i64 k ∧ Hid (∀ j (h : j < l.length), j < k → l[j].size ≤ 4100)) (fun i => L - (intOf i).toNat)
  case atStart => exact ⟨0, Nat.zero_le _, rfl, Lib.hid (fun j _ h => by omega)⟩
  case round =>
    obtain ⟨k, hk, rfl, HS⟩ := hrel
    by_cases hlt : k < L
    · have hlt2 : k < l.length := by have := HL.out; omega
      have c1 := HC.out k hlt2
      obtain ⟨s, hs⟩ : ∃ s, s = l[k] := ⟨_, rfl⟩
      rw [← hs] at c1
      have HSS := Lib.hid hs
      clear hs
      by_cases hsz : s.size ≤ 4100
      · have hz : ((s.size : Nat) : Int) ≤ 4100 := by omega
        go_wp2_with fail
        go_round
        case rel => exact ⟨k + 1, by omega, by go_num, Lib.hid (fun j hj h => by
          by_cases e : j = k
          · subst e; rw [← HSS.out]; exact hsz
          · exact HS.out j hj (by omega))⟩
        case measure => simp [intOf]; omega
      · have hz : (4100 : Int) < ((s.size : Nat) : Int) := by omega
        have HF := Lib.hid (show false = l.all fun s => decide (s.size ≤ 4100) from (List.all_eq_false.2 ⟨s, by rw [HSS.out]; exact List.getElem_mem _, by simpa using hsz⟩).symm)
        go_wp2_with fail
        go_ret
        exact ⟨ret_bool HF.out, rfl⟩
    · have HT := Lib.hid (show true = l.all fun s => decide (s.size ≤ 4100) from (List.all_eq_true.2 (fun s hs => by
        obtain ⟨j, hj, rfl⟩ := List.mem_iff_getElem.1 hs
        simpa using HS.out j hj (by have := HL.out; omega))).symm)
      go_wp2_with fail
      go_ret
      exact ⟨ret_bool HT.out, rfl⟩

end Go.Proofs.YtiocehlefpbbhaaGreatDoor
