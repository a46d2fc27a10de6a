/-
  The reference's numbers: slices of ints; what trim and Order do.
-/
import Derived.Test.YtiocehlefpbbhaaDoorW5
namespace Go.Proofs.YtiocehlefpbbhaaDoor
open Go.RowKit NV

/-- The slice v reads as the number n: it has as many limbs as n (0 has none, and may be nil). -/
def INum (w : World) (v : Value) (n : Nat) : Prop :=
  ∃ a c, v = .slice a (ln n) c ∧ ((n = 0 ∧ a = none ∧ c = 0) ∨ ∃ b, a = some ⟨b, 0, none⟩ ∧ b < w.heap.size ∧ ln n ≤ c ∧ ∀ j, j < ln n → w.cell? ⟨b, j, none⟩ = some (.int .i64 ((dg n j : Nat) : Int)))

theorem INum.below {w w' : World} {v : Value} {n : Nat} (h : INum w v n) (hb : Below w.heap.size w w') : INum w' v n := by
  obtain ⟨a, c, rfl, h | ⟨b, rfl, h1, h2, h4⟩⟩ := h
  · exact ⟨a, c, rfl, .inl h⟩
  · exact ⟨_, c, rfl, .inr ⟨b, rfl, Nat.lt_of_lt_of_le h1 hb.size, h2, fun j hj => (hb.cell (p := ⟨b, j, none⟩) h1).trans (h4 j hj)⟩⟩

theorem INum.nil (w : World) : INum w (.slice none 0 0) 0 := ⟨none, 0, by rw [ln_zero], .inl ⟨rfl, rfl, rfl⟩⟩

/-- A number's slice. -/
theorem islice_any {w : World} {v : Value} {n : Nat} (h : INum w v n) : ∃ a c, v = .slice a (ln n) c := by
  obtain ⟨a, c, h, _⟩ := h
  exact ⟨a, c, h⟩

/-- A slice with limbs is not nil. -/
theorem INum.addr {w : World} {a : Option Addr} {c n L : Nat} (h : INum w (.slice a L c) n) (h0 : 0 < ln n) : ∃ b, a = some ⟨b, 0, none⟩ := by
  obtain ⟨a', c', h', h | ⟨b, rfl, h1, h2, h4⟩⟩ := h
  · rw [h.1, ln_zero] at h0; omega
  · simp only [Value.slice.injEq] at h'
    exact ⟨b, h'.1⟩

theorem islice_form {w : World} {v : Value} {n : Nat} (h : INum w v n) (h0 : 0 < ln n) : ∃ b c, v = .slice (some ⟨b, 0, none⟩) (ln n) c ∧ b < w.heap.size ∧ ln n ≤ c := by
  obtain ⟨a, c, rfl, h | ⟨b, rfl, h1, h2, h4⟩⟩ := h
  · rw [h.1, ln_zero] at h0; omega
  · exact ⟨b, c, rfl, h1, h2⟩

theorem INum.cell {w : World} {b c n L : Nat} (h : INum w (.slice (some ⟨b, 0, none⟩) L c) n) {j : Nat} (hj : j < ln n) : w.cell? ⟨b, j, none⟩ = some (.int .i64 ((dg n j : Nat) : Int)) := by
  obtain ⟨a', c', h', h | ⟨b', rfl, h1, h2, h3⟩⟩ := h
  · rw [h.1, ln_zero] at hj; omega
  · simp only [Value.slice.injEq, Option.some.injEq, Addr.mk.injEq, and_true] at h'
    obtain ⟨rfl, _, rfl⟩ := h'
    exact h3 j hj

theorem INum.blt {w : World} {b c n L : Nat} (h : INum w (.slice (some ⟨b, 0, none⟩) L c) n) : b < w.heap.size := by
  obtain ⟨a', c', h', h | ⟨b', rfl, h1, h2, h3⟩⟩ := h
  · rw [h.2.1] at h'; simp at h'
  · simp only [Value.slice.injEq, Option.some.injEq, Addr.mk.injEq, and_true] at h'
    omega

set_option maxHeartbeats 400000 in
/-- trim: of L limbs as many are left as the number has. -/
theorem itrim_any {w : World} {b c L n : Nat} (hL : L ≤ 1099511627776) (hLc : L ≤ c) (hn : n < B ^ L) (hcell : ∀ j, j < L → w.cell? ⟨b, j, none⟩ = some (.int .i64 ((dg n j : Nat) : Int))) :
    Calls Tryd.prog 80 #[.slice (some ⟨b, 0, none⟩) L c] w fun e w' => e = .returned (.slice (some ⟨b, 0, none⟩) (ln n) c) ∧ w = w' := by
  have hln := ln_le hn
  go_enter Tryd.func80, Tryd.ntmps80
  go_wp2
  go_loop [0] (fun s => ∃ k : Nat, ln n ≤ k ∧ k ≤ L ∧ s = .slice (some ⟨b, 0, none⟩) k c) (fun s => lenOf s)
  case atStart => exact ⟨L, hln, Nat.le_refl _, rfl⟩
  case round =>
    obtain ⟨k, hk, hkL, rfl⟩ := hrel
    by_cases hk0 : 0 < k
    · have hx := hcell (k - 1) (by omega)
      by_cases hz : dg n (k - 1) = 0
      · have hlt : ln n ≤ k - 1 := by
          refine ln_le (lt_of_dg_zero ?_ hz)
          rw [Nat.sub_add_cancel hk0]
          exact Nat.lt_of_lt_of_le (lt_pow_ln n) (Nat.pow_le_pow_right B_pos hk)
        rw [hz] at hx
        clear hcell hz
        go_wp2
        go_round
        case rel => exact ⟨k - 1, hlt, by omega, rfl⟩
        case measure => simp [lenOf]; omega
      · have he : ln n = k := by
          have := ln_of_top (n := n) (k := k - 1) (by rw [Nat.sub_add_cancel hk0]; exact Nat.lt_of_lt_of_le (lt_pow_ln n) (Nat.pow_le_pow_right B_pos hk)) hz
          omega
        have hzb : (((dg n (k - 1) : Nat) : Int) == 0) = false := by rw [beq_eq_false_iff_ne]; omega
        clear hcell hz
        go_wp2
        go_ret
        exact ⟨rfl, rfl⟩
    · clear hcell
      go_wp2
      go_ret
      exact ⟨ret_slice (by omega), rfl⟩


theorem infoI : (Tryd.prog.info? 3).map (fun i => (i.zero, i.size, i.bytes)) = some (some (.int .i64 0), 1, 8) := by kernel_rfl

/-- Block g is a row of N limbs, limb j being f j. -/
def IArr (w : World) (g N : Nat) (f : Nat → Nat) : Prop :=
  ∃ cur, w.heap[g]? = some (.cells cur 3 (0, 0)) ∧ cur.size = N ∧ ∀ j, j < N → cur[j]? = some (.int .i64 ((f j : Nat) : Int))

theorem IArr.cell {w : World} {g N : Nat} {f : Nat → Nat} (h : IArr w g N f) {j : Nat} (hj : j < N) : w.cell? ⟨g, j, none⟩ = some (.int .i64 ((f j : Nat) : Int)) := by
  obtain ⟨cur, h1, h2, h3⟩ := h
  rw [cell_of_row w g j cur _ _ h1]
  exact h3 j hj

theorem IArr.free {w : World} {g N : Nat} {f : Nat → Nat} (h : IArr w g N f) (j : Nat) : w.frozen? ⟨g, j, none⟩ = false := by
  obtain ⟨cur, h1, h2, h3⟩ := h
  exact frozen_of_row w g j cur _ h1

theorem IArr.lt {w : World} {g N : Nat} {f : Nat → Nat} (h : IArr w g N f) : g < w.heap.size := by
  obtain ⟨cur, h1, h2, h3⟩ := h
  exact (Array.getElem?_eq_some_iff.1 h1).1

theorem IArr.congr {w : World} {g N : Nat} {f f' : Nat → Nat} (h : IArr w g N f) (e : ∀ j, j < N → f j = f' j) : IArr w g N f' := by
  obtain ⟨cur, h1, h2, h3⟩ := h
  exact ⟨cur, h1, h2, fun j hj => by rw [h3 j hj, e j hj]⟩

theorem IArr.store {w : World} {g N : Nat} {f : Nat → Nat} (h : IArr w g N f) (i x : Nat) : IArr (w.setCell ⟨g, i, none⟩ (.int .i64 ((x : Nat) : Int))) g N (upd f i x) := by
  obtain ⟨cur, h1, h2, h3⟩ := h
  refine ⟨cur.setIfInBounds i (.int .i64 ((x : Nat) : Int)), heap_setCell_same w g i cur _ _ h1, by simpa using h2, fun j hj => ?_⟩
  rw [Array.getElem?_setIfInBounds]
  by_cases e : i = j
  · subst e
    rw [if_pos rfl, if_pos (by omega), upd_same]
  · rw [if_neg e, upd_other (fun h => e h.symm)]
    exact h3 j hj

theorem IArr.below {w w' : World} {g N : Nat} {f : Nat → Nat} (h : IArr w g N f) {b : Nat} (hb : Below b w w') (hg : g < b) : IArr w' g N f := by
  obtain ⟨cur, h1, h2, h3⟩ := h
  exact ⟨cur, (hb.block g hg).trans h1, h2, h3⟩

theorem IArr.other {w : World} {g N : Nat} {f : Nat → Nat} (h : IArr w g N f) {a : Addr} (ha : g ≠ a.block) (u : Value) : IArr (w.setCell a u) g N f := by
  obtain ⟨cur, h1, h2, h3⟩ := h
  exact ⟨cur, (heap_setCell_other w a g u ha).trans h1, h2, h3⟩

theorem IArr.drew {w : World} {g N : Nat} {f : Nat → Nat} (h : IArr w g N f) : IArr w.drew g N f := h

/-- What 'make([]uint64, N)' leaves. -/
theorem IArr.made {w : World} {base g N : Nat} (h : w.ownsRow base 3 1 (.slice (some ⟨g, 0, none⟩) N N) N (madeCells (Value.int .i64 0).cells (N * 1)).toList) : IArr w g N (fun _ => 0) := by
  rcases h.2 with ⟨h', _⟩ | ⟨g', cap', cur, h', hb, hg, hnc, hcm, hcs, htake⟩
  · simp at h'
  · simp only [Value.slice.injEq, Option.some.injEq, Addr.mk.injEq, and_true, true_and] at h'
    obtain ⟨rfl, rfl⟩ := h'
    refine ⟨cur, hg, by omega, fun j hj => ?_⟩
    have e : (cur.toList.take (N * 1))[j]? = some (.int .i64 0) := by
      rw [htake, Nat.mul_one]
      show (madeCells #[Value.int .i64 0] N).toList[j]? = _
      rw [toList_madeCells_one, List.getElem?_replicate, if_pos hj]
    rw [List.getElem?_take, if_pos (by omega)] at e
    simpa using e

/-- The slice v of the call's own reads as the number n. -/
def IOwn (w : World) (base : Nat) (v : Value) (n : Nat) : Prop :=
  (∃ g c, v = .slice (some ⟨g, 0, none⟩) (ln n) c) ∧ w.ownsRow base 3 1 v (ln n) ((List.range (ln n)).map (fun j => Value.int .i64 ((dg n j : Nat) : Int)))

theorem IOwn.num {w : World} {base : Nat} {v : Value} {n : Nat} (h : IOwn w base v n) : INum w v n := by
  obtain ⟨⟨g, c, rfl⟩, h⟩ := h
  have h0 := h
  rcases h.2 with ⟨h', hn⟩ | ⟨g', cap, cur, h', hb, hg, hnc, hcm, hcs, htake⟩
  · simp at h'
  · simp only [Value.slice.injEq, Option.some.injEq, Addr.mk.injEq, and_true, true_and] at h'
    obtain ⟨rfl, rfl⟩ := h'
    refine ⟨_, c, rfl, .inr ⟨g, rfl, (Array.getElem?_eq_some_iff.1 hg).1, hnc, fun j hj => ?_⟩⟩
    rw [World.ownsRow.cellAt h0 j (by omega)]
    simp [hj]

theorem IArr.own {w : World} {g N n base : Nat} {f : Nat → Nat} (h : IArr w g N f) (hb : base ≤ g) (hN : N ≤ 1099511627776) (hn : ln n ≤ N) (hf : ∀ j, j < ln n → f j = dg n j) : IOwn w base (.slice (some ⟨g, 0, none⟩) (ln n) N) n := by
  obtain ⟨cur, h1, h2, h3⟩ := h
  refine ⟨⟨g, N, rfl⟩, by simp, .inr ⟨g, N, cur, rfl, hb, h1, hn, by unfold maxLen; omega, by omega, ?_⟩⟩
  apply List.ext_getElem?
  intro j
  by_cases hj : j < ln n
  · rw [List.getElem?_take, if_pos (by omega)]
    simp only [Array.getElem?_toList, List.getElem?_map, List.getElem?_range hj, Option.map_some]
    rw [h3 j (by omega), hf j hj]
  · rw [List.getElem?_take, if_neg (by omega)]
    simp [hj]

theorem IOwn.mono {w : World} {base base' : Nat} {v : Value} {n : Nat} (h : IOwn w base v n) (hb : base' ≤ base) : IOwn w base' v n := by
  obtain ⟨h0, h⟩ := h
  refine ⟨h0, h.1, ?_⟩
  rcases h.2 with h' | ⟨g, cap, cur, rfl, hbg, hg, rest⟩
  · exact .inl h'
  · exact .inr ⟨g, cap, cur, rfl, Nat.le_trans hb hbg, hg, rest⟩

theorem IOwn.below {w w' : World} {base : Nat} {v : Value} {n : Nat} (h : IOwn w base v n) (hb : Below w.heap.size w w') : IOwn w' base v n := by
  obtain ⟨h0, h⟩ := h
  refine ⟨h0, h.1, ?_⟩
  rcases h.2 with h' | ⟨g, cap, cur, rfl, hbg, hg, rest⟩
  · exact .inl h'
  · exact .inr ⟨g, cap, cur, rfl, hbg, (hb.block g (Array.getElem?_eq_some_iff.1 hg).1).trans hg, rest⟩


set_option maxHeartbeats 800000 in
set_option maxRecDepth 100000 in
/-- Order tells how two numbers compare. -/
theorem iorder_any {w : World} {x y : Value} {a b : Nat} (hx : INum w x a) (hy : INum w y b) (ha : ln a ≤ 1073741824) (_hb : ln b ≤ 1073741824) :
    Calls Tryd.prog 77 #[x, y] w fun e w' => e = .returned (.int .i64 (cmpN a b)) ∧ Below w.heap.size w w' := by
  obtain ⟨xa, xc, rfl⟩ := islice_any hx
  obtain ⟨ya, yc, rfl⟩ := islice_any hy
  by_cases hl : ln a = ln b
  · have hlb : ln b ≤ ln a := by omega
    have hla : ln a ≤ ln b := by omega
    obtain ⟨L, hL⟩ : ∃ L, L = ln a := ⟨_, rfl⟩
    have hd0 : a / B ^ L = b / B ^ L := by
      rw [Nat.div_eq_of_lt (by rw [hL]; exact lt_pow_ln a), Nat.div_eq_of_lt (by rw [hL, hl]; exact lt_pow_ln b)]
    rw [← hL] at hl
    rw [← hL, ← hl]
    have HL := Lib.hid hL
    have HL2 := Lib.hid hl
    have hL3 : L ≤ ln a := by omega
    have hL4 : L ≤ ln b := by omega
    have hL5 : L ≤ 1073741824 := by omega
    clear hL hl hla hlb
    go_enter Tryd.func77, Tryd.ntmps77
    go_wp2
    go_loopw [5] (fun i wr => ∃ k : Nat, k ≤ L ∧ i = .int .i64 ((k : Int) - 1) ∧ a / B ^ k = b / B ^ k ∧ Below w.heap.size w wr) (fun i _ => ((intOf i) + 1).toNat)
    case atStart => exact ⟨L, Nat.le_refl _, rfl, hd0, Below.refl _ _⟩
    case round =>
      obtain ⟨k, hk, rfl, hdk, hbr⟩ := hrel
      have HD := Lib.hid hdk
      clear hdk hd0
      by_cases h0 : 0 < k
      · obtain ⟨q, rfl⟩ : ∃ q, k = q + 1 := ⟨k - 1, by omega⟩
        obtain ⟨xb, rfl⟩ := hx.addr (by omega)
        obtain ⟨yb, rfl⟩ := hy.addr (by omega)
        have c1 := (hx.below hbr)
        have c2 := (hy.below hbr)
        have d1 := c1.cell (j := q) (by omega)
        have d2 := c2.cell (j := q) (by omega)
        clear c1 c2
        rcases Nat.lt_trichotomy (dg a q) (dg b q) with he | he | he
        · have HR := Lib.hid (show (-1 : Int) = cmpN a b by rw [cmpN_lt (lt_of_dg HD.out he)])
          have he1 : ((dg a q : Nat) : Int) < ((dg b q : Nat) : Int) := by omega
          clear he
          go_wp2_with fail
          go_quiet (fail)
          go_wp2_with fail
          go_ret
          exact ⟨ret_int HR.out, below_drewN hbr _⟩
        · have HE := Lib.hid (eq_of_dg HD.out he)
          rw [he] at d1
          clear he
          go_wp2_with fail
          go_quiet (fail)
          go_wp2_with fail
          go_quiet (fail)
          go_wp2_with fail
          go_roundw
          case rel => exact ⟨q, by omega, by go_num, HE.out, below_drewN hbr _⟩
          case measure => simp [intOf]
        · have HR := Lib.hid (show (1 : Int) = cmpN a b by rw [cmpN_gt (lt_of_dg HD.out.symm he)])
          have he1 : ((dg b q : Nat) : Int) < ((dg a q : Nat) : Int) := by omega
          have he2 : decide (((dg a q : Nat) : Int) < ((dg b q : Nat) : Int)) = false := decide_eq_false (by omega)
          clear he
          go_wp2_with fail
          go_quiet (fail)
          go_wp2_with fail
          go_quiet (fail)
          go_wp2_with fail
          go_ret
          exact ⟨ret_int HR.out, below_drewN (below_drewN hbr _) _⟩
      · obtain rfl : k = 0 := by omega
        have hab : a = b := by have := HD.out; simpa using this
        have HR := Lib.hid (show (0 : Int) = cmpN a b by rw [hab, cmpN_eq])
        clear hab
        go_wp2_with fail
        go_ret
        exact ⟨ret_int HR.out, hbr⟩
  · have hne : (((ln a : Nat) : Int) != ((ln b : Nat) : Int)) = true := by rw [bne_iff_ne]; omega
    by_cases h : ln a < ln b
    · have HR := Lib.hid (show (-1 : Int) = cmpN a b by rw [cmpN_lt (lt_of_ln_lt h)])
      clear hl
      go_enter Tryd.func77, Tryd.ntmps77
      go_wp2_with fail
      go_ret
      exact ⟨ret_int HR.out, Below.refl _ _⟩
    · have HR := Lib.hid (show (1 : Int) = cmpN a b by rw [cmpN_gt (lt_of_ln_lt (show ln b < ln a by omega))])
      have hge : decide (((ln a : Nat) : Int) < ((ln b : Nat) : Int)) = false := decide_eq_false (by omega)
      clear hl
      go_enter Tryd.func77, Tryd.ntmps77
      go_wp2_with fail
      go_ret
      exact ⟨ret_int HR.out, Below.refl _ _⟩

end Go.Proofs.YtiocehlefpbbhaaDoor
