/-
  The reference's numbers: slices of ints; what trim and Order do. The reference's Read. The reference's scaled and short. The reference's step. The reference's Divide. The reference's Common.
-/
import Derived.Test.YtjpepjooefkbkaaGreatDoorGB
import Derived.Test.YtjpepjooefkbkaaGreatDoorGC
import Derived.Laws.AppendOwn
import Derived.Test.YtjpepjooefkbkaaGreatDoorGD
import Derived.Deep.Cut
import Derived.Deep.CutRange
import Derived.Deep.CutBlock
import Derived.Test.YtjpepjooefkbkaaGreatDoorGA
namespace Go.Proofs.YtjpepjooefkbkaaGreatDoor
open Go.RowKit NV
def INum (w : World) (v : Value) (n : Nat) : Prop :=
 ∃ a c, v = .slice a (ln n) c ∧ ((n = 0 ∧ a = none ∧ c = 0) ∨ ∃ b, a = some ⟨b, 0, none⟩ ∧ b < w.heap.size ∧ ln n ≤ c ∧ ∀ j, j < ln n → w.cell? ⟨b, j, none⟩ = some (.int .i64 ((dg n j : Nat) : Int)))
theorem INum.below {w w' : World} {v : Value} {n : Nat} (h : INum w v n) (hb : Below w.heap.size w w') : INum w' v n := by
 obtain ⟨a, c, rfl, h | ⟨b, rfl, h1, h2, h4⟩⟩ := h
 ·exact ⟨a, c, rfl, .inl h⟩
 ·exact ⟨_, c, rfl, .inr ⟨b, rfl, Nat.lt_of_lt_of_le h1 hb.size, h2, fun j hj => (hb.cell (p := ⟨b, j, none⟩) h1).trans (h4 j hj)⟩⟩
theorem INum.nil (w : World) : INum w (.slice none 0 0) 0 := ⟨none, 0, by rw [ln_zero], .inl ⟨rfl, rfl, rfl⟩⟩
theorem islice_any {w : World} {v : Value} {n : Nat} (h : INum w v n) : ∃ a c, v = .slice a (ln n) c := by
 obtain ⟨a, c, h, _⟩ := h
 exact ⟨a, c, h⟩
theorem INum.addr {w : World} {a : Option Addr} {c n L : Nat} (h : INum w (.slice a L c) n) (h0 : 0 < ln n) : ∃ b, a = some ⟨b, 0, none⟩ := by
 obtain ⟨a', c', h', h | ⟨b, rfl, h1, h2, h4⟩⟩ := h
 ·rw [h.1, ln_zero] at h0; omega
 ·simp only [Value.slice.injEq] at h'
  exact ⟨b, h'.1⟩
theorem islice_form {w : World} {v : Value} {n : Nat} (h : INum w v n) (h0 : 0 < ln n) : ∃ b c, v = .slice (some ⟨b, 0, none⟩) (ln n) c ∧ b < w.heap.size ∧ ln n ≤ c := by
 obtain ⟨a, c, rfl, h | ⟨b, rfl, h1, h2, h4⟩⟩ := h
 ·rw [h.1, ln_zero] at h0; omega
 ·exact ⟨b, c, rfl, h1, h2⟩
theorem INum.cell {w : World} {b c n L : Nat} (h : INum w (.slice (some ⟨b, 0, none⟩) L c) n) {j : Nat} (hj : j < ln n) : w.cell? ⟨b, j, none⟩ = some (.int .i64 ((dg n j : Nat) : Int)) := by
 obtain ⟨a', c', h', h | ⟨b', rfl, h1, h2, h3⟩⟩ := h
 ·rw [h.1, ln_zero] at hj; omega
 ·simp only [Value.slice.injEq, Option.some.injEq, Addr.mk.injEq, and_true] at h'
  obtain ⟨rfl, _, rfl⟩ := h'
  exact h3 j hj
theorem INum.blt {w : World} {b c n L : Nat} (h : INum w (.slice (some ⟨b, 0, none⟩) L c) n) : b < w.heap.size := by
 obtain ⟨a', c', h', h | ⟨b', rfl, h1, h2, h3⟩⟩ := h
 ·rw [h.2.1] at h'; simp at h'
 ·simp only [Value.slice.injEq, Option.some.injEq, Addr.mk.injEq, and_true] at h'
  omega
set_option maxHeartbeats 400000 in
theorem itrim_any {w : World} {b c L n : Nat} (hL : L ≤ 1099511627776) (hLc : L ≤ c) (hn : n < B ^ L) (hcell : ∀ j, j < L → w.cell? ⟨b, j, none⟩ = some (.int .i64 ((dg n j : Nat) : Int))) :
  Calls Tryz.prog 87 #[.slice (some ⟨b, 0, none⟩) L c] w fun e w' => e = .returned (.slice (some ⟨b, 0, none⟩) (ln n) c) ∧ w = w' := by
 have hln := ln_le hn
 go_enter Tryz.func87, Tryz.ntmps87
 go_wp2
 go_loop [0] (fun s => ∃ k : Nat, ln n ≤ k ∧ k ≤ L ∧ s = .slice (some ⟨b, 0, none⟩) k c) (fun s => lenOf s)
 case atStart => exact ⟨L, hln, Nat.le_refl _, rfl⟩
 case round =>
  obtain ⟨k, hk, hkL, rfl⟩ := hrel
  by_cases hk0 : 0 < k
  ·have hx := hcell (k - 1) (by omega)
   by_cases hz : dg n (k - 1) = 0
   ·have hlt : ln n ≤ k - 1 := by
     refine ln_le (lt_of_dg_zero ?_ hz)
     rw [Nat.sub_add_cancel hk0]
     exact Nat.lt_of_lt_of_le (lt_pow_ln n) (Nat.pow_le_pow_right B_pos hk)
    rw [hz] at hx
    clear hcell hz
    go_wp2
    go_round
    case rel => exact ⟨k - 1, hlt, by omega, rfl⟩
    case measure => simp [lenOf]; omega
   ·have he : ln n = k := by
     have := ln_of_top (n := n) (k := k - 1) (by rw [Nat.sub_add_cancel hk0]; exact Nat.lt_of_lt_of_le (lt_pow_ln n) (Nat.pow_le_pow_right B_pos hk)) hz
     omega
    have hzb : (((dg n (k - 1) : Nat) : Int) == 0) = false := by rw [beq_eq_false_iff_ne]; omega
    clear hcell hz
    go_wp2
    go_ret
    exact ⟨rfl, rfl⟩
  ·clear hcell
   go_wp2
   go_ret
   exact ⟨ret_slice (by omega), rfl⟩
theorem infoI : (Tryz.prog.info? 3).map (fun i => (i.zero, i.size, i.bytes)) = some (some (.int .i64 0), 1, 8) := by kernel_rfl
def IArr (w : World) (g N : Nat) (f : Nat → Nat) : Prop :=
 ∃ cur, w.heap[g]? = some (.cells cur 3 (0, 0)) ∧ cur.size = N ∧ ∀ j, j < N → cur[j]? = some (.int .i64 ((f j : Nat) : Int))
theorem IArr.cell {w : World} {g N : Nat} {f : Nat → Nat} (h : IArr w g N f) {j : Nat} (hj : j < N) : w.cell? ⟨g, j, none⟩ = some (.int .i64 ((f j : Nat) : Int)) := by
 obtain ⟨cur, h1, h2, h3⟩ := h
 rw [cell_of_row w g j cur _ _ h1]
 exact h3 j hj
theorem IArr.free {w : World} {g N : Nat} {f : Nat → Nat} (h : IArr w g N f) (j : Nat) : w.frozen? ⟨g, j, none⟩ = false := by
 obtain ⟨cur, h1, h2, h3⟩ := h
 exact frozen_of_row w g j cur _ h1
theorem IArr.lt {w : World} {g N : Nat} {f : Nat → Nat} (h : IArr w g N f) : g < w.heap.size := by
 obtain ⟨cur, h1, h2, h3⟩ := h
 exact (Array.getElem?_eq_some_iff.1 h1).1
theorem IArr.congr {w : World} {g N : Nat} {f f' : Nat → Nat} (h : IArr w g N f) (e : ∀ j, j < N → f j = f' j) : IArr w g N f' := by
 obtain ⟨cur, h1, h2, h3⟩ := h
 exact ⟨cur, h1, h2, fun j hj => by rw [h3 j hj, e j hj]⟩
theorem IArr.store {w : World} {g N : Nat} {f : Nat → Nat} (h : IArr w g N f) (i x : Nat) : IArr (w.setCell ⟨g, i, none⟩ (.int .i64 ((x : Nat) : Int))) g N (upd f i x) := by
 obtain ⟨cur, h1, h2, h3⟩ := h
 refine ⟨cur.setIfInBounds i (.int .i64 ((x : Nat) : Int)), heap_setCell_same w g i cur _ _ h1, by simpa using h2, fun j hj => ?_⟩
 rw [Array.getElem?_setIfInBounds]
 by_cases e : i = j
 ·subst e
  rw [if_pos rfl, if_pos (by omega), upd_same]
 ·rw [if_neg e, upd_other (fun h => e h.symm)]
  exact h3 j hj
theorem IArr.below {w w' : World} {g N : Nat} {f : Nat → Nat} (h : IArr w g N f) {b : Nat} (hb : Below b w w') (hg : g < b) : IArr w' g N f := by
 obtain ⟨cur, h1, h2, h3⟩ := h
 exact ⟨cur, (hb.block g hg).trans h1, h2, h3⟩
theorem IArr.other {w : World} {g N : Nat} {f : Nat → Nat} (h : IArr w g N f) {a : Addr} (ha : g ≠ a.block) (u : Value) : IArr (w.setCell a u) g N f := by
 obtain ⟨cur, h1, h2, h3⟩ := h
 exact ⟨cur, (heap_setCell_other w a g u ha).trans h1, h2, h3⟩
theorem IArr.drew {w : World} {g N : Nat} {f : Nat → Nat} (h : IArr w g N f) : IArr w.drew g N f := h
theorem IArr.made {w : World} {base g N : Nat} (h : w.ownsRow base 3 1 (.slice (some ⟨g, 0, none⟩) N N) N (madeCells (Value.int .i64 0).cells (N * 1)).toList) : IArr w g N (fun _ => 0) := by
 rcases h.2 with ⟨h', _⟩ | ⟨g', cap', cur, h', hb, hg, hnc, hcm, hcs, htake⟩
 ·simp at h'
 ·simp only [Value.slice.injEq, Option.some.injEq, Addr.mk.injEq, and_true, true_and] at h'
  obtain ⟨rfl, rfl⟩ := h'
  refine ⟨cur, hg, by omega, fun j hj => ?_⟩
  have e : (cur.toList.take (N * 1))[j]? = some (.int .i64 0) := by
   rw [htake, Nat.mul_one]
   show (madeCells #[Value.int .i64 0] N).toList[j]? = _
   rw [toList_madeCells_one, List.getElem?_replicate, if_pos hj]
  rw [List.getElem?_take, if_pos (by omega)] at e
  simpa using e
def IOwn (w : World) (base : Nat) (v : Value) (n : Nat) : Prop :=
 (∃ g c, v = .slice (some ⟨g, 0, none⟩) (ln n) c) ∧ w.ownsRow base 3 1 v (ln n) ((List.range (ln n)).map (fun j => Value.int .i64 ((dg n j : Nat) : Int)))
theorem IOwn.num {w : World} {base : Nat} {v : Value} {n : Nat} (h : IOwn w base v n) : INum w v n := by
 obtain ⟨⟨g, c, rfl⟩, h⟩ := h
 have h0 := h
 rcases h.2 with ⟨h', hn⟩ | ⟨g', cap, cur, h', hb, hg, hnc, hcm, hcs, htake⟩
 ·simp at h'
 ·simp only [Value.slice.injEq, Option.some.injEq, Addr.mk.injEq, and_true, true_and] at h'
  obtain ⟨rfl, rfl⟩ := h'
  refine ⟨_, c, rfl, .inr ⟨g, rfl, (Array.getElem?_eq_some_iff.1 hg).1, hnc, fun j hj => ?_⟩⟩
  rw [World.ownsRow.cellAt h0 j (by omega)]
  simp [hj]
theorem IArr.own {w : World} {g N n base : Nat} {f : Nat → Nat} (h : IArr w g N f) (hb : base ≤ g) (hN : N ≤ 1099511627776) (hn : ln n ≤ N) (hf : ∀ j, j < ln n → f j = dg n j) : IOwn w base (.slice (some ⟨g, 0, none⟩) (ln n) N) n := by
 obtain ⟨cur, h1, h2, h3⟩ := h
 refine ⟨⟨g, N, rfl⟩, by simp, .inr ⟨g, N, cur, rfl, hb, h1, hn, by unfold maxLen; omega, by omega, ?_⟩⟩
 apply List.ext_getElem?
 intro j
 by_cases hj : j < ln n
 ·rw [List.getElem?_take, if_pos (by omega)]
  simp only [Array.getElem?_toList, List.getElem?_map, List.getElem?_range hj, Option.map_some]
  rw [h3 j (by omega), hf j hj]
 ·rw [List.getElem?_take, if_neg (by omega)]
  simp [hj]
theorem IOwn.mono {w : World} {base base' : Nat} {v : Value} {n : Nat} (h : IOwn w base v n) (hb : base' ≤ base) : IOwn w base' v n := by
 obtain ⟨h0, h⟩ := h
 refine ⟨h0, h.1, ?_⟩
 rcases h.2 with h' | ⟨g, cap, cur, rfl, hbg, hg, rest⟩
 ·exact .inl h'
 ·exact .inr ⟨g, cap, cur, rfl, Nat.le_trans hb hbg, hg, rest⟩
theorem IOwn.below {w w' : World} {base : Nat} {v : Value} {n : Nat} (h : IOwn w base v n) (hb : Below w.heap.size w w') : IOwn w' base v n := by
 obtain ⟨h0, h⟩ := h
 refine ⟨h0, h.1, ?_⟩
 rcases h.2 with h' | ⟨g, cap, cur, rfl, hbg, hg, rest⟩
 ·exact .inl h'
 ·exact .inr ⟨g, cap, cur, rfl, hbg, (hb.block g (Array.getElem?_eq_some_iff.1 hg).1).trans hg, rest⟩
set_option maxHeartbeats 800000 in
set_option maxRecDepth 100000 in
theorem iorder_any {w : World} {x y : Value} {a b : Nat} (hx : INum w x a) (hy : INum w y b) (ha : ln a ≤ 1073741824) (_hb : ln b ≤ 1073741824) :
  Calls Tryz.prog 53 #[x, y] w fun e w' => e = .returned (.int .i64 (cmpN a b)) ∧ Below w.heap.size w w' := by
 obtain ⟨xa, xc, rfl⟩ := islice_any hx
 obtain ⟨ya, yc, rfl⟩ := islice_any hy
 by_cases hl : ln a = ln b
 ·have hlb : ln b ≤ ln a := by omega
  have hla : ln a ≤ ln b := by omega
  obtain ⟨L, hL⟩ : ∃ L, L = ln a := ⟨_, rfl⟩
  have hd0 : a / B ^ L = b / B ^ L := by
   rw [Nat.div_eq_of_lt (by rw [hL]; exact lt_pow_ln a), Nat.div_eq_of_lt (by rw [hL, hl]; exact lt_pow_ln b)]
  rw [← hL] at hl
  rw [← hL, ← hl]
  have HL := Lib.hid hL
  have HL2 := Lib.hid hl
  have hL3 : L ≤ ln a := by omega
  have hL4 : L ≤ ln b := by omega
  have hL5 : L ≤ 1073741824 := by omega
  clear hL hl hla hlb
  go_enter Tryz.func53, Tryz.ntmps53
  go_wp2
  go_loopw [5] (fun i wr => ∃ k : Nat, k ≤ L ∧ i = .int .i64 ((k : Int) - 1) ∧ a / B ^ k = b / B ^ k ∧ Below w.heap.size w wr) (fun i _ => ((intOf i) + 1).toNat)
  case atStart => exact ⟨L, Nat.le_refl _, rfl, hd0, Below.refl _ _⟩
  case round =>
   obtain ⟨k, hk, rfl, hdk, hbr⟩ := hrel
   have HD := Lib.hid hdk
   clear hdk hd0
   by_cases h0 : 0 < k
   ·obtain ⟨q, rfl⟩ : ∃ q, k = q + 1 := ⟨k - 1, by omega⟩
    obtain ⟨xb, rfl⟩ := hx.addr (by omega)
    obtain ⟨yb, rfl⟩ := hy.addr (by omega)
    have c1 := (hx.below hbr)
    have c2 := (hy.below hbr)
    have d1 := c1.cell (j := q) (by omega)
    have d2 := c2.cell (j := q) (by omega)
    clear c1 c2
    rcases Nat.lt_trichotomy (dg a q) (dg b q) with he | he | he
    ·have HR := Lib.hid (show (-1 : Int) = cmpN a b by rw [cmpN_lt (lt_of_dg HD.out he)])
     have he1 : ((dg a q : Nat) : Int) < ((dg b q : Nat) : Int) := by omega
     clear he
     go_wp2_with fail
     go_quiet (fail)
     go_wp2_with fail
     go_ret
     exact ⟨ret_int HR.out, below_drewN hbr _⟩
    ·have HE := Lib.hid (eq_of_dg HD.out he)
     rw [he] at d1
     clear he
     go_wp2_with fail
     go_quiet (fail)
     go_wp2_with fail
     go_quiet (fail)
     go_wp2_with fail
     go_roundw
     case rel => exact ⟨q, by omega, by go_num, HE.out, below_drewN hbr _⟩
     case measure => simp [intOf]
    ·have HR := Lib.hid (show (1 : Int) = cmpN a b by rw [cmpN_gt (lt_of_dg HD.out.symm he)])
     have he1 : ((dg b q : Nat) : Int) < ((dg a q : Nat) : Int) := by omega
     have he2 : decide (((dg a q : Nat) : Int) < ((dg b q : Nat) : Int)) = false := decide_eq_false (by omega)
     clear he
     go_wp2_with fail
     go_quiet (fail)
     go_wp2_with fail
     go_quiet (fail)
     go_wp2_with fail
     go_ret
     exact ⟨ret_int HR.out, below_drewN (below_drewN hbr _) _⟩
   ·obtain rfl : k = 0 := by omega
    have hab : a = b := by have := HD.out; simpa using this
    have HR := Lib.hid (show (0 : Int) = cmpN a b by rw [hab, cmpN_eq])
    clear hab
    go_wp2_with fail
    go_ret
    exact ⟨ret_int HR.out, hbr⟩
 ·have hne : (((ln a : Nat) : Int) != ((ln b : Nat) : Int)) = true := by rw [bne_iff_ne]; omega
  by_cases h : ln a < ln b
  ·have HR := Lib.hid (show (-1 : Int) = cmpN a b by rw [cmpN_lt (lt_of_ln_lt h)])
   clear hl
   go_enter Tryz.func53, Tryz.ntmps53
   go_wp2_with fail
   go_ret
   exact ⟨ret_int HR.out, Below.refl _ _⟩
  ·have HR := Lib.hid (show (1 : Int) = cmpN a b by rw [cmpN_gt (lt_of_ln_lt (show ln b < ln a by omega))])
   have hge : decide (((ln a : Nat) : Int) < ((ln b : Nat) : Int)) = false := decide_eq_false (by omega)
   clear hl
   go_enter Tryz.func53, Tryz.ntmps53
   go_wp2_with fail
   go_ret
   exact ⟨ret_int HR.out, Below.refl _ _⟩
open Go.RowKit NV
def ilvs (n k : Nat) : List Value := (List.range k).map (fun j => Value.int .i64 ((dg n j : Nat) : Int))
theorem ilvs_succ (n k : Nat) : ilvs n (k + 1) = ilvs n k ++ [.int .i64 ((dg n k : Nat) : Int)] := by simp [ilvs, List.range_succ]
theorem iown_form {w : World} {base n k : Nat} {v : Value} (h : w.ownsRow base 3 1 v k (ilvs n k)) (h0 : v ≠ .slice none 0 0) :
  ∃ g c, v = .slice (some ⟨g, 0, none⟩) k c ∧ base ≤ g ∧ g < w.heap.size ∧ k ≤ c ∧ ∀ j, j < k → w.cell? ⟨g, j, none⟩ = some (.int .i64 ((dg n j : Nat) : Int)) := by
 rcases h.2 with ⟨h', _⟩ | ⟨g, cap, cur, h', hb, hg, hnc, hcm, hcs, htake⟩
 ·exact absurd h' h0
 ·subst h'
  refine ⟨g, cap, rfl, hb, (Array.getElem?_eq_some_iff.1 hg).1, hnc, fun j hj => ?_⟩
  rw [World.ownsRow.cellAt h j (by omega)]
  simp [ilvs, hj]
theorem inum_of {w : World} {g c n k : Nat} (hg : g < w.heap.size) (hk : ln n ≤ k) (hc : k ≤ c) (h : ∀ j, j < k → w.cell? ⟨g, j, none⟩ = some (.int .i64 ((dg n j : Nat) : Int))) : INum w (.slice (some ⟨g, 0, none⟩) (ln n) c) n :=
 ⟨_, c, rfl, .inr ⟨g, rfl, hg, Nat.le_trans hk hc, fun j hj => h j (Nat.lt_of_lt_of_le hj hk)⟩⟩
theorem bt_at (s : ByteArray) (k : Nat) (h : k < s.size) : bt s.data.toList k = (s[k]).toNat := by
 have h2 := byte_at s k h
 unfold bt
 rw [List.getD_eq_getElem?_getD, h2]
 rfl
theorem bt_piece (l : List UInt8) {lo e q : Nat} (h : lo + q < e) : bt ((l.take e).drop lo) q = bt l (lo + q) := by
 unfold bt
 rw [List.getD_eq_getElem?_getD, List.getD_eq_getElem?_getD, List.getElem?_drop, List.getElem?_take, if_pos h]
set_option maxHeartbeats 1600000 in
set_option maxRecDepth 100000 in
theorem iread_any (s : ByteArray) (w : World) (hs0 : 0 < s.size) (hs : s.size ≤ 1000000) (hd : Digs s.data.toList) :
  Calls Tryz.prog 58 #[.string s] w fun e w' => ∃ v, e = .returned v ∧ INum w' v (dv s.data.toList) ∧ Below w.heap.size w w' := by
 obtain ⟨i0, hi, hz0, hz1, hz2⟩ := info_parts infoI
 have HSZ := Lib.hid (Go.Lib.size_eq s)
 obtain ⟨n, hn⟩ : ∃ n, n = dv s.data.toList := ⟨_, rfl⟩
 rw [← hn]
 have HN := Lib.hid hn
 have hown0 : w.ownsRow w.heap.size 3 1 (.slice none 0 0) 0 (ilvs n 0) := World.ownsRow_nil w _ _ _
 have HD := Lib.hid hd
 clear hn hd
 go_enter Tryz.func58, Tryz.ntmps58
 go_wp2_with fail
 go_loopw [3, 4] (fun v e wr => ∃ k : Nat, 9 * k < s.size + 9 ∧ e = .int .i64 ((s.size : Int) - 9 * (k : Int)) ∧ wr.ownsRow w.heap.size 3 1 v k (ilvs n k) ∧ Hid (v = .slice none 0 0 ↔ k = 0) ∧ Below w.heap.size w wr) (fun _ e _ => (intOf e).toNat)
 case atStart => exact ⟨0, by omega, by go_num, hown0, Lib.hid (by simp), Below.refl _ _⟩
 case round =>
  obtain ⟨k, hk, rfl, hown, hnil, hbr⟩ := hrel
  clear hown0
  by_cases hlt : 9 * k < s.size
  ·obtain ⟨e, he⟩ : ∃ e : Nat, e = s.size - 9 * k := ⟨_, rfl⟩
   obtain ⟨lo, hlo⟩ : ∃ lo : Nat, lo = e - 9 := ⟨_, rfl⟩
   have HP := Lib.hid (dv_piece HD.out (e := e) (lo := lo) (k := k) (by rw [← HSZ.out]; omega) hlo)
   obtain ⟨pl, hpl⟩ : ∃ pl, pl = (s.data.toList.take e).drop lo := ⟨_, rfl⟩
   have hplen : pl.length = e - lo := by rw [hpl, List.length_drop, List.length_take, ← HSZ.out]; omega
   have HPL := Lib.hid hpl
   have HLEN := Lib.hid hplen
   have hdp : Digs pl := by rw [hpl]; exact (HD.out.take _).drop _
   have HDP := Lib.hid hdp
   have he1 : (s.size : Int) - 9 * (k : Int) = (e : Int) := by omega
   have he2 : e ≤ s.size := by omega
   have hel : lo ≤ e ∧ e ≤ lo + 9 := by omega
   have hmx : max (0 : Int) ((e : Int) - 9) = (lo : Int) := by omega
   have HE := Lib.hid he
   have HLO := Lib.hid hlo
   rw [he1]
   clear hpl hplen hdp he1 he hlo
   have hc0 : 0 < e := by have := HE.out; omega
   go_wp2_with fail
   go_loop [5, 6] (fun c i => ∃ q : Nat, q ≤ e - lo ∧ i = .int .i64 ((lo : Int) + (q : Int)) ∧ c = .int .i64 ((tv pl q : Nat) : Int)) (fun _ i => e - (intOf i).toNat)
   case atStart => exact ⟨0, Nat.zero_le _, by go_num, rfl⟩
   case round =>
    obtain ⟨q, hq, rfl, rfl⟩ := hrel
    by_cases hqm : lo + q < e
    ·obtain ⟨x, hx⟩ : ∃ x, x = lo + q := ⟨_, rfl⟩
     have hxs : x < s.size := by omega
     have d1 := digs_getD HDP.out (j := q) (by rw [HLEN.out]; omega)
     have d2 := tv_lt HDP.out (j := q) (by omega)
     have hb := bt_at s x hxs
     have hbp : bt pl q = (s[x]).toNat := by rw [HPL.out, bt_piece _ hqm, ← hx, hb]
     rw [hbp] at d1
     have HS := Lib.hid (show 10 * ((tv pl q : Nat) : Int) + (((s[x]).toNat : Nat) - 48 : Int) = ((tv pl (q + 1) : Nat) : Int) by
      rw [tv_succ _ (by rw [HLEN.out]; omega), hbp]; omega)
     have hxi : (lo : Int) + (q : Int) = (x : Int) := by omega
     have hxe : (x : Int) < (e : Int) := by omega
     have hxz : (x : Int) < (s.size : Int) := by omega
     have HXQ := Lib.hid hx
     rw [hxi]
     clear hb hbp hx hxi
     go_wp2_with fail
     go_round
     case rel => exact ⟨q + 1, by omega, congrArg (Value.int .i64) (by have := HXQ.out; omega), by rw [HS.out]⟩
     case measure => simp [intOf]; omega
    ·obtain rfl : q = e - lo := by omega
     have hval : ((tv pl (e - lo) : Nat) : Int) = ((dg n k : Nat) : Int) := by
      rw [tv, List.take_of_length_le (by rw [HLEN.out]; exact Nat.le_refl _), HPL.out, HP.out, HN.out]
     have HVAL := Lib.hid hval
     rw [hval]
     clear hval
     have HNEWS := Lib.hid (cell_one_new wr (.int .i64 ((dg n k : Nat) : Int)) 3 0 (.int .i64 ((dg n k : Nat) : Int)) rfl)
     have hbe : Below wr.heap.size wr (wr.alloc (.cells #[.int .i64 ((dg n k : Nat) : Int)] 3)) := (Below.refl _ _).alloc (Nat.le_refl _) _
     have hsr := hbr.size
     have hownA := owns_below hown hbe
     have hbA := hbr.trans (hbe.mono hsr)
     have hbase : w.heap.size ≤ (wr.alloc (.cells #[.int .i64 ((dg n k : Nat) : Int)] 3)).heap.size := by simp; omega
     clear hown hbr hbe
     go_wp2_with (at_builtin; refine wpList_append_own _ rfl _ _ 59 rfl w.heap.size 3 i0 (.int .i64 0) 1 8 Tryz.underlying59 hi hz0 hz1 hz2 rfl (by decide) _ k _ rfl hownA ⟨wr.heap.size, 0, none⟩ 1 1 [.int .i64 ((dg n k : Nat) : Int)] rfl rfl (by
      intro j u hj
      obtain rfl : j = 0 := by
       have := (List.getElem?_eq_some_iff.1 hj).1
       simpa using this
      simp at hj
      subst hj
      exact HNEWS.out) (by intro u hu; simp at hu; subst hu; rfl) (by unfold maxLen; omega) (by omega) hbase ?_)
     intro v' w3 hown3 hgrow3 hnil3
     rw [← ilvs_succ] at hown3
     have hb3 : Below w.heap.size w w3 := hbA.grown hgrow3 hbase (fun b hb => (World.ownsRow.lt hownA b hb).1)
     have HF := Lib.hid (And.intro hown3 hb3)
     have HNIL := Lib.hid hnil3
     clear hown3 hgrow3 hb3 hnil3 hownA hbA
     go_wp2_with fail
     go_roundw
     case rel => exact ⟨k + 1, by have := HE.out; omega, congrArg (Value.int .i64) (by have := HE.out; omega), HF.out.1, Lib.hid ⟨fun h => absurd h HNIL.out, fun h => by omega⟩, HF.out.2⟩
     case measure => simp [intOf]; omega
  ·have hk1 : k ≠ 0 := by omega
   obtain ⟨g, c, rfl, hg, hgl, hkc, hcell⟩ := iown_form hown (fun e => hk1 (hnil.out.1 e))
   have hln : n < B ^ k := by rw [HN.out]; exact dv_lt_pow HD.out (by rw [← HSZ.out]; omega)
   have HTR := Lib.hid (itrim_any (n := n) (by omega) hkc hln hcell)
   have HF := Lib.hid (And.intro (inum_of hgl (ln_le hln) hkc hcell) hbr)
   clear hown hcell hbr hln
   go_wp2_with fail
   refine HTR.out.mono ?_
   rintro e w4 ⟨rfl, rfl⟩
   go_wp2_with fail
   go_ret
   exact ⟨_, rfl, HF.out.1, HF.out.2⟩
open Go.RowKit NV
set_option maxHeartbeats 1600000 in
set_option maxRecDepth 100000 in
theorem iscaled_any {w : World} {x : Value} {a d : Nat} (hx : INum w x a) (ha : ln a ≤ 1000000) (hd : d ≤ 500000000) :
  Calls Tryz.prog 113 #[x, .int .i64 d] w fun e w' => e = .returned (.slice (some ⟨w.heap.size, 0, none⟩) (ln a + 1) (ln a + 1)) ∧ IArr w' w.heap.size (ln a + 1) (dg (a * d)) ∧ Below w.heap.size w w' := by
 obtain ⟨i0, hi, hz0, hz1, hz2⟩ := info_parts infoI
 obtain ⟨xa, xc, rfl⟩ := islice_any hx
 go_enter Tryz.func113, Tryz.ntmps113
 go_wp2_with (at_make; refine wpList_make_full _ rfl _ _ 59 rfl w.heap.size 3 i0 (.int .i64 0) 1 Tryz.underlying59 hi hz0 hz1 _ _ _ _ (ln a + 1) rfl rfl (by omega) (by omega) (by rw [hz2]; omega) (by unfold maxLen; omega) (by simp) ?_)
 intro w1 hown1 hgrow1
 have harr : IArr w1 w.heap.size (ln a + 1) (dgf (a * d) 0) := by rw [dgf_zero]; exact IArr.made (base := w.heap.size) (by rw [Nat.mul_one]; exact hown1)
 have hb1 : Below w.heap.size w w1 := (Below.refl _ _).grown hgrow1 (by simp) (fun k hk => by cases hk)
 clear hown1 hgrow1
 go_wp2
 go_loopw [6, 7] (fun c i wr => ∃ k : Nat, k ≤ ln a ∧ i = .int .i64 k ∧ c = .int .i64 ((sc a d k : Nat) : Int) ∧ IArr wr w.heap.size (ln a + 1) (dgf (a * d) k) ∧ Below w.heap.size w wr) (fun _ i _ => ln a - (intOf i).toNat)
 case atStart => exact ⟨0, Nat.zero_le _, rfl, by rw [sc_zero]; rfl, harr, hb1⟩
 case round =>
  obtain ⟨k, hk, rfl, rfl, har, hbr⟩ := hrel
  have b3 := sc_le a d k
  have c1 := har.cell (show k < ln a + 1 by omega)
  have c2 := har.free k
  clear harr hb1
  by_cases hlt : k < ln a
  ·obtain ⟨xb, rfl⟩ := hx.addr (by omega)
   have c3 := (hx.below hbr).cell hlt
   have b1 := dg_lt a k
   have b2 : ((dg a k : Nat) : Int) * (d : Int) ≤ 999999999 * 500000000 := by
    have : dg a k * d ≤ 999999999 * 500000000 := Nat.mul_le_mul (by omega) hd
    have e : ((dg a k : Nat) : Int) * (d : Int) = ((dg a k * d : Nat) : Int) := by simp
    omega
   have b4 : 0 ≤ ((dg a k : Nat) : Int) * (d : Int) := by
    have e : ((dg a k : Nat) : Int) * (d : Int) = ((dg a k * d : Nat) : Int) := by simp
    omega
   have hv := Lib.hid (show (((dg a k : Nat) : Int) * (d : Int) + ((sc a d k : Nat) : Int)) % 1000000000 = ((dg (a * d) k : Nat) : Int) by rw [dg_scaled]; simp)
   have hw := Lib.hid (show (((dg a k : Nat) : Int) * (d : Int) + ((sc a d k : Nat) : Int)) / 1000000000 = ((sc a d (k + 1) : Nat) : Int) by rw [sc_succ]; simp)
   go_wp2_with fail
   go_roundw
   case rel => exact ⟨k + 1, by omega, by go_num, by rw [hw.out], by rw [hv.out, ← dgf_step rfl]; exact har.store k _, hbr.setCell (by simp) _⟩
   case measure => simp [intOf]; omega
  ·obtain rfl : k = ln a := by omega
   have ht := Lib.hid (show sc a d (ln a) = dg (a * d) (ln a) by
    rw [dg_scaled_top (lt_pow_ln a) (by omega) (.inr (.inr trivial)), Nat.mod_eq_of_lt (by omega)])
   go_wp2_with fail
   go_ret
   refine ⟨rfl, ?_, hbr.setCell (by simp) _⟩
   rw [ht.out]
   refine ((har.store (ln a) (dg (a * d) (ln a))).congr (f' := dg (a * d)) ?_)
   intro j hj
   rw [dgf_step rfl, dgf, if_pos hj]
set_option maxHeartbeats 1600000 in
set_option maxRecDepth 100000 in
theorem ishort_any {w : World} {x : Value} {a y : Nat} (hx : INum w x a) (ha : ln a ≤ 1000000) (hy1 : 1 ≤ y) (hy2 : y < 1000000000) :
  Calls Tryz.prog 112 #[x, .int .i64 y] w fun e w' => ∃ v, e = .returned (.tuple #[v, .int .i64 ((a % y : Nat) : Int)]) ∧ INum w' v (a / y) ∧ Below w.heap.size w w' := by
 obtain ⟨i0, hi, hz0, hz1, hz2⟩ := info_parts infoI
 obtain ⟨xa, xc, rfl⟩ := islice_any hx
 have hqa : a / y ≤ a := Nat.div_le_self _ _
 have hln : ln (a / y) ≤ ln a := ln_mono hqa
 have hlt0 : a / y < B ^ ln a := Nat.lt_of_le_of_lt hqa (lt_pow_ln a)
 have hr0 : a / B ^ ln a % y = 0 := by rw [Nat.div_eq_of_lt (lt_pow_ln a)]; simp
 obtain ⟨L, hL⟩ : ∃ L, L = ln a := ⟨_, rfl⟩
 rw [← hL] at hln hlt0 hr0 ha ⊢
 have HL := Lib.hid hL
 have hLl : L ≤ ln a := by omega
 have HR0 := Lib.hid hr0
 clear hL hqa hr0
 go_enter Tryz.func112, Tryz.ntmps112
 go_wp2_with (at_make; refine wpList_make_full _ rfl _ _ 59 rfl w.heap.size 3 i0 (.int .i64 0) 1 Tryz.underlying59 hi hz0 hz1 _ _ _ _ L rfl rfl (by omega) (by omega) (by rw [hz2]; omega) (by unfold maxLen; omega) (by simp) ?_)
 intro w1 hown1 hgrow1
 have harr : IArr w1 w.heap.size L (fun _ => 0) := IArr.made (base := w.heap.size) (by rw [Nat.mul_one]; exact hown1)
 have hb1 : Below w.heap.size w w1 := (Below.refl _ _).grown hgrow1 (by simp) (fun k hk => by cases hk)
 clear hown1 hgrow1
 go_wp2
 go_loopw [7, 8] (fun r i wr => ∃ k : Nat, k ≤ L ∧ i = .int .i64 ((k : Int) - 1) ∧ r = .int .i64 ((a / B ^ k % y : Nat) : Int) ∧ IArr wr w.heap.size L (dgu (a / y) k) ∧ Below w.heap.size w wr) (fun _ i _ => ((intOf i) + 1).toNat)
 case atStart => exact ⟨L, Nat.le_refl _, rfl, by rw [HR0.out]; rfl, harr.congr (fun j hj => by rw [dgu, if_neg (by omega)]), hb1⟩
 case round =>
  obtain ⟨k, hk, rfl, rfl, har, hbr⟩ := hrel
  clear harr hb1
  by_cases hk0 : 0 < k
  ·obtain ⟨q, rfl⟩ : ∃ q, k = q + 1 := ⟨k - 1, by omega⟩
   have c1 := har.cell (show q < L by omega)
   have c2 := har.free q
   obtain ⟨xb, rfl⟩ := hx.addr (by omega)
   have c3 := (hx.below hbr).cell (j := q) (by omega)
   have b1 := dg_lt a q
   have b2 : a / B ^ (q + 1) % y < y := Nat.mod_lt _ (by omega)
   have hv := Lib.hid (show (((a / B ^ (q + 1) % y : Nat) : Int) * 1000000000 + ((dg a q : Nat) : Int)) / (y : Int) = ((dg (a / y) q : Nat) : Int) by rw [div_digit a y q (by omega)]; simp)
   have hw := Lib.hid (show (((a / B ^ (q + 1) % y : Nat) : Int) * 1000000000 + ((dg a q : Nat) : Int)) % (y : Int) = ((a / B ^ q % y : Nat) : Int) by rw [div_rest a y q]; simp)
   have hvb := dg_lt (a / y) q
   generalize hX : a / B ^ (q + 1) % y = X at *
   clear hX
   obtain ⟨U, hU, hU2, hU3⟩ : ∃ U : Nat, (X : Int) * 1000000000 + ((dg a q : Nat) : Int) = (U : Int) ∧ U ≤ 1000000000000000000 ∧ (U : Int) / (y : Int) ≤ 1000000000 := by
    refine ⟨X * 1000000000 + dg a q, by simp, by omega, ?_⟩
    have := hv.out
    have e : ((X * 1000000000 + dg a q : Nat) : Int) = (X : Int) * 1000000000 + ((dg a q : Nat) : Int) := by simp
    rw [e, this]; omega
   have hv2 := Lib.hid (show (U : Int) / (y : Int) = ((dg (a / y) q : Nat) : Int) by rw [← hU]; exact hv.out)
   have hw2 := Lib.hid (show (U : Int) % (y : Int) = ((a / B ^ q % y : Nat) : Int) by rw [← hU]; exact hw.out)
   have hU4 : 0 ≤ (U : Int) / (y : Int) := by rw [hv2.out]; omega
   clear hv hw
   go_wp2_with fail
   go_roundw
   case rel => exact ⟨q, by omega, by go_num, by rw [hw2.out], by rw [hv2.out, ← dgu_step rfl]; exact har.store q _, hbr.setCell (by simp) _⟩
   case measure => simp [intOf]
  ·obtain rfl : k = 0 := by omega
   have HC := Lib.hid (show ∀ j, j < L → wr.cell? ⟨w.heap.size, j, none⟩ = some (.int .i64 ((dg (a / y) j : Nat) : Int)) from fun j hj => by
    rw [har.cell hj, dgu, if_pos (Nat.zero_le _)])
   have HR := Lib.hid (show ((a / B ^ 0 % y : Nat) : Int) = ((a % y : Nat) : Int) by simp)
   generalize a / B ^ 0 % y = X at *
   go_wp2_with fail
   refine (itrim_any (n := a / y) (by omega) (Nat.le_refl _) hlt0 HC.out).mono ?_
   rintro e w2 ⟨rfl, rfl⟩
   go_wp2_with fail
   go_ret2
   exact ⟨_, by rw [← HR.out]; rfl, (IArr.own har (by omega) (by omega) hln (fun j hj => by rw [dgu, if_pos (Nat.zero_le _)]) : IOwn _ w.heap.size _ _).num, hbr⟩
open Go.RowKit NV
def ZArr (w : World) (g N : Nat) (f : Nat → Int) : Prop :=
 ∃ cur, w.heap[g]? = some (.cells cur 3 (0, 0)) ∧ cur.size = N ∧ ∀ j, j < N → cur[j]? = some (.int .i64 (f j))
theorem ZArr.cell {w : World} {g N : Nat} {f : Nat → Int} (h : ZArr w g N f) {j : Nat} (hj : j < N) : w.cell? ⟨g, j, none⟩ = some (.int .i64 (f j)) := by
 obtain ⟨cur, h1, h2, h3⟩ := h
 rw [cell_of_row w g j cur _ _ h1]
 exact h3 j hj
theorem ZArr.free {w : World} {g N : Nat} {f : Nat → Int} (h : ZArr w g N f) (j : Nat) : w.frozen? ⟨g, j, none⟩ = false := by
 obtain ⟨cur, h1, h2, h3⟩ := h
 exact frozen_of_row w g j cur _ h1
theorem ZArr.store {w : World} {g N : Nat} {f f' : Nat → Int} (h : ZArr w g N f) (i : Nat) (x : Int) (h0 : f' i = x) (h1 : ∀ j, j < N → j ≠ i → f' j = f j) : ZArr (w.setCell ⟨g, i, none⟩ (.int .i64 x)) g N f' := by
 obtain ⟨cur, e1, e2, e3⟩ := h
 refine ⟨cur.setIfInBounds i (.int .i64 x), heap_setCell_same w g i cur _ _ e1, by simpa using e2, fun j hj => ?_⟩
 rw [Array.getElem?_setIfInBounds]
 by_cases e : i = j
 ·subst e
  rw [if_pos rfl, if_pos (by omega), h0]
 ·rw [if_neg e, h1 j hj (fun h => e h.symm)]
  exact e3 j hj
theorem IArr.z {w : World} {g N : Nat} {f : Nat → Nat} (h : IArr w g N f) : ZArr w g N (fun j => ((f j : Nat) : Int)) := h
theorem ZArr.i {w : World} {g N : Nat} {f : Nat → Int} {f' : Nat → Nat} (h : ZArr w g N f) (e : ∀ j, j < N → f j = ((f' j : Nat) : Int)) : IArr w g N f' := by
 obtain ⟨cur, h1, h2, h3⟩ := h
 exact ⟨cur, h1, h2, fun j hj => by rw [h3 j hj, e j hj]⟩
theorem INum.kept {w w' : World} {yb yc L v g R : Nat} (h : INum w (.slice (some ⟨yb, 0, none⟩) L yc) v) (hk : Kept g R w w') (hR : yb < R) (hg : yb ≠ g) : INum w' (.slice (some ⟨yb, 0, none⟩) L yc) v := by
 obtain ⟨a', c', h', h | ⟨b', rfl, h1, h2, h3⟩⟩ := h
 ·rw [h.2.1] at h'; simp at h'
 ·simp only [Value.slice.injEq, Option.some.injEq, Addr.mk.injEq, and_true] at h'
  obtain ⟨rfl, rfl, rfl⟩ := h'
  exact ⟨_, yc, rfl, .inr ⟨yb, rfl, Nat.lt_of_lt_of_le h1 hk.size, h2, fun j hj => (hk.cell (p := ⟨yb, j, none⟩) hR hg).trans (h3 j hj)⟩⟩
theorem go_rem (T x b : Int) (hx0 : 0 ≤ x) (hx1 : x < 1000000000) (h : x - T = 1000000000 * b) : Int.tmod T 1000000000 % 1000000000 = x ∧ Int.tdiv (x - T) 1000000000 = b := by
 refine ⟨?_, by rw [h]; exact Int.mul_tdiv_cancel_left _ (by omega)⟩
 by_cases h0 : 0 ≤ T
 ·rw [Int.tmod_eq_emod_of_nonneg h0]; omega
 ·obtain ⟨U, hU⟩ : ∃ U, T = -U := ⟨-T, by omega⟩
  rw [hU, Int.neg_tmod, Int.tmod_eq_emod_of_nonneg (by omega)]
  omega
theorem Kept.drew' {w wr : World} {g : Nat} (h : Kept g w.heap.size w wr) (q : Nat) : Kept g w.heap.size w (wr.drewN q) :=
 have hq := below_drewN (Below.refl wr.heap.size wr) q
 h.trans ⟨hq.os, hq.tape, hq.output, hq.size, fun k h1 _ => hq.block k (Nat.lt_of_lt_of_le h1 h.size)⟩
def zb (f : Nat → Nat) (i n D v k : Nat) : Nat → Int := fun j => if j = i + (n + 2) then -1 else ((ovr (ovr f i (n + 2) D) i k (D + v) j : Nat) : Int)
theorem zb_here {f : Nat → Nat} {i n D v k : Nat} (hk : k < n + 2) : zb f i n D v k (i + k) = ((dg D k : Nat) : Int) := by
 rw [zb, if_neg (by omega), ovr_past (Nat.le_refl _), ovr, if_pos (by omega), Nat.add_sub_cancel_left]
theorem zb_last {f : Nat → Nat} {i n D v k : Nat} : zb f i n D v k (i + (n + 2)) = -1 := if_pos rfl
theorem zb_next {f : Nat → Nat} {i n D v k : Nat} (hk : k < n + 2) : zb f i n D v (k + 1) (i + k) = ((dg (D + v) k : Nat) : Int) ∧ ∀ j, j ≠ i + k → zb f i n D v (k + 1) j = zb f i n D v k j := by
 constructor
 ·rw [zb, if_neg (by omega), ← ovr_next (S := D + v) (x := dg (D + v) k) rfl, upd_same]
 ·intro j hj
  rw [zb, zb]
  by_cases e : j = i + (n + 2)
  ·rw [if_pos e, if_pos e]
  ·rw [if_neg e, if_neg e, ← ovr_next (S := D + v) (x := dg (D + v) k) rfl, upd_other hj]
theorem zb_end {f : Nat → Nat} {i n D v R : Nat} (hR : R < B ^ (n + 2)) (hS : D + v = R + B ^ (n + 2)) (j : Nat) : (if j = i + (n + 2) then (0 : Int) else zb f i n D v (n + 2) j) = ((ovr f i (n + 3) R j : Nat) : Int) := by
 by_cases e : j = i + (n + 2)
 ·rw [if_pos e, ovr, if_pos (by omega), e, Nat.add_sub_cancel_left, dg_big hR]; rfl
 ·rw [if_neg e, zb, if_neg e]
  congr 1
  unfold ovr
  by_cases h1 : i ≤ j ∧ j < i + (n + 2)
  ·rw [if_pos h1, if_pos (by omega), hS]
   have := dg_add_mul (a := R) (b := 1) (k := n + 2) (j := j - i) (by omega)
   rw [Nat.mul_one] at this
   exact this
  ·rw [if_neg h1, if_neg h1, if_neg (by omega)]
theorem take_last {X v f n D br : Nat} (hv : v < B ^ n) (hX : X < B ^ (n + 1)) (he : X % B ^ n + B ^ n * br = D + (v % B ^ n) * f) :
  (f = X / v → D = X % v → br = dg X n) ∧ (f = X / v + 1 → D + v = X % v + B ^ n → br = dg X n + 1) := by
 rw [Nat.mod_eq_of_lt hv] at he
 have h1 := mod_succ X n
 rw [Nat.mod_eq_of_lt hX] at h1
 have h2 := Nat.mod_add_div X v
 constructor
 ·intro hf hD
  subst hf
  have h3 : B ^ n * br = B ^ n * dg X n := by omega
  exact Nat.eq_of_mul_eq_mul_left (pow_pos n) h3
 ·intro hf hD
  subst hf
  rw [Nat.mul_add] at he
  have h3 : B ^ n * br = B ^ n * (dg X n + 1) := by rw [Nat.mul_add]; omega
  exact Nat.eq_of_mul_eq_mul_left (pow_pos n) h3
theorem ca_over {D v n : Nat} (hD : D < B ^ n) (hv : v < B ^ n) (h : B ^ n ≤ D + v) : ca D v n = 1 := by
 rw [ca, Nat.mod_eq_of_lt hD, Nat.mod_eq_of_lt hv]
 exact Nat.div_eq_of_lt_le (by omega) (by omega)
theorem kept_of_below {w w' : World} {g : Nat} (h : Below w.heap.size w w') : Kept g w.heap.size w w' := ⟨h.os, h.tape, h.output, h.size, fun k h1 _ => h.block k h1⟩
set_option maxHeartbeats 6400000 in
set_option maxRecDepth 100000 in
theorem istep_any {w : World} {g N i n c X v yb yc : Nat} {f : Nat → Nat} (har : IArr w g N f) (hN : N ≤ 2000000) (hin : i + (n + 2) + 1 ≤ N)
  (hfx : ∀ j, j ≤ n + 2 → f (i + j) = dg X j) (hy : INum w (.slice (some ⟨yb, 0, none⟩) (n + 2) yc) v) (hn : n + 2 = ln v) (hyg : yb ≠ g) (hh : 500000000 ≤ dg v (n + 1)) (hX : X < 1000000000 * v) :
  Calls Tryz.prog 114 #[.slice (some ⟨g, i, none⟩) (n + 2 + 1) c, .slice (some ⟨yb, 0, none⟩) (n + 2) yc] w fun e w' =>
   e = .returned (.int .i64 ((X / v : Nat) : Int)) ∧ IArr w' g N (ovr f i (n + 3) (X % v)) ∧ Kept g w.heap.size w w' := by
 have hv : v < B ^ (n + 2) := by rw [hn]; exact lt_pow_ln v
 have hv0 : 0 < v := by
  by_cases h : v = 0
  ·subst h; rw [ln_zero] at hn; omega
  ·omega
 have hX3 : X < B ^ (n + 2 + 1) := by
  rw [pow_succ, Nat.mul_comm, B_eq]
  rw [B_eq] at hv
  exact Nat.lt_of_lt_of_le hX (Nat.mul_le_mul_left _ (Nat.le_of_lt hv))
 have hfx0 := hfx n (by omega)
 have hfx1 := hfx (n + 1) (by omega)
 have hfx2 := hfx (n + 2) (by omega)
 have c0 := har.cell (j := i + n) (by omega)
 have c1 := har.cell (j := i + (n + 1)) (by omega)
 have c2 := har.cell (j := i + (n + 2)) (by omega)
 rw [hfx0] at c0
 rw [hfx1] at c1
 rw [hfx2] at c2
 have d1 := hy.cell (j := n + 1) (by omega)
 have d0 := hy.cell (j := n) (by omega)
 have htop : X / B ^ (n + 1) = dg X (n + 2) * 1000000000 + dg X (n + 1) := by
  rw [next_limb X (n + 1)]
  congr 2
  rw [dg, Nat.mod_eq_of_lt ((Nat.div_lt_iff_lt_mul (pow_pos _)).2 (by rw [Nat.mul_comm, ← pow_succ]; exact hX3))]
 have hst := Gs.start hv hh hX hv0
 rw [htop] at hst
 have b0 := dg_lt X n
 have b1 := dg_lt X (n + 1)
 have b2 := dg_lt X (n + 2)
 have e1 := dg_lt v (n + 1)
 have e0 := dg_lt v n
 have hgl := har.lt
 have hybw : yb < w.heap.size := hy.blt
 have hr0 : (dg X (n + 2) * 1000000000 + dg X (n + 1)) % dg v (n + 1) < 1000000000 := by
  have := Nat.mod_lt (dg X (n + 2) * 1000000000 + dg X (n + 1)) (show 0 < dg v (n + 1) by omega); omega
 have hgh0 := hst.high
 obtain ⟨T, hT⟩ : ∃ T : Nat, T = dg X (n + 2) * 1000000000 + dg X (n + 1) := ⟨_, rfl⟩
 rw [← hT] at hst hr0 hgh0
 have hTc : ((dg X (n + 2) : Nat) : Int) * 1000000000 + ((dg X (n + 1) : Nat) : Int) = (T : Int) := by omega
 have HQ1 := Lib.hid (show (((dg X (n + 2) : Nat) : Int) * 1000000000 + ((dg X (n + 1) : Nat) : Int)) / ((dg v (n + 1) : Nat) : Int) = ((T / dg v (n + 1) : Nat) : Int) by rw [hTc, Int.natCast_ediv])
 have HQ2 := Lib.hid (show (((dg X (n + 2) : Nat) : Int) * 1000000000 + ((dg X (n + 1) : Nat) : Int)) % ((dg v (n + 1) : Nat) : Int) = ((T % dg v (n + 1) : Nat) : Int) by rw [hTc, Int.natCast_emod])
 have hqb : (((dg X (n + 2) : Nat) : Int) * 1000000000 + ((dg X (n + 1) : Nat) : Int)) / ((dg v (n + 1) : Nat) : Int) ≤ 1000000001 := by rw [HQ1.out]; omega
 have hqc : 0 ≤ (((dg X (n + 2) : Nat) : Int) * 1000000000 + ((dg X (n + 1) : Nat) : Int)) / ((dg v (n + 1) : Nat) : Int) := by rw [HQ1.out]; exact Int.natCast_nonneg _
 have HST := Lib.hid (show Gs X v n (T / dg v (n + 1)) (T % dg v (n + 1)) ∧ T % dg v (n + 1) < 2000000000 from ⟨hst, by omega⟩)
 have HV := Lib.hid hv
 have HV0 := Lib.hid hv0
 have HX := Lib.hid hX
 have HX3 := Lib.hid hX3
 have HN := Lib.hid hn
 have HY := Lib.hid hy
 have HFX := Lib.hid hfx
 have HARR := Lib.hid har
 clear hT hTc hst hv hv0 hX hX3 hn hy hfx har htop hfx0 hfx1 hfx2 hr0 hgh0
 go_enter Tryz.func114, Tryz.ntmps114
 go_wp2_with fail
 go_quiet (fail)
 go_wp2_with fail
 go_quiet (fail)
 go_upto_block 0 with fail
 go_cut [7, 8] from 43 to 75 (fun s7 s8 wx => ∃ gq : Nat, s7 = .int .i64 (gq : Int) ∧ X / v ≤ gq ∧ gq ≤ X / v + 1 ∧ gq < 1000000000 ∧ Below w.heap.size w wx)
 case first =>
  go_wp2_with fail
  go_loopw [7, 8] (fun s7 s8 wr => ∃ gq r : Nat, s7 = .int .i64 (gq : Int) ∧ s8 = .int .i64 (r : Int) ∧ Gs X v n gq r ∧ r < 2000000000 ∧ Below w.heap.size w wr) (fun s7 _ _ => (intOf s7).toNat)
  case atStart => exact ⟨T / dg v (n + 1), T % dg v (n + 1), by rw [HQ1.out], by rw [HQ2.out], HST.out.1, HST.out.2, below_drewN (below_drewN (Below.refl _ _) _) _⟩
  case round =>
   obtain ⟨gq, r, rfl, rfl, hgs, hr, hbr⟩ := hrel
   clear HST HQ1 HQ2 c0 c1 c2 d0 d1 hqb hqc
   have harr := HARR.out.below hbr hgl
   have hyr := HY.out.below hbr
   have hfxo := HFX.out
   have c0 := harr.cell (j := i + n) (by omega)
   rw [hfxo n (by omega)] at c0
   have d1 := hyr.cell (j := n + 1) (by rw [← HN.out]; omega)
   have d0 := hyr.cell (j := n) (by rw [← HN.out]; omega)
   have hgh := hgs.high
   have HG := Lib.hid hgs
   clear hfxo hyr hgs
   by_cases hrB : 1000000000 ≤ r
   ·have hd1 : decide ((r : Int) < 1000000000) = false := by simp; omega
    have HD := Lib.hid (HG.out.done HV.out hh HX.out HV0.out (.inl hrB))
    as_aux_lemma =>
     go_wp2_with fail
     go_quiet (fail)
     go_wp2_with fail
     go_meet
     exact ⟨gq, rfl, HG.out.low, HD.out.2, HD.out.1, below_drewN hbr _⟩
   ·have hd1 : decide ((r : Int) < 1000000000) = true := by simp; omega
    have hr2 : (r : Int) < 1000000000 := by omega
    by_cases hgB : 1000000000 ≤ gq
    ·have hd2 : decide ((1000000000 : Int) ≤ (gq : Int)) = true := by simp; omega
     have hlow := HG.out.less HV.out HX.out HV0.out (.inl hgB)
     have HNX := Lib.hid (HG.out.next hlow)
     have hg1 : 1 ≤ gq := Nat.lt_of_le_of_lt (Nat.zero_le _) hlow
     clear hlow
     as_aux_lemma =>
      go_wp2_with fail
      go_quiet (fail)
      go_wp2_with fail
      go_quiet (fail)
      go_wp2_with fail
      go_roundw
      case rel => exact ⟨gq - 1, r + dg v (n + 1), congrArg (Value.int .i64) (by omega), congrArg (Value.int .i64) (by omega), HNX.out, by omega, below_drewN (below_drewN hbr _) _⟩
      case measure => simp [intOf]; omega
    ·have hd2 : decide ((1000000000 : Int) ≤ (gq : Int)) = false := by simp; omega
     obtain ⟨p1, p2, p3⟩ := nat_prod gq (dg v n) 1000000000 1000000000 (by omega) (by omega)
     have HP := Lib.hid p3
     have hgB2 : (gq : Int) < 1000000000 := by omega
     clear p3
     by_cases ht : r * 1000000000 + dg X n < gq * dg v n
     ·have hlow := HG.out.less HV.out HX.out HV0.out (.inr ht)
      have HNX := Lib.hid (HG.out.next hlow)
      have hg1 : 1 ≤ gq := Nat.lt_of_le_of_lt (Nat.zero_le _) hlow
      have hd3 : decide ((r : Int) * 1000000000 + ((dg X n : Nat) : Int) < (gq : Int) * ((dg v n : Nat) : Int)) = true := by rw [HP.out]; simp; omega
      clear hlow ht
      as_aux_lemma =>
       go_wp2_with fail
       go_quiet (fail)
       go_wp2_with fail
       go_quiet (fail)
       go_wp2_with fail
       go_roundw
       case rel => exact ⟨gq - 1, r + dg v (n + 1), congrArg (Value.int .i64) (by omega), congrArg (Value.int .i64) (by omega), HNX.out, by omega, below_drewN (below_drewN hbr _) _⟩
       case measure => simp [intOf]; omega
     ·have HD := Lib.hid (HG.out.done HV.out hh HX.out HV0.out (.inr ⟨by omega, by omega⟩))
      have hd3 : decide ((r : Int) * 1000000000 + ((dg X n : Nat) : Int) < (gq : Int) * ((dg v n : Nat) : Int)) = false := by rw [HP.out]; simp; omega
      clear ht
      as_aux_lemma =>
       go_wp2_with fail
       go_quiet (fail)
       go_wp2_with fail
       go_meet
       exact ⟨gq, rfl, HG.out.low, HD.out.2, HD.out.1, below_drewN hbr _⟩
 case rest =>
  obtain ⟨gq, rfl, hg1, hg2, hgq, hbc⟩ := hcut
  have HGQ := Lib.hid (And.intro hg1 hg2)
  have HARC := Lib.hid (HARR.out.below hbc hgl)
  have HKC := Lib.hid (kept_of_below (g := g) hbc)
  clear hg1 hg2 hbc c0 c1 c2 d0 d1 hqb hqc HST HQ1 HQ2 HARR
  go_wp2_with fail
  go_loopw [9, 10] (fun s9 s10 wr => ∃ k D br : Nat, k ≤ n + 2 ∧ s10 = .int .i64 k ∧ s9 = .int .i64 (br : Int) ∧ br ≤ 1000000000 ∧ D < B ^ k ∧ X % B ^ k + B ^ k * br = D + (v % B ^ k) * gq ∧ IArr wr g N (ovr f i k D) ∧ Kept g w.heap.size w wr) (fun _ s10 _ => n + 2 - (intOf s10).toNat)
  case atStart => exact ⟨0, 0, 0, Nat.zero_le _, rfl, rfl, by omega, by simp, by simp [Nat.mod_one], by rw [ovr_zero]; exact HARC.out, HKC.out⟩
  case round =>
   obtain ⟨k, D, br, hk, rfl, rfl, hbr, hD, he, har, hkp⟩ := hrel
   have HE := Lib.hid he
   have HD := Lib.hid hD
   clear he hD
   by_cases hlt : k < n + 2
   ·have c1 := har.cell (show i + k < N by omega)
    rw [ovr_past (Nat.le_refl _), HFX.out k (by omega)] at c1
    have c2 := har.free (i + k)
    have c3 : wr.cell? ⟨yb, k, none⟩ = some (.int .i64 ((dg v k : Nat) : Int)) := (hkp.cell (p := ⟨yb, k, none⟩) hybw hyg).trans (HY.out.cell (by rw [← HN.out]; exact hlt))
    have b1 := dg_lt X k
    obtain ⟨p1, p2, p3⟩ := nat_prod gq (dg v k) 1000000000 999999999 (by omega) (by have := dg_lt v k; omega)
    have HP3 := Lib.hid p3
    obtain ⟨P, hP⟩ : ∃ P : Nat, P = dg v k * gq + br := ⟨_, rfl⟩
    have HP := Lib.hid hP
    have hPi : ((gq : Int) * ((dg v k : Nat) : Int)) = (P : Int) - (br : Int) := by rw [HP3.out, hP, Nat.mul_comm]; omega
    obtain ⟨x', hx'⟩ : ∃ x' : Nat, x' + P % 1000000000 = dg X k + (if dg X k < P % 1000000000 then 1000000000 else 0) := ⟨dg X k + (if dg X k < P % 1000000000 then 1000000000 else 0) - P % 1000000000, by split <;> omega⟩
    obtain ⟨br', hbr'⟩ : ∃ br' : Nat, br' = P / 1000000000 + (if dg X k < P % 1000000000 then 1 else 0) := ⟨_, rfl⟩
    have HT := Lib.hid (take_step (x' := x') (br' := br') HD.out HE.out HP.out rfl hx' hbr')
    have hxb : x' < 1000000000 := by split at hx' <;> omega
    have hPb : P ≤ 999999999 * 1000000000 + 1000000000 := by
     have : dg v k * gq ≤ 999999999 * 1000000000 := Nat.mul_le_mul (by have := dg_lt v k; omega) (by omega)
     omega
    have hbb : br' ≤ 1000000000 := by split at hbr' <;> omega
    have hdiff : (x' : Int) - (((dg X k : Nat) : Int) - (P : Int)) = 1000000000 * (br' : Int) := by
     split at hx' <;> rename_i hc
     ·rw [if_pos hc] at hbr'; omega
     ·rw [if_neg hc] at hbr'; omega
    have hgr := go_rem _ _ _ (by omega) (by omega) hdiff
    have e5 : ((dg X k : Nat) : Int) - (br : Int) - (gq : Int) * ((dg v k : Nat) : Int) = ((dg X k : Nat) : Int) - (P : Int) := by rw [hPi]; omega
    rw [← e5] at hgr
    have HR1 := Lib.hid hgr.1
    have hgr2 := hgr.2
    rw [← hgr.1] at hgr2
    have HR2 := Lib.hid hgr2
    have hm0 : -1000000000 < Int.tmod (((dg X k : Nat) : Int) - (br : Int) - (gq : Int) * ((dg v k : Nat) : Int)) 1000000000 := Int.lt_tmod_of_pos _ (by omega)
    have hm1 : Int.tmod (((dg X k : Nat) : Int) - (br : Int) - (gq : Int) * ((dg v k : Nat) : Int)) 1000000000 < 1000000000 := Int.tmod_lt_of_pos _ (by omega)
    clear hgr2
    have HX' := Lib.hid (And.intro hx' (And.intro hbr' hdiff))
    clear hgr hdiff hx' hbr' hPi p3 hP e5
    go_wp2_with fail
    go_quiet (fail)
    go_wp2_with fail
    go_roundw
    case rel => exact ⟨k + 1, D + B ^ k * x', br', by omega, by go_num, by rw [HR2.out], hbb, HT.out.1, HT.out.2, by rw [HR1.out, ← ovr_step HD.out hxb]; exact (show IArr (wr.drewN nq) g N (ovr f i k D) from har).store (i + k) _, (Kept.drew' hkp nq).setCell (.inl rfl) _⟩
    case measure => simp [intOf]; omega
   ·obtain rfl : k = n + 2 := by omega
    have c1 := har.cell (show i + (n + 2) < N by omega)
    rw [ovr_past (Nat.le_refl _), HFX.out (n + 2) (Nat.le_refl _)] at c1
    have c2 := har.free (i + (n + 2))
    have hte := take_end HV.out HX3.out HV0.out HD.out HE.out HGQ.out.1 HGQ.out.2
    have htl := take_last HV.out HX3.out HE.out
    have hXv := Nat.lt_trans (Nat.mod_lt X HV0.out) HV.out
    have HXV := Lib.hid hXv
    have HAR := Lib.hid har
    have hdxb := dg_lt X (n + 2)
    generalize dg X (n + 2) = dx at c1 hte htl hdxb b2
    clear hXv har
    by_cases hle : br ≤ dx
    ·obtain ⟨hf, hdd⟩ := hte.1 hle
     have hbe := htl.1 hf hdd
     subst hbe
     have HF := Lib.hid hf
     have HZ := Lib.hid (show ∀ wz, wz.heap = wr.heap → IArr (wz.setCell ⟨g, i + (n + 2), none⟩ (.int .i64 0)) g N (ovr f i (n + 3) (X % v)) from fun wz hz =>
      ((show IArr wz g N (ovr f i (n + 2) D) by obtain ⟨cur, h1, h2, h3⟩ := HAR.out; exact ⟨cur, by rw [hz]; exact h1, h2, h3⟩).store (i + (n + 2)) 0).congr (fun j _ => by rw [hdd]; exact ovr_fin1 HXV.out j))
     have hz0 : (br : Int) - (br : Int) = 0 := by omega
     have HKP := Lib.hid hkp
     clear hte htl hf hdd hle hkp
     go_wp2_with fail
     go_loopw [7] (fun s7 wz => s7 = .int .i64 (gq : Int) ∧ IArr wz g N (ovr f i (n + 3) (X % v)) ∧ Kept g w.heap.size w wz) (fun _ _ => 0)
     case atStart => exact ⟨rfl, HZ.out _ rfl, HKP.out.setCell (.inl rfl) _⟩
     case round =>
      obtain ⟨rfl, hfin, hkz⟩ := hrel
      clear HZ HKP HAR HARC HKC
      have cz := hfin.cell (show i + (n + 2) < N by omega)
      rw [ovr, if_pos (by omega), Nat.add_sub_cancel_left, dg_big HXV.out] at cz
      have HFIN := Lib.hid (And.intro hfin hkz)
      clear hfin hkz
      go_wp2_with fail
      go_ret
      exact ⟨ret_int (by rw [← HF.out]), HFIN.out.1, HFIN.out.2⟩
    ·obtain ⟨hf, hdd⟩ := hte.2 hle
     have hbe := htl.2 hf hdd
     subst hbe
     have HF := Lib.hid hf
     have HDD := Lib.hid hdd
     have HZ := Lib.hid (show ∀ wz, wz.heap = wr.heap → ZArr (wz.setCell ⟨g, i + (n + 2), none⟩ (.int .i64 (-1))) g N (zb f i n D v 0) from fun wz hz =>
      (show ZArr wz g N (fun j => ((ovr f i (n + 2) D j : Nat) : Int)) by obtain ⟨cur, h1, h2, h3⟩ := HAR.out; exact ⟨cur, by rw [hz]; exact h1, h2, h3⟩).store (i + (n + 2)) (-1) zb_last (fun j _ hj => by rw [zb, if_neg hj, ovr_zero]))
     have hz0 : (dx : Int) - ((dx : Int) + 1) = -1 := by omega
     have HKP := Lib.hid hkp
     clear hte htl hf hdd hle hkp
     go_wp2_with fail
     go_loopw [7] (fun s7 wz => ∃ q : Nat, s7 = .int .i64 (q : Int) ∧ Kept g w.heap.size w wz ∧ ((q = X / v ∧ IArr wz g N (ovr f i (n + 3) (X % v))) ∨ (q = gq ∧ ZArr wz g N (zb f i n D v 0)))) (fun s7 _ => (intOf s7).toNat)
     case atStart => exact ⟨gq, rfl, HKP.out.setCell (.inl rfl) _, .inr ⟨rfl, HZ.out _ rfl⟩⟩
     case round =>
      obtain ⟨q, rfl, hkz, hc⟩ := hrel
      clear HZ HKP HAR HARC HKC
      rcases hc with ⟨hq, hfin⟩ | ⟨hq, hza⟩
      ·have cz := hfin.cell (show i + (n + 2) < N by omega)
       rw [ovr, if_pos (by omega), Nat.add_sub_cancel_left, dg_big HXV.out] at cz
       have HFIN := Lib.hid (And.intro hfin hkz)
       have HQ := Lib.hid hq
       clear hfin hkz hq
       go_wp2_with fail
       go_ret
       exact ⟨ret_int (by rw [← HQ.out]), HFIN.out.1, HFIN.out.2⟩
      ·have cz := hza.cell (show i + (n + 2) < N by omega)
       rw [zb_last] at cz
       subst hq
       have HZA := Lib.hid hza
       have HKZ := Lib.hid hkz
       clear hza hkz
       go_wp2_with fail
       go_loopw [13, 14] (fun s13 s14 wy => ∃ k : Nat, k ≤ n + 2 ∧ s14 = .int .i64 k ∧ s13 = .int .i64 ((ca D v k : Nat) : Int) ∧ ZArr wy g N (zb f i n D v k) ∧ Kept g w.heap.size w wy) (fun _ s14 _ => n + 2 - (intOf s14).toNat)
       case atStart => exact ⟨0, Nat.zero_le _, rfl, by rw [ca_zero]; rfl, HZA.out, HKZ.out⟩
       case round =>
        obtain ⟨k, hk, rfl, rfl, har, hkp⟩ := hrel
        clear HZA HKZ cz
        by_cases hlt : k < n + 2
        ·have c1 := har.cell (show i + k < N by omega)
         rw [zb_here hlt] at c1
         have c2 := har.free (i + k)
         have c3 : wr.cell? ⟨yb, k, none⟩ = some (.int .i64 ((dg v k : Nat) : Int)) := (hkp.cell (p := ⟨yb, k, none⟩) hybw hyg).trans (HY.out.cell (by rw [← HN.out]; exact hlt))
         have b1 := dg_lt D k
         have b2 := dg_lt v k
         have b3 := ca_le D v k
         have hv := Lib.hid (show ((dg D k : Nat) + (dg v k : Nat) + (ca D v k : Nat) : Int) % 1000000000 = ((dg (D + v) k : Nat) : Int) by rw [dg_add]; omega)
         have hw := Lib.hid (show ((dg D k : Nat) + (dg v k : Nat) + (ca D v k : Nat) : Int) / 1000000000 = ((ca D v (k + 1) : Nat) : Int) by rw [ca_succ]; omega)
         have HAR := Lib.hid (show ∀ m, ZArr ((wr.drewN m).setCell ⟨g, i + k, none⟩ (.int .i64 ((dg (D + v) k : Nat) : Int))) g N (zb f i n D v (k + 1)) from fun m =>
          (show ZArr (wr.drewN m) g N (zb f i n D v k) from har).store (i + k) _ (zb_next hlt).1 (fun j _ hj => (zb_next hlt).2 j hj))
         have HKP := Lib.hid hkp
         clear har hkp
         go_wp2_with fail
         go_quiet (fail)
         go_wp2_with fail
         go_roundw
         case rel => exact ⟨k + 1, by omega, by go_num, by rw [hw.out], by rw [hv.out]; exact HAR.out nq, (HKP.out.drew' nq).setCell (.inl rfl) _⟩
         case measure => simp [intOf]; omega
        ·obtain rfl : k = n + 2 := by omega
         have c1 := har.cell (show i + (n + 2) < N by omega)
         rw [zb_last] at c1
         have c2 := har.free (i + (n + 2))
         have hca := ca_over HD.out HV.out (by have := HDD.out; omega)
         rw [hca]
         have HAR := Lib.hid (show ∀ wz, wz.heap = wr.heap → IArr (wz.setCell ⟨g, i + (n + 2), none⟩ (.int .i64 0)) g N (ovr f i (n + 3) (X % v)) from fun wz hz =>
          ((show ZArr wz g N (zb f i n D v (n + 2)) by obtain ⟨cur, h1, h2, h3⟩ := har; exact ⟨cur, by rw [hz]; exact h1, h2, h3⟩).store (f' := fun j => if j = i + (n + 2) then (0 : Int) else zb f i n D v (n + 2) j) (i + (n + 2)) 0 (if_pos rfl) (fun j _ hj => if_neg hj)).i (fun j _ => zb_end HXV.out HDD.out j))
         have HKP := Lib.hid hkp
         have hg1 : 1 ≤ q := by rw [HF.out]; exact Nat.succ_le_succ (Nat.zero_le _)
         have hg2 : (q : Int) - 1 = ((q - 1 : Nat) : Int) := by omega
         have HG2 := Lib.hid hg2
         clear har hkp hg2 hca
         go_wp2_with fail
         go_roundw
         case rel => exact ⟨q - 1, by rw [HG2.out], HKP.out.setCell (.inl rfl) _, .inl ⟨by rw [HF.out, Nat.add_sub_cancel], HAR.out _ rfl⟩⟩
         case measure => simp [intOf]; omega
open Go.RowKit NV
theorem IArr.kept {w w' : World} {g N h R : Nat} {f : Nat → Nat} (ha : IArr w g N f) (hk : Kept h R w w') (hR : g < R) (hg : g ≠ h) : IArr w' g N f := by
 obtain ⟨cur, h1, h2, h3⟩ := ha
 exact ⟨cur, (hk.block g hR hg).trans h1, h2, h3⟩
theorem IArr.one {w : World} (r : Nat) (hr : r < 1000000000) : IArr (w.alloc (.cells #[.int .i64 (r : Int)] 3)) w.heap.size 1 (dg r) := by
 refine ⟨#[.int .i64 (r : Int)], heap_alloc_new w _, rfl, fun j hj => ?_⟩
 obtain rfl : j = 0 := by omega
 have : dg r 0 = r := by rw [dg, B_eq]; simp; omega
 rw [this]; rfl
theorem IArr.num {w : World} {g N n : Nat} (h : IArr w g N (dg n)) {c : Nat} (hc : N ≤ c) (hn : ln n ≤ N) : INum w (.slice (some ⟨g, 0, none⟩) (ln n) c) n :=
 inum_of h.lt hn hc (fun _ hj => h.cell hj)
set_option maxHeartbeats 1600000 in
set_option maxRecDepth 100000 in
theorem idivide_less {w : World} {x y : Value} {a b : Nat} (hx : INum w x a) (hy : INum w y b) (ha : ln a ≤ 1000000) (hb : ln b ≤ 1000000) (hab : a < b) :
  Calls Tryz.prog 88 #[x, y] w fun e w' => e = .returned (.tuple #[.slice none 0 0, x]) ∧ Below w.heap.size w w' := by
 have HL := Lib.hid (iorder_any hx hy (by omega) (by omega))
 have hlow := cmpN_low hab
 obtain ⟨xa, xc, rfl⟩ := islice_any hx
 obtain ⟨ya, yc, rfl⟩ := islice_any hy
 clear hx hy hab
 go_enter Tryz.func88, Tryz.ntmps88
 go_wp2_with fail
 refine HL.out.mono ?_
 rintro e w1 ⟨rfl, hb1⟩
 have HB := Lib.hid hb1
 clear hb1
 go_wp2_with fail
 go_ret2
 exact ⟨rfl, HB.out⟩
set_option maxHeartbeats 1600000 in
set_option maxRecDepth 100000 in
theorem idivide_one {w : World} {x y : Value} {a b : Nat} (hx : INum w x a) (hy : INum w y b) (ha : ln a ≤ 1000000) (hb : ln b = 1) (hab : b ≤ a) :
  Calls Tryz.prog 88 #[x, y] w fun e w' => ∃ q r, e = .returned (.tuple #[q, r]) ∧ INum w' q (a / b) ∧ INum w' r (a % b) ∧ Below w.heap.size w w' := by
 have HL := Lib.hid (iorder_any hx hy (by omega) (by omega))
 have hhigh := cmpN_high hab
 have hblt := lt_pow_ln b
 have hb0 : b ≠ 0 := by intro e; subst e; rw [ln_zero] at hb; omega
 rw [hb, Nat.pow_one, B_eq] at hblt
 have hd0 : dg b 0 = b := by rw [dg, B_eq]; simp; omega
 obtain ⟨xb, xc, rfl, _, _⟩ := islice_form hx (by have := ln_mono hab; omega)
 obtain ⟨yb, yc, rfl, _, _⟩ := islice_form hy (by omega)
 have HX := Lib.hid hx
 have HY := Lib.hid hy
 have hbl2 : 1 ≤ ln b := by omega
 have HD0 := Lib.hid hd0
 rw [hb] at HL ⊢
 obtain ⟨r, hr⟩ : ∃ r, r = a % b := ⟨_, rfl⟩
 have hrb : r < 1000000000 := by rw [hr]; exact Nat.lt_trans (Nat.mod_lt _ (by omega)) hblt
 rw [← hr]
 have HRM := Lib.hid hr
 clear hx hy hb hd0 hr
 go_enter Tryz.func88, Tryz.ntmps88
 go_wp2_with fail
 refine HL.out.mono ?_
 rintro e w1 ⟨rfl, hb1⟩
 have hx1 := HX.out.below hb1
 have c0 := (HY.out.below hb1).cell (j := 0) (by omega)
 rw [HD0.out] at c0
 have hds := ishort_any hx1 (by omega) (show 1 ≤ b by omega) hblt
 rw [← HRM.out] at hds
 have HC := Lib.hid hds
 have HB1 := Lib.hid hb1
 clear hb1 hx1 HL hds
 go_wp2_with fail
 refine HC.out.mono ?_
 rintro e w2 ⟨v, rfl, hq, hb2⟩
 obtain ⟨qa, qc, rfl⟩ := islice_any hq
 have HQ := Lib.hid hq
 have HB2 := Lib.hid (HB1.out.trans (hb2.mono HB1.out.size))
 clear hq hb2 HC c0
 go_wp2_with fail
 have harr := IArr.one (w := w2) r hrb
 have hbe : Below w2.heap.size w2 (w2.alloc (.cells #[.int .i64 (r : Int)] 3)) := (Below.refl _ _).alloc (Nat.le_refl _) _
 have hrl : r < B ^ 1 := by rw [Nat.pow_one, B_eq]; exact hrb
 have hcl : ∀ j, j < 1 → (w2.alloc (.cells #[.int .i64 (r : Int)] 3)).cell? ⟨w2.heap.size, j, none⟩ = some (.int .i64 ((dg (r) j : Nat) : Int)) := fun j hj => harr.cell hj
 have HB3 := Lib.hid (HB2.out.trans (hbe.mono HB2.out.size))
 have HR := Lib.hid (harr.num (c := 1) (Nat.le_refl _) (ln_le hrl))
 have HQ3 := Lib.hid (HQ.out.below hbe)
 have HT := Lib.hid (itrim_any (c := 1) (by omega) (Nat.le_refl _) hrl hcl)
 clear harr hbe hcl hrl HQ HB2
 refine HT.out.mono ?_
 rintro e w3 ⟨rfl, rfl⟩
 go_wp2_with fail
 go_ret2
 exact ⟨_, _, rfl, HQ3.out, HR.out, HB3.out⟩
set_option maxHeartbeats 3200000 in
set_option maxRecDepth 100000 in
theorem idivide_many {w : World} {x y : Value} {a b n : Nat} (hx : INum w x a) (hy : INum w y b) (ha : ln a ≤ 1000000) (hb : ln b = n + 2) (hab : b ≤ a) :
  Calls Tryz.prog 88 #[x, y] w fun e w' => ∃ q r, e = .returned (.tuple #[q, r]) ∧ INum w' q (a / b) ∧ INum w' r (a % b) ∧ Below w.heap.size w w' := by
 obtain ⟨i0, hi, hz0, hz1, hz2⟩ := info_parts infoI
 have hl := iorder_any hx hy (by omega) (by have := ln_mono hab; omega)
 have hhigh := cmpN_high hab
 obtain ⟨d, hd⟩ : ∃ d, d = 1000000000 / (dg b (n + 1) + 1) := ⟨_, rfl⟩
 have hba := ln_mono hab
 obtain ⟨Q, hQ⟩ : ∃ Q, Q + (n + 1) = ln a := ⟨ln a - (n + 1), by omega⟩
 have hs := sets hb hab hd hQ
 obtain ⟨u, hu⟩ : ∃ u, u = a * d := ⟨_, rfl⟩
 obtain ⟨v, hv⟩ : ∃ v, v = b * d := ⟨_, rfl⟩
 have hd1 := hs.d1
 have hd2 := hs.d2
 have hlv := hs.lnv
 have hhalf := hs.half
 have hstart := hs.start
 have hquo := hs.quo
 have hrest := hs.rest
 have hsmall := hs.small
 rw [← hu, ← hv] at hstart hquo hrest
 rw [← hv] at hlv hhalf
 have hdd : (1000000000 : Int) / (((dg b (n + 1) : Nat) : Int) + 1) = (d : Int) := by rw [hd]; simp
 have htl := dg_lt b (n + 1)
 obtain ⟨xb, xc, rfl, hxb, _⟩ := islice_form hx (by omega)
 obtain ⟨yb, yc, rfl, hyb, _⟩ := islice_form hy (by omega)
 have hbn : n + 2 ≤ ln b := by omega
 have hbn2 : ln b ≤ 1000000 := by omega
 have hQa : Q ≤ ln a := by omega
 have hQ2 : (ln a : Int) + 1 - ((n : Int) + 2) = (Q : Int) := by omega
 have HL := Lib.hid hl
 rw [hb] at HL ⊢
 have HX := Lib.hid hx
 have HY := Lib.hid hy
 have HU := Lib.hid hu
 have HV := Lib.hid hv
 have HLV := Lib.hid hlv
 have HST := Lib.hid hstart
 have HQU := Lib.hid hquo
 have HRE := Lib.hid hrest
 have HSM := Lib.hid hsmall
 have HB := Lib.hid hb
 have HQ2 := Lib.hid hQ2
 clear hx hy hu hv hlv hstart hquo hrest hsmall hs hd hl hb hQ hQ2
 go_enter Tryz.func88, Tryz.ntmps88
 go_wp2_with fail
 refine HL.out.mono ?_
 rintro e w1 ⟨rfl, hb1⟩
 have hx1 := HX.out.below hb1
 have hy1 := HY.out.below hb1
 have c0 := hy1.cell (j := n + 1) (by omega)
 have HB1 := Lib.hid hb1
 have hsc1 := iscaled_any hx1 ha hd2
 rw [← HU.out] at hsc1
 obtain ⟨g1, hg1⟩ : ∃ g1, g1 = w1.heap.size := ⟨_, rfl⟩
 rw [← hg1] at hsc1
 have HG1 := Lib.hid hg1
 have HS1 := Lib.hid hsc1
 have HY1 := Lib.hid hy1
 clear hb1 hx1 hy1 hsc1 hg1 HL
 go_wp2_with fail
 refine HS1.out.mono ?_
 rintro e w2 ⟨rfl, har2, hb2⟩
 have hy2 := HY1.out.below (by rw [← HG1.out]; exact hb2)
 have hsc2 := iscaled_any hy2 hbn2 hd2
 rw [← HV.out, HB.out] at hsc2
 obtain ⟨g2, hg2⟩ : ∃ g2, g2 = w2.heap.size := ⟨_, rfl⟩
 rw [← hg2] at hsc2
 have HG2 := Lib.hid hg2
 have hg12 : g1 < g2 := by rw [hg2]; exact har2.lt
 have HAR2 := Lib.hid har2
 have HB2 := Lib.hid hb2
 have HS2 := Lib.hid hsc2
 clear har2 hb2 hy2 hsc2 hg2 HS1 HY1 c0
 go_wp2_with fail
 refine HS2.out.mono ?_
 rintro e w3 ⟨rfl, har3, hb3⟩
 have hb3' : Below w2.heap.size w2 w3 := by rw [← HG2.out]; exact hb3
 have hvlt : v < B ^ (n + 2 + 1) := by
  have := lt_pow_ln v
  rw [HLV.out] at this
  exact Nat.lt_trans this (by rw [pow_succ (n + 2), B_eq]; have := pow_pos (n + 2); rw [B_eq] at this; omega)
 have htr := itrim_any (w := w3) (b := g2) (c := n + 2 + 1) (L := n + 2 + 1) (n := v) (by omega) (Nat.le_refl _) hvlt (fun j hj => har3.cell hj)
 rw [HLV.out] at htr
 have hdv : INum w3 (.slice (some ⟨g2, 0, none⟩) (n + 2) (n + 2 + 1)) v := by
  have := har3.num (c := n + 2 + 1) (Nat.le_refl _) (by rw [HLV.out]; omega)
  rwa [HLV.out] at this
 have har1 : IArr w3 g1 (ln a + 1) (dg u) := HAR2.out.below hb3' HAR2.out.lt
 have hgl3 := har3.lt
 have HB3 := Lib.hid (HB1.out.trans ((HB2.out.trans (hb3.mono (Nat.le_of_lt hg12))).mono (by rw [HG1.out]; exact HB1.out.size)))
 have hsz3 := HB3.out.size
 have HTR := Lib.hid htr
 have HDV := Lib.hid hdv
 have HAR1 := Lib.hid har1
 clear har3 hb3 hb3' hvlt htr hdv har1 HAR2 HB2 HS2
 go_wp2_with fail
 refine HTR.out.mono ?_
 rintro e w4 ⟨rfl, rfl⟩
 obtain ⟨g3, hg3⟩ : ∃ g3, g3 = w3.heap.size := ⟨_, rfl⟩
 have HG3 := Lib.hid hg3
 have hg23 : g2 < g3 := by rw [hg3]; exact hgl3
 clear hg3
 go_wp2_with (at_make; refine wpList_make_full _ rfl _ _ 59 rfl w3.heap.size 3 i0 (.int .i64 0) 1 Tryz.underlying59 hi hz0 hz1 _ _ _ _ Q rfl rfl HQ2.out HQ2.out (by rw [hz2]; omega) (by unfold maxLen; omega) (Nat.le_refl _) ?_)
 intro w5 hown5 hgrow5
 have harq : IArr w5 w3.heap.size Q (fun _ => 0) := IArr.made (base := w3.heap.size) (by rw [Nat.mul_one]; exact hown5)
 rw [← HG3.out] at harq
 have hb5 : Below w3.heap.size w3 w5 := (Below.refl _ _).grown hgrow5 (by simp) (fun k hk => by cases hk)
 have HARQ := Lib.hid harq
 have HAR5 := Lib.hid (HAR1.out.below hb5 HAR1.out.lt)
 have HDV5 := Lib.hid (HDV.out.below hb5)
 have HB5 := Lib.hid (HB3.out.trans (hb5.mono HB3.out.size))
 rw [← HG3.out] at hown5
 rw [← HG3.out]
 clear hown5 hgrow5 harq hb5 HAR1 HDV HTR
 go_wp2_with fail
 have hQn : Q + (n + 1) = ln a := by have := HQ2.out; omega
 have hQn1 : Q + (n + 1) ≤ ln a := by omega
 have hQn2 : ln a ≤ Q + (n + 1) := by omega
 clear hQn
 go_loopw [13] (fun s10 wr => ∃ k : Nat, k ≤ Q ∧ s10 = .int .i64 ((k : Int) - 1) ∧ IArr wr g1 (ln a + 1) (dg (u % (v * B ^ k))) ∧ IArr wr g3 Q (dgu (u / v) k) ∧ INum wr (.slice (some ⟨g2, 0, none⟩) (n + 2) (n + 2 + 1)) v ∧ Below w.heap.size w wr) (fun s10 _ => ((intOf s10) + 1).toNat)
 case atStart => exact ⟨Q, Nat.le_refl _, by go_num, by rw [Nat.mod_eq_of_lt HST.out]; exact HAR5.out, HARQ.out.congr (fun j hj => by rw [dgu, if_neg (by omega)]), HDV5.out, HB5.out⟩
 case round =>
  obtain ⟨k, hk, rfl, har, haq, hdv, hbr⟩ := hrel
  have HAR := Lib.hid har
  have HAQ := Lib.hid haq
  have HDV := Lib.hid hdv
  have HBR := Lib.hid hbr
  have hwg : w.heap.size ≤ g1 := by rw [HG1.out]; exact HB1.out.size
  clear HAR5 HARQ HDV5 HB5 har haq hdv hbr
  have hv0 : 0 < v := by
   by_cases h : v = 0
   ·have := HLV.out; rw [h, ln_zero] at this; omega
   ·omega
  have HV0 := Lib.hid hv0
  clear hv0
  by_cases hk0 : 0 < k
  ·obtain ⟨q, rfl⟩ : ∃ q, k = q + 1 := ⟨k - 1, by omega⟩
   have hto := istep_any (w := wr) (g := g1) (N := ln a + 1) (i := q) (n := n) (c := ln a + 1 - q) (X := u % (v * B ^ (q + 1)) / B ^ q) (v := v) (yb := g2) (yc := n + 2 + 1) HAR.out (by omega) (by omega) (fun j _ => by rw [dg_shift]) HDV.out HLV.out.symm (by omega) hhalf (left_lt HV0.out)
   have hls := left_step u v q HV0.out
   have c1 := HAQ.out.cell (j := q) (by omega)
   have c2 := HAQ.out.free q
   rw [hls.2.1] at hto
   have HTO := Lib.hid hto
   have HLS := Lib.hid hls
   clear hto hls
   go_wp2_with fail
   rw [show q + (n + 2) + 1 - q = n + 2 + 1 by omega]
   refine HTO.out.mono ?_
   rintro e w6 ⟨rfl, har6, hk6⟩
   have hg3l : g3 < wr.heap.size := HAQ.out.lt
   have haq6 := HAQ.out.kept hk6 hg3l (by omega)
   have hdv6 := HDV.out.kept hk6 (by omega) (by omega)
   have har6' : IArr w6 g1 (ln a + 1) (dg (u % (v * B ^ q))) := har6.congr (fun j _ => row_round (n := n) HV0.out (by have := lt_pow_ln v; rwa [HLV.out] at this) j)
   have hb6 := HBR.out.trans (hk6.below hwg HBR.out.size)
   have c1 := haq6.cell (j := q) (by omega)
   have c2 := haq6.free q
   have haq7 := haq6.store q (dg (u / v) q)
   rw [dgu_step rfl] at haq7
   have har7 := har6'.other (a := ⟨g3, q, none⟩) (show g1 ≠ g3 by omega) (.int .i64 ((dg (u / v) q : Nat) : Int))
   have hdv7 := hdv6.kept ((Kept.refl g3 (g3 + 1) w6).setCell (p := ⟨g3, q, none⟩) (.inl rfl) (.int .i64 ((dg (u / v) q : Nat) : Int))) (by omega) (by omega)
   have hb7 := hb6.setCell (p := ⟨g3, q, none⟩) (show w.heap.size ≤ g3 by omega) (.int .i64 ((dg (u / v) q : Nat) : Int))
   have HF := Lib.hid (And.intro har7 (And.intro haq7 (And.intro hdv7 hb7)))
   clear har6 hk6 haq6 hdv6 har6' hb6 haq7 har7 hdv7 hb7 HTO
   go_wp2_with fail
   go_roundw
   case rel => exact ⟨q, by omega, by go_num, HF.out.1, HF.out.2.1, HF.out.2.2.1, HF.out.2.2.2⟩
   case measure => simp [intOf]
  ·obtain rfl : k = 0 := by omega
   obtain ⟨R, hR⟩ : ∃ R, R = u % v := ⟨_, rfl⟩
   have hRv : R < v := by rw [hR]; exact Nat.mod_lt _ HV0.out
   have hRu : R < B ^ (n + 2) := by have := lt_pow_ln v; rw [HLV.out] at this; exact Nat.lt_trans hRv this
   have har0 : IArr wr g1 (ln a + 1) (dg R) := by
    have := HAR.out
    rw [Nat.pow_zero, Nat.mul_one, ← hR] at this
    exact this
   have htr := itrim_any (w := wr) (b := g1) (c := ln a + 1) (L := n + 2) (n := R) (by omega) (by omega) hRu (fun j hj => har0.cell (by omega))
   have hlR := ln_le hRu
   have hnr := har0.num (c := ln a + 1) (Nat.le_refl _) (by omega)
   have hds := ishort_any hnr (by omega) hd1 (show d < 1000000000 by omega)
   have hrd : R / d = a % b := by rw [hR]; exact HRE.out
   rw [hrd] at hds
   have HTR := Lib.hid htr
   have HDS := Lib.hid hds
   have hquo0 : u / v = a / b := HQU.out
   have hq0 : IArr wr g3 Q (dg (a / b)) := by
    rw [← hquo0]
    exact HAQ.out.congr (fun j _ => by rw [dgu, if_pos (Nat.zero_le _)])
   have HQ0 := Lib.hid hq0
   have hw3 : w.heap.size ≤ g3 := by omega
   clear hR hRv hRu har0 htr hnr hds hrd hquo0 hq0 hlR
   go_wp2_with fail
   refine HTR.out.mono ?_
   rintro e w6 ⟨rfl, rfl⟩
   go_wp2_with fail
   refine HDS.out.mono ?_
   rintro e w7 ⟨rv, rfl, hrv, hb7⟩
   obtain ⟨ra, rc, rfl⟩ := islice_any hrv
   have hq7 := HQ0.out.below hb7 HQ0.out.lt
   have htq := itrim_any (w := w7) (b := g3) (c := Q) (L := Q) (n := a / b) (by omega) (Nat.le_refl _) HSM.out (fun j hj => hq7.cell hj)
   have HTQ := Lib.hid htq
   have HF := Lib.hid (And.intro (hq7.num (c := Q) (Nat.le_refl _) (ln_le HSM.out)) (And.intro hrv (HBR.out.trans (hb7.mono HBR.out.size))))
   clear hrv hb7 hq7 htq HDS
   go_wp2_with fail
   refine HTQ.out.mono ?_
   rintro e w8 ⟨rfl, rfl⟩
   go_wp2_with fail
   go_ret2
   exact ⟨_, _, rfl, HF.out.1, HF.out.2.1, HF.out.2.2⟩
theorem idivide_any {w : World} {x y : Value} {a b : Nat} (hx : INum w x a) (hy : INum w y b) (ha : ln a ≤ 1000000) (hb : ln b ≤ 1000000) (hb0 : b ≠ 0) :
  Calls Tryz.prog 88 #[x, y] w fun e w' => ∃ q r, e = .returned (.tuple #[q, r]) ∧ INum w' q (a / b) ∧ INum w' r (a % b) ∧ Below w.heap.size w w' := by
 by_cases hab : a < b
 ·refine (idivide_less hx hy ha hb hab).mono ?_
  rintro e w' ⟨rfl, hbw⟩
  exact ⟨_, _, rfl, by rw [Nat.div_eq_of_lt hab]; exact INum.nil _, by rw [Nat.mod_eq_of_lt hab]; exact hx.below hbw, hbw⟩
 ·have hp := ln_pos hb0
  by_cases h1 : ln b = 1
  ·exact idivide_one hx hy ha h1 (by omega)
  ·exact idivide_many (n := ln b - 2) hx hy ha (by omega) (by omega)
open Go.RowKit NV
def iworth (w : World) (g : Nat) : Nat → Nat
 | 0 => 0
 | k + 1 => iworth w g k + B ^ k * (intOf ((w.cell? ⟨g, k, none⟩).getD .nilIface)).toNat
def ivalOf (w : World) : Value → Nat
 | .slice (some a) n _ => iworth w a.block n
 | _ => 0
theorem iworth_num {w : World} {g n : Nat} : ∀ k, (∀ j, j < k → w.cell? ⟨g, j, none⟩ = some (.int .i64 ((dg n j : Nat) : Int))) → iworth w g k = n % B ^ k
 | 0, _ => by simp [iworth, Nat.mod_one]
 | k + 1, h => by
  rw [iworth, iworth_num k (fun j hj => h j (by omega)), h k (by omega), mod_succ]
  simp [intOf]
theorem INum.val {w : World} {v : Value} {n : Nat} (h : INum w v n) : ivalOf w v = n := by
 obtain ⟨a, c, rfl, ⟨h0, rfl, rfl⟩ | ⟨b, rfl, _, _, h4⟩⟩ := h
 ·rw [h0]; rfl
 ·show iworth w b (ln n) = n
  rw [iworth_num (ln n) h4, Nat.mod_eq_of_lt (lt_pow_ln n)]
set_option maxHeartbeats 1600000 in
set_option maxRecDepth 100000 in
theorem icommon_any {w : World} {x y : Value} {a b : Nat} (hx : INum w x a) (hy : INum w y b) (ha : ln a ≤ 1000000) (hb : ln b ≤ 1000000) :
  Calls Tryz.prog 59 #[x, y] w fun e w' => ∃ v, e = .returned v ∧ INum w' v (Nat.gcd a b) ∧ Below w.heap.size w w' := by
 have HX := Lib.hid hx
 have HY := Lib.hid hy
 clear hx hy
 go_enter Tryz.func59, Tryz.ntmps59
 go_wp2_with fail
 go_loopw [0, 1] (fun s0 s1 wr => ∃ X Y, INum wr s0 X ∧ INum wr s1 Y ∧ ln X ≤ 1000000 ∧ ln Y ≤ 1000000 ∧ Hid (Nat.gcd X Y = Nat.gcd a b) ∧ Below w.heap.size w wr) (fun _ s1 wr => ivalOf wr s1)
 case atStart => exact ⟨a, b, HX.out, HY.out, ha, hb, Lib.hid rfl, Below.refl _ _⟩
 case round =>
  obtain ⟨X, Y, hX, hY, hlX, hlY, HG, hbr⟩ := hrel
  clear HX HY
  obtain ⟨xa, xc, rfl⟩ := islice_any hX
  obtain ⟨ya, yc, rfl⟩ := islice_any hY
  have HX := Lib.hid hX
  have HY := Lib.hid hY
  have HBR := Lib.hid hbr
  by_cases hY0 : ln Y = 0
  ·have hz := ln_eq_zero hY0
   have HR := Lib.hid (show INum wr (.slice xa (ln X) xc) (Nat.gcd a b) by rw [← HG.out, hz, Nat.gcd_zero_right]; exact hX)
   rw [hY0]
   clear hX hY hbr hz hY0
   go_wp2_with fail
   go_ret
   exact ⟨_, rfl, HR.out, HBR.out⟩
  ·have hYne : Y ≠ 0 := by intro e; rw [e, ln_zero] at hY0; exact hY0 rfl
   have hpos : 0 < ln Y := by omega
   have HD := Lib.hid (idivide_any hX hY hlX hlY hYne)
   have HV := Lib.hid hY.val
   have HYN := Lib.hid hYne
   clear hX hY hbr hYne hY0
   go_wp2_with fail
   refine HD.out.mono ?_
   rintro e w2 ⟨q, r, rfl, _, hr, hb2⟩
   have hlt : X % Y < Y := Nat.mod_lt _ (Nat.pos_of_ne_zero HYN.out)
   have HLR := Lib.hid (Nat.le_trans (ln_mono (Nat.le_of_lt hlt)) hlY)
   have HRV := Lib.hid hr.val
   have HLT := Lib.hid hlt
   have HRN := Lib.hid hr
   have HY2 := Lib.hid (HY.out.below hb2)
   have HB2 := Lib.hid (HBR.out.trans (hb2.mono HBR.out.size))
   clear hlt hr hb2 HD
   go_wp2_with fail
   go_roundw
   case rel => exact ⟨Y, X % Y, HY2.out, HRN.out, hlY, HLR.out, Lib.hid (by rw [← HG.out, Nat.gcd_comm Y, ← Nat.gcd_rec, Nat.gcd_comm]), HB2.out⟩
   case measure => rw [HRV.out, HV.out]; exact HLT.out
end Go.Proofs.YtjpepjooefkbkaaGreatDoor
