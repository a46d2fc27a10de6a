/-
  The contract of apply.
-/
import Derived.Test.YtiocehlefpbbhaaGreatDoorW30
namespace Go.Proofs.YtiocehlefpbbhaaGreatDoor
open Go.RowKit NV

/-- The limbs of X below place k, those of x from there on. -/
def mx (X x k : Nat) : Nat → Nat := fun j => if j < k then dg X j else dg x j
theorem mx_zero (X x : Nat) : mx X x 0 = dg x := by funext j; simp [mx]
theorem mx_at (X x k : Nat) : mx X x k k = dg x k := by rw [mx, if_neg (by omega)]
theorem mx_step {X x k v : Nat} (h : v = dg X k) : upd (mx X x k) k v = mx X x (k + 1) := by
  funext j
  unfold upd mx
  by_cases e : j = k
  · subst e; rw [if_pos rfl, if_pos (by omega), h]
  · rw [if_neg e]
    by_cases hj : j < k
    · rw [if_pos hj, if_pos (by omega)]
    · rw [if_neg hj, if_neg (by omega)]

/-- One factor is not negative, the other not positive, and both are small. -/
def Sm (p q : Int) : Prop := (0 ≤ p ∧ p ≤ 1000000000 ∧ q ≤ 0 ∧ -1000000000 ≤ q) ∨ (0 ≤ q ∧ q ≤ 1000000000 ∧ p ≤ 0 ∧ -1000000000 ≤ p)

/-- What one place of the sum holds. -/
theorem place {p q : Int} {x y X : Nat} (hs : Sm p q) (h : (X : Int) = p * x + q * y) (k : Nat) :
    (-1000000000000000000 ≤ p * ((dg x k : Nat) : Int) ∧ p * ((dg x k : Nat) : Int) ≤ 1000000000000000000) ∧ (-1000000000000000000 ≤ q * ((dg y k : Nat) : Int) ∧ q * ((dg y k : Nat) : Int) ≤ 1000000000000000000) ∧
    (-1000000000000000000 ≤ p * ((dg x k : Nat) : Int) + q * ((dg y k : Nat) : Int) ∧ p * ((dg x k : Nat) : Int) + q * ((dg y k : Nat) : Int) ≤ 1000000000000000000) ∧ (-1000000000 ≤ lc p q x y k ∧ lc p q x y k ≤ 1000000000) ∧
    (p * ((dg x k : Nat) : Int) + q * ((dg y k : Nat) : Int) + lc p q x y k + 2000000000000000000) % 1000000000 = ((dg X k : Nat) : Int) ∧ (p * ((dg x k : Nat) : Int) + q * ((dg y k : Nat) : Int) + lc p q x y k + 2000000000000000000) / 1000000000 = lc p q x y (k + 1) + 2000000000 := by
  obtain ⟨h1, h2, h3⟩ := pq_bound x y k hs
  have h4 := lc_bound x y k hs
  have h5 := lc_limb h k
  have h6 := lc_succ p q x y k
  refine ⟨h1, h2, h3, h4, ?_, ?_⟩
  · rw [h5]; omega
  · rw [h6]; omega

set_option maxHeartbeats 3200000 in
set_option maxRecDepth 100000 in
/-- apply: the pair p*x + q*y, r*x + s*y. -/
theorem apply_any {w : World} {gx gy cx cy x y X Y base : Nat} {p q r s : Int} (hX : Hold w gx (ln x) cx (dg x)) (hY : Hold w gy (ln y) cy (dg y)) (hg : gx < gy) (hyx : ln y ≤ ln x) (hln : ln x ≤ 1000000)
    (s1 : Sm p q) (s2 : Sm r s) (eX : (X : Int) = p * x + q * y) (eY : (Y : Int) = r * x + s * y) (lX : X < B ^ ln x) (lY : Y < B ^ ln x) (hb : base ≤ gx) :
    Calls Tryz.prog 72 #[.agg #[.int .i64 p, .int .i64 q, .int .i64 r, .int .i64 s], .slice (some ⟨gx, 0, none⟩) (ln x) cx, .slice (some ⟨gy, 0, none⟩) (ln y) cy] w fun e w' =>
      ∃ g c, e = .returned (.tuple #[.slice (some ⟨gx, 0, none⟩) (ln X) cx, .slice (some ⟨g, 0, none⟩) (ln Y) c]) ∧ Hold w' gx (ln X) cx (dg X) ∧ Hold w' g (ln Y) c (dg Y) ∧ gx < g ∧ Below base w w' := by
  obtain ⟨i0, hi, hz0, hz1, hz2⟩ := info_parts info72
  obtain ⟨L, hL⟩ : ∃ L, L = ln x := ⟨_, rfl⟩
  have hXL := ln_le lX
  have hYL := ln_le lY
  rw [← hL] at hX hyx hln lX lY hXL hYL ⊢
  have hgy := hY.lt
  have hgxw := hX.lt
  have hcx := hX.room.1
  have hcm := hX.room.2
  have HX := Lib.hid hX
  have HY := Lib.hid hY
  have hyL := hyx
  have HXX := Lib.hid lX
  have HYY := Lib.hid lY
  have HEX := Lib.hid eX
  have HEY := Lib.hid eY
  clear hX hY hL lX lY eX eY
  go_enter Tryz.func72, Tryz.ntmps72
  go_wp2_with fail
  have hbw : Below w.heap.size w (w.alloc (Obj.cells #[Value.int IntKind.i64 p, Value.int IntKind.i64 q, Value.int IntKind.i64 r, Value.int IntKind.i64 s] 88)) := (Below.refl _ _).alloc (Nat.le_refl _) _
  have hm1 : Mt (w.alloc (Obj.cells #[Value.int IntKind.i64 p, Value.int IntKind.i64 q, Value.int IntKind.i64 r, Value.int IntKind.i64 s] 88)) w.heap.size p q r s := heap_alloc_new w _
  generalize w.alloc (Obj.cells #[Value.int IntKind.i64 p, Value.int IntKind.i64 q, Value.int IntKind.i64 r, Value.int IntKind.i64 s] 88) = w1 at hbw hm1 ⊢
  have HST := Lib.hid (And.intro (HX.out.below hbw hgxw) (And.intro (HY.out.below hbw hgy) (And.intro hm1 (hbw.mono (show base ≤ w.heap.size by omega)))))
  obtain ⟨bm, hbm⟩ : ∃ bm, bm = w.heap.size := ⟨_, rfl⟩
  rw [← hbm] at HST ⊢
  have hbm1 : gy < bm := by omega
  clear hbw hm1 hbm HX HY
  go_loopw [2] (fun s2 wr => ∃ k g c : Nat, s2 = .slice (some ⟨g, 0, none⟩) k c ∧ ln y ≤ k ∧ k ≤ L ∧ Hold wr g k c (dg y) ∧ gx < g ∧ g ≠ bm ∧ Hold wr gx L cx (dg x) ∧ Mt wr bm p q r s ∧ Below base w wr) (fun s2 _ => L - lenOf s2)
  case atStart => exact ⟨ln y, gy, cy, rfl, Nat.le_refl _, hyL, HST.out.2.1, hg, by omega, HST.out.1, HST.out.2.2.1, HST.out.2.2.2⟩
  case round =>
    obtain ⟨k, g, c, rfl, hk1, hk2, hy1, hgg, hgm, hx1, hm1, hbr⟩ := hrel
    clear HST
    have hgw := hy1.lt
    have hmw := hm1.lt
    have hxw := hx1.lt
    by_cases hkL : k < L
    · have HNEWS := Lib.hid (cell_one_new wr (.int .u64 0) 65 0 (.int .u64 0) rfl)
      have hbe : Below wr.heap.size wr (wr.alloc (.cells #[.int .u64 0] 65)) := (Below.refl _ _).alloc (Nat.le_refl _) _
      have hyA := hy1.below hbe hgw
      have hxA := hx1.below hbe hxw
      have hmA := hm1.below hbe hmw
      have hbA := hbr.trans (hbe.mono (show base ≤ wr.heap.size by omega))
      have hown := hyA.owns (base := gx + 1) hgg
      have hbase : gx + 1 ≤ (wr.alloc (.cells #[.int .u64 0] 65)).heap.size := by simp; omega
      have HA := Lib.hid (And.intro hxA (And.intro hmA hbA))
      have HS := Lib.hid (show (wr.alloc (.cells #[.int .u64 0] 65)).heap.size = wr.heap.size + 1 by simp)
      clear hy1 hx1 hm1 hbr hyA hxA hmA hbA hbe
      go_wp2_with (at_builtin; refine wpList_append_own _ rfl _ _ 40 rfl (gx + 1) 65 i0 (.int .u64 0) 1 8 Tryz.underlying40 hi hz0 hz1 hz2 rfl (by decide) _ k _ rfl hown ⟨wr.heap.size, 0, none⟩ 1 1 [.int .u64 0] rfl rfl (by
          intro j u hj
          obtain rfl : j = 0 := by
            have := (List.getElem?_eq_some_iff.1 hj).1
            simpa using this
          simp at hj
          subst hj
          exact HNEWS.out) (by intro u hu; simp at hu; subst hu; rfl) (by unfold maxLen; omega) (by omega) hbase ?_)
      intro v' w3 hown3 hgrow3 hnil3
      have hv : v' ≠ .slice none 0 0 := hnil3
      obtain ⟨g3, c3, rfl, hg3, hh3⟩ := Hold.of_owns (f := dg y) (N := k + 1) (by
        have e : (List.range k).map (fun j => Value.int .u64 ((dg y j : Nat) : Int)) ++ [Value.int .u64 0] = (List.range (k + 1)).map (fun j => Value.int .u64 ((dg y j : Nat) : Int)) := by
          rw [List.range_succ, List.map_append, List.map_singleton, dg_past hk1]; rfl
        rw [← e]; exact hown3) hv
      have hgne : ∀ b, b < wr.heap.size → b ≠ g → w3.heap[b]? = (wr.alloc (.cells #[.int .u64 0] 65)).heap[b]? := fun b h1 h2 =>
        hgrow3.block b (by rw [HS.out]; omega) (by simp [Value.ownBlock]; exact h2)
      have hx3 : Hold w3 gx L cx (dg x) := by
        obtain ⟨cur, e1, e2⟩ := HA.out.1
        exact ⟨cur, (hgne gx hxw (by omega)).trans e1, e2⟩
      have hm3 : Mt w3 bm p q r s := (hgne bm hmw (fun e => hgm e.symm)).trans HA.out.2.1
      have hb3 : Below base w w3 := HA.out.2.2.grown hgrow3 (by rw [HS.out]; omega) (by intro b hb'; simp [Value.ownBlock] at hb'; omega)
      have hg3m : g3 ≠ bm := by
        intro e
        rw [e] at hh3
        obtain ⟨cur, e1, _⟩ := hh3
        have e2 : w3.heap[bm]? = some (.cells #[.int .i64 p, .int .i64 q, .int .i64 r, .int .i64 s] 88 (0, 0)) := hm3
        rw [e1] at e2
        simp at e2
      have HF := Lib.hid (And.intro hh3 (And.intro hx3 (And.intro hm3 hb3)))
      clear hown3 hgrow3 hnil3 hv hh3 hgne hx3 hm3 hb3 hown
      go_wp2_with fail
      go_roundw
      case rel => exact ⟨k + 1, g3, c3, rfl, by omega, by omega, HF.out.1, by omega, hg3m, HF.out.2.1, HF.out.2.2.1, HF.out.2.2.2⟩
      case measure => simp [lenOf]; omega
    · obtain rfl : k = L := by omega
      have hgc := hy1.room
      have HY1 := Lib.hid hy1
      have HX1 := Lib.hid hx1
      have HM1 := Lib.hid hm1
      have HB1 := Lib.hid hbr
      clear hy1 hx1 hm1 hbr
      go_wp2_with fail
      go_loopw [8, 9, 25] (fun s8 s9 s25 wq => ∃ i : Nat, i ≤ k ∧ s25 = .int .i64 (i : Int) ∧ s8 = .int .i64 (lc p q x y i) ∧ s9 = .int .i64 (lc r s x y i) ∧ Hold wq gx k cx (mx X x i) ∧ Hold wq g k c (mx Y y i) ∧ Mt wq bm p q r s ∧ Below base w wq) (fun _ _ s25 _ => k - (intOf s25).toNat)
      case atStart => exact ⟨0, Nat.zero_le _, rfl, by rw [lc_zero], by rw [lc_zero], by rw [mx_zero]; exact HX1.out, by rw [mx_zero]; exact HY1.out, HM1.out, HB1.out⟩
      case round =>
        obtain ⟨i, hik, rfl, rfl, rfl, hx, hy, hm, hbq⟩ := hrel
        clear HX1 HY1 HM1 HB1
        by_cases hlt : i < k
        · have c1 := hx.cell hlt
          rw [mx_at] at c1
          have c2 := hy.cell hlt
          rw [mx_at] at c2
          have d1 := dg_lt x i
          have d2 := dg_lt y i
          obtain ⟨⟨a1, a2⟩, ⟨a3, a4⟩, ⟨a5, a6⟩, ⟨a7, a8⟩, a9, a10⟩ := place s1 HEX.out i
          obtain ⟨⟨b1, b2⟩, ⟨b3, b4⟩, ⟨b5, b6⟩, ⟨b7, b8⟩, b9, b10⟩ := place s2 HEY.out i
          have A9 := Lib.hid a9
          have A10 := Lib.hid a10
          have B9 := Lib.hid b9
          have B10 := Lib.hid b10
          have hilt : (i : Int) < (k : Int) := by omega
          have tell : ∀ q', Hold (wr.drewN q') gx k cx (mx X x i) ∧ Hold (wr.drewN q') g k c (mx Y y i) ∧ Mt (wr.drewN q') bm p q r s ∧ Below base w (wr.drewN q') := fun q' =>
            have h := below_drewN (Below.refl wr.heap.size wr) q'
            ⟨hx.below h hx.lt, hy.below h hy.lt, hm.below h hm.lt, below_drewN hbq q'⟩
          have TELL := Lib.hid tell
          clear tell a9 a10 b9 b10 hx hy hm hbq
          go_wp2_with fail
          go_quiet (fail)
          obtain ⟨hx, hy, hm, hbq⟩ := TELL.out nq
          clear TELL c1 c2
          generalize wr.drewN nq = w2 at hx hy hm hbq ⊢
          have e0 := hm.c0
          have e1 := hm.c1
          have e2 := hm.c2
          have e3 := hm.c3
          have c1 := hx.cell hlt
          rw [mx_at] at c1
          have f1 := hx.free i
          have hx2 := hx.store i (dg X i)
          rw [mx_step rfl] at hx2
          have hy2 := hy.other (a := ⟨gx, i, none⟩) (show g ≠ gx by omega) (.int .u64 ((dg X i : Nat) : Int))
          have hm2 : Mt (w2.setCell ⟨gx, i, none⟩ (.int .u64 ((dg X i : Nat) : Int))) bm p q r s := (heap_setCell_other w2 ⟨gx, i, none⟩ bm _ (show bm ≠ gx by omega)).trans hm
          have hb2 := hbq.setCell (p := ⟨gx, i, none⟩) (show base ≤ gx by omega) (.int .u64 ((dg X i : Nat) : Int))
          have c2 := hy2.cell hlt
          rw [mx_at] at c2
          have f2 := hy2.free i
          have hx3 := hx2.other (a := ⟨g, i, none⟩) (show gx ≠ g by omega) (.int .u64 ((dg Y i : Nat) : Int))
          have hy3 := hy2.store i (dg Y i)
          rw [mx_step rfl] at hy3
          have hm3 : Mt ((w2.setCell ⟨gx, i, none⟩ (.int .u64 ((dg X i : Nat) : Int))).setCell ⟨g, i, none⟩ (.int .u64 ((dg Y i : Nat) : Int))) bm p q r s := (heap_setCell_other _ ⟨g, i, none⟩ bm _ (Ne.symm hgm)).trans hm2
          have hb3 := hb2.setCell (p := ⟨g, i, none⟩) (show base ≤ g by omega) (.int .u64 ((dg Y i : Nat) : Int))
          have HF := Lib.hid (And.intro hx3 (And.intro hy3 (And.intro hm3 hb3)))
          clear hx hy hm hbq hx2 hy2 hm2 hb2 hx3 hy3 hm3 hb3
          have a9 := A9.out
          have a10 := A10.out
          have b9 := B9.out
          have b10 := B10.out
          go_wp2_with fail
          go_roundw
          case rel => exact ⟨i + 1, by omega, by go_num, rfl, rfl, HF.out.1, HF.out.2.1, HF.out.2.2.1, HF.out.2.2.2⟩
          case measure => simp [intOf]; omega
        · obtain rfl : i = k := by omega
          have hxf := hx.congr (f' := dg X) (fun j hj => by rw [mx, if_pos hj])
          have hyf := hy.congr (f' := dg Y) (fun j hj => by rw [mx, if_pos hj])
          have HTX := Lib.hid (trim_any (n := X) (by omega) hcx HXX.out (fun j hj => hxf.cell hj))
          have HTY := Lib.hid (trim_any (n := Y) (by omega) hgc.1 HYY.out (fun j hj => hyf.cell hj))
          have HF := Lib.hid (And.intro (hxf.less hXL) (And.intro (hyf.less hYL) hbq))
          clear hxf hyf hx hy hm hbq
          go_wp2_with fail
          refine HTX.out.mono ?_
          rintro e w5 ⟨rfl, rfl⟩
          go_wp2_with fail
          refine HTY.out.mono ?_
          rintro e w5 ⟨rfl, rfl⟩
          go_wp2_with fail
          go_ret2
          exact ⟨_, _, rfl, HF.out.1, HF.out.2.1, hgg, HF.out.2.2⟩

end Go.Proofs.YtiocehlefpbbhaaGreatDoor
