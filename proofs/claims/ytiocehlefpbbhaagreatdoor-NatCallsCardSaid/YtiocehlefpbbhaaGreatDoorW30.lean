/-
  The contract of foresee.
-/
import Derived.Test.YtiocehlefpbbhaaGreatDoorW29
import Derived.Deep.WholeRow
namespace Go.Proofs.YtiocehlefpbbhaaGreatDoor
open Go.RowKit NV

/-- Block b holds a matrix. -/
def Mt (w : World) (b : Nat) (p q r s : Int) : Prop := w.heap[b]? = some (.cells #[.int .i64 p, .int .i64 q, .int .i64 r, .int .i64 s] 88 (0, 0))

theorem Mt.c0 {w : World} {b : Nat} {p q r s : Int} (h : Mt w b p q r s) : w.cell? ⟨b, 0, none⟩ = some (.int .i64 p) := by rw [Lib.cell_of_heap h]; rfl
theorem Mt.c1 {w : World} {b : Nat} {p q r s : Int} (h : Mt w b p q r s) : w.cell? ⟨b, 1, none⟩ = some (.int .i64 q) := by rw [Lib.cell_of_heap h]; rfl
theorem Mt.c2 {w : World} {b : Nat} {p q r s : Int} (h : Mt w b p q r s) : w.cell? ⟨b, 2, none⟩ = some (.int .i64 r) := by rw [Lib.cell_of_heap h]; rfl
theorem Mt.c3 {w : World} {b : Nat} {p q r s : Int} (h : Mt w b p q r s) : w.cell? ⟨b, 3, none⟩ = some (.int .i64 s) := by rw [Lib.cell_of_heap h]; rfl
theorem Mt.free {w : World} {b : Nat} {p q r s : Int} (h : Mt w b p q r s) (j : Nat) : w.frozen? ⟨b, j, none⟩ = false := Lib.frozen_of_heap h j
theorem Mt.lt {w : World} {b : Nat} {p q r s : Int} (h : Mt w b p q r s) : b < w.heap.size := (Array.getElem?_eq_some_iff.1 h).1
theorem Mt.below {w w' : World} {b B : Nat} {p q r s : Int} (h : Mt w b p q r s) (hb : Below B w w') (hB : b < B) : Mt w' b p q r s := (hb.block b hB).trans h

/-- A matrix written over. -/
def st4 (w : World) (b : Nat) (p q r s : Int) : World := (((w.setCell ⟨b, 0, none⟩ (.int .i64 p)).setCell ⟨b, 1, none⟩ (.int .i64 q)).setCell ⟨b, 2, none⟩ (.int .i64 r)).setCell ⟨b, 3, none⟩ (.int .i64 s)

theorem Mt.st {w : World} {b : Nat} {p q r s : Int} (h : Mt w b p q r s) (p' q' r' s' : Int) : Mt (st4 w b p' q' r' s') b p' q' r' s' :=
  heap_setCell_same _ b 3 _ _ _ (heap_setCell_same _ b 2 _ _ _ (heap_setCell_same _ b 1 _ _ _ (heap_setCell_same w b 0 _ _ _ h)))

theorem Mt.stOther {w : World} {b g : Nat} {p q r s : Int} (h : Mt w g p q r s) (hg : g ≠ b) (p' q' r' s' : Int) : Mt (st4 w b p' q' r' s') g p q r s :=
  (heap_setCell_other _ ⟨b, 3, none⟩ g _ hg).trans ((heap_setCell_other _ ⟨b, 2, none⟩ g _ hg).trans ((heap_setCell_other _ ⟨b, 1, none⟩ g _ hg).trans ((heap_setCell_other w ⟨b, 0, none⟩ g _ hg).trans h)))

theorem below_st4 {B : Nat} {w w' : World} (h : Below B w w') {b : Nat} (hb : B ≤ b) (p q r s : Int) : Below B w (st4 w' b p q r s) :=
  (((h.setCell (p := ⟨b, 0, none⟩) hb _).setCell (p := ⟨b, 1, none⟩) hb _).setCell (p := ⟨b, 2, none⟩) hb _).setCell (p := ⟨b, 3, none⟩) hb _

theorem info_mt : (Tryz.prog.info? 88).map (·.size) = some 4 := by kernel_rfl

theorem Mt.load {w : World} {b : Nat} {p q r s : Int} (h : Mt w b p q r s) : (loadVar 88 ⟨b, 0, none⟩).run Tryz.prog w = .ok (.agg #[.int .i64 p, .int .i64 q, .int .i64 r, .int .i64 s]) w :=
  run_loadVar_row _ _ 88 88 _ (0, 0) _ h Tryz.underlying88 rfl info_mt

theorem Mt.result {w : World} {b : Nat} {p q r s : Int} {tmps : Array Value} (h : Mt w b p q r s) (ht : tmps.getD 4 undef = .pointer (some ⟨b, 0, none⟩)) : (results Tryz.f70 tmps).run Tryz.prog w = .ok (.agg #[.int .i64 p, .int .i64 q, .int .i64 r, .int .i64 s]) w := by
  have hl := h.load
  have ht' : tmps[4]?.getD undef = .pointer (some ⟨b, 0, none⟩) := by rw [← ht]; simp
  simp [results, ht', asAddr, hl]

theorem held_step {wr W w' : World} {b j : Nat} {v : Value} (h : W.cell? ⟨b, j, none⟩ = some v ∧ Below wr.heap.size wr W) (h3 : Below W.heap.size W w') (hlt : b < wr.heap.size) : w'.cell? ⟨b, j, none⟩ = some v ∧ Below wr.heap.size wr w' :=
  ⟨(h3.cell (p := ⟨b, j, none⟩) (Nat.lt_of_lt_of_le hlt h.2.size)).trans h.1, h.2.trans (h3.mono h.2.size)⟩

/-- The worlds behind some calls of size: what w held is still there. -/
structure Hs (w : World) (b : Nat) (s : Int) where
  val : World
  holds : val.cell? ⟨b, 3, none⟩ = some (.int .i64 s) ∧ Below w.heap.size w val

theorem size_held {w : World} {b : Nat} {s : Int} (n m : Int) (h : mag n = m) (h1 : -4000000000000000000 ≤ n) (h2 : n ≤ 4000000000000000000) (hb : b < w.heap.size) (x : Hs w b s) :
    Calls Tryz.prog 88 #[.int .i64 n] x.val fun e w'' => e = .returned (.int .i64 m) ∧ ∃ y : Hs w b s, w'' = y.val :=
  (size_any n m h h1 h2 x.val).mono (by rintro e w' ⟨rfl, hb'⟩; exact ⟨rfl, ⟨w', held_step x.holds hb' hb⟩, rfl⟩)

set_option maxHeartbeats 3200000 in
set_option maxRecDepth 100000 in
theorem foresee_any {w : World} {a0 b0 : Nat} (hab : b0 ≤ a0) (ha : a0 < 1000000000000000000) :
    Calls Tryz.prog 70 #[.int .i64 (a0 : Int), .int .i64 (b0 : Int)] w fun e w' => ∃ (p q r s : Int) (a b : Nat) (sg : Int) (P Q R T : Nat), e = .returned (.agg #[.int .i64 p, .int .i64 q, .int .i64 r, .int .i64 s]) ∧ Lh a0 b0 a b sg P Q R T ∧ p = sg * P ∧ q = -sg * Q ∧ r = -sg * R ∧ s = sg * T ∧ Below w.heap.size w w' := by
  go_enter Tryz.func70, Tryz.ntmps70
  go_wp2_with fail
  have hw : Below w.heap.size w ((w.alloc (Obj.cells #[Value.int IntKind.i64 0, Value.int IntKind.i64 0, Value.int IntKind.i64 0, Value.int IntKind.i64 0] 88)).alloc (Obj.cells #[Value.int IntKind.i64 1, Value.int IntKind.i64 0, Value.int IntKind.i64 0, Value.int IntKind.i64 1] 88)) := ((Below.refl _ _).alloc (Nat.le_refl _) _).alloc (by simp) _
  have k1 : Mt ((w.alloc (Obj.cells #[Value.int IntKind.i64 0, Value.int IntKind.i64 0, Value.int IntKind.i64 0, Value.int IntKind.i64 0] 88)).alloc (Obj.cells #[Value.int IntKind.i64 1, Value.int IntKind.i64 0, Value.int IntKind.i64 0, Value.int IntKind.i64 1] 88)) w.heap.size 0 0 0 0 :=
    (Lib.alloc_old _ _ _ (by simp)).trans (heap_alloc_new w _)
  have k2 : Mt ((w.alloc (Obj.cells #[Value.int IntKind.i64 0, Value.int IntKind.i64 0, Value.int IntKind.i64 0, Value.int IntKind.i64 0] 88)).alloc (Obj.cells #[Value.int IntKind.i64 1, Value.int IntKind.i64 0, Value.int IntKind.i64 0, Value.int IntKind.i64 1] 88)) (w.heap.size + 1) 1 0 0 1 := by
    have := heap_alloc_new (w.alloc (Obj.cells #[Value.int IntKind.i64 0, Value.int IntKind.i64 0, Value.int IntKind.i64 0, Value.int IntKind.i64 0] 88)) (Obj.cells #[Value.int IntKind.i64 1, Value.int IntKind.i64 0, Value.int IntKind.i64 0, Value.int IntKind.i64 1] 88)
    simpa [Mt] using this
  obtain ⟨bm, hbm⟩ : ∃ bm, bm = w.heap.size + 1 := ⟨_, rfl⟩
  rw [← hbm] at k2 ⊢
  generalize (w.alloc (Obj.cells #[Value.int IntKind.i64 0, Value.int IntKind.i64 0, Value.int IntKind.i64 0, Value.int IntKind.i64 0] 88)).alloc (Obj.cells #[Value.int IntKind.i64 1, Value.int IntKind.i64 0, Value.int IntKind.i64 0, Value.int IntKind.i64 1] 88) = w1 at hw k1 k2 ⊢
  have hlt : w.heap.size < bm := by omega
  have hne : bm ≠ w.heap.size := by omega
  have HST := Lib.hid (And.intro k1 (And.intro k2 hw))
  clear hbm k1 k2 hw
  go_loopw [0, 1] (fun s0 s1 wr => ∃ (A D : Nat) (sg : Int) (P Q R T : Nat) (p q r s : Int), s0 = .int .i64 (A : Int) ∧ s1 = .int .i64 (D : Int) ∧ Hid (Lh a0 b0 A D sg P Q R T ∧ p = sg * P ∧ q = -sg * Q ∧ r = -sg * R ∧ s = sg * T) ∧ Mt wr w.heap.size 0 0 0 0 ∧ Mt wr bm p q r s ∧ Below w.heap.size w wr) (fun _ s1 _ => (intOf s1).toNat)
  case atStart => exact ⟨a0, b0, 1, 1, 0, 0, 1, 1, 0, 0, 1, rfl, rfl, Lib.hid ⟨Lh.start a0 b0, by simp, by simp, by simp, by simp⟩, HST.out.1, HST.out.2.1, HST.out.2.2⟩
  case round =>
    obtain ⟨A, D, sg, P, Q, R, T, p, q, r, s, rfl, rfl, hh, k1, k2, hbr⟩ := hrel
    clear HST
    have e0 := k2.c0
    have e1 := k2.c1
    have e2 := k2.c2
    have e3 := k2.c3
    have HBR := Lib.hid hbr
    have K1 := Lib.hid k1
    have K2 := Lib.hid k2
    by_cases hD : D = 0
    · subst hD
      have f0 := k1.free 0
      have f1 := k1.free 1
      have f2 := k1.free 2
      have f3 := k1.free 3
      have g0 := k1.c0
      have g1 := k1.c1
      have g2 := k1.c2
      have g3 := k1.c3
      clear k1 k2 hbr
      go_wp2_with fail
      refine bodyPost_ret ((K1.out.st p q r s).result rfl) rfl ⟨p, q, r, s, A, 0, sg, P, Q, R, T, rfl, hh.out.1, hh.out.2.1, hh.out.2.2.1, hh.out.2.2.2.1, hh.out.2.2.2.2, below_st4 HBR.out (Nat.le_refl _) p q r s⟩
    · obtain ⟨hL, hp, hq, hr, hs⟩ := hh.out
      have hDp : 0 < D := by omega
      obtain ⟨qt, hqt⟩ : ∃ qt, qt = A / D := ⟨_, rfl⟩
      obtain ⟨rt, hrt⟩ : ∃ rt, rt = A % D := ⟨_, rfl⟩
      obtain ⟨N, hN⟩ : ∃ N, N = Q + qt * T := ⟨_, rfl⟩
      obtain ⟨M, hM⟩ : ∃ M, M = P + qt * R := ⟨_, rfl⟩
      have hNa : N ≤ a0 := by rw [hN, hqt]; exact hL.next_lt hDp
      have hAa := hL.a_le
      have hrD : rt < D := by rw [hrt]; exact Nat.mod_lt _ hDp
      have hDA := hL.le hab
      have hqA : qt ≤ A := by rw [hqt]; exact Nat.div_le_self _ _
      have hTb := hL.tb
      have hDb : D ≤ a0 := by omega
      have hdv : (A : Int) / (D : Int) = (qt : Int) := by rw [hqt]; simp
      have hmd : (A : Int) % (D : Int) = (rt : Int) := by rw [hrt]; simp
      obtain ⟨v, hv, hv1, hv2⟩ : ∃ v : Int, (qt : Int) * s = v ∧ -1000000000000000000 ≤ v ∧ v ≤ 1000000000000000000 := by
        refine ⟨_, rfl, ?_⟩
        have e : ((qt * T : Nat) : Int) = (qt : Int) * T := by simp
        have hqT : qt * T ≤ N := by omega
        rcases hL.sgn with h | h
        · rw [hs, h, Int.one_mul, ← e]; omega
        · rw [hs, h, show (qt : Int) * (-1 * (T : Int)) = -((qt : Int) * T) by rw [Int.neg_one_mul, Int.mul_neg], ← e]; omega
      obtain ⟨nx, hnx, hnx2⟩ : ∃ nx : Int, q - v = nx ∧ nx = -sg * N := by
        refine ⟨_, rfl, ?_⟩
        rw [← hv, hq, hs, hN, Int.natCast_add, Int.natCast_mul, Int.mul_add]
        have : (qt : Int) * (sg * T) = sg * ((qt : Int) * T) := by ac_rfl
        rw [this, Int.neg_mul, Int.neg_mul]; omega
      have hmg : mag nx = N ∧ -1000000000000000000 ≤ nx ∧ nx ≤ 1000000000000000000 := by
        rcases hL.sgn with h | h
        · rw [hnx2, h]
          refine ⟨?_, by omega, by omega⟩
          unfold mag; split <;> omega
        · rw [hnx2, h]
          refine ⟨?_, by omega, by omega⟩
          unfold mag; split <;> omega
      have hms : mag s = T ∧ -1000000000 ≤ s ∧ s ≤ 1000000000 := by
        rcases hL.sgn with h | h
        · rw [hs, h]
          refine ⟨?_, by omega, by omega⟩
          unfold mag; split <;> omega
        · rw [hs, h]
          refine ⟨?_, by omega, by omega⟩
          unfold mag; split <;> omega
      obtain ⟨hg1, hg2, hg3⟩ := hmg
      obtain ⟨hg4, hg5, hg6⟩ := hms
      have hqb : -1000000000 ≤ q ∧ q ≤ 1000000000 := by
        have hQT := hL.qt
        rcases hL.sgn with h | h
        · rw [hq, h]; omega
        · rw [hq, h]; omega
      obtain ⟨hq1, hq2⟩ := hqb
      have hD1 : (0 : Int) < (D : Int) := by omega
      have HG1 := Lib.hid hg1
      have HG4 := Lib.hid hg4
      have HH := hh
      have HN := Lib.hid hN
      have HM := Lib.hid hM
      have HQT := Lib.hid hqt
      have HRT := Lib.hid hrt
      have HNX := Lib.hid hnx2
      have HDA := Lib.hid hDA
      have HQ := fun k => below_drewN (Below.refl wr.heap.size wr) k
      have HQH := Lib.hid HQ
      clear HQ k1 k2 hbr hL hp hq hr hs hN hM hqt hrt hnx2 hg1 hg4 hh hDA
      go_wp2_with fail
      go_quiet (fail)
      have k1 := K1.out.below (HQH.out nq) K1.out.lt
      have k2 := K2.out.below (HQH.out nq) K2.out.lt
      have hbr := below_drewN HBR.out nq
      clear e0 e1 e2 e3 K1 K2 HBR HQH
      generalize wr.drewN nq = w2 at k1 k2 hbr ⊢
      have e0 := k2.c0
      have e1 := k2.c1
      have e2 := k2.c2
      have e3 := k2.c3
      go_wp2_with fail
      have hbm := k2.lt
      have hb0 := Below.refl w2.heap.size w2
      rw [hmd]
      have hnes : Nonempty (Hs w2 bm s) := ⟨⟨w2, ⟨e3, hb0⟩⟩⟩
      have hx3 : ∀ x : Hs w2 bm s, x.val.cell? ⟨bm, 3, none⟩ = some (.int .i64 s) := fun x => x.holds.1
      refine wp_region_quiet (C := fun W => ∃ x : Hs w2 bm s, W = x.val) (by kernel_rfl) (by kernel_rfl) ⟨⟨w2.drew, ⟨by simpa using e3, hb0.drew⟩⟩, rfl⟩ ?_
      change wpQuiet _ _ _ _ (_ :: _) _
      by_cases hc1 : rt < N
      · have hc1' : (rt : Int) < (N : Int) := by omega
        repeat (go_big_quiet_step (first
          | exact size_held nx N HG1.out (by omega) (by omega) hbm _
          | exact size_held s T HG4.out (by omega) (by omega) hbm _))
        refine wpQuiet_nil ?_
        rintro w3 ⟨x3, rfl⟩
        have m1 := k1.below x3.holds.2 k1.lt
        have m2 := k2.below x3.holds.2 k2.lt
        have HB3 := Lib.hid (hbr.trans (x3.holds.2.mono hbr.size))
        generalize x3.val = w3 at m1 m2 HB3 ⊢
        have f0 := m1.free 0
        have f1 := m1.free 1
        have f2 := m1.free 2
        have f3 := m1.free 3
        have g0 := m1.c0
        have g1 := m1.c1
        have g2 := m1.c2
        have g3 := m1.c3
        have i0 := m2.c0
        have i1 := m2.c1
        have i2 := m2.c2
        have i3 := m2.c3
        have M1 := Lib.hid m1
        clear e0 e1 e2 e3 hx3 m1 m2 k1 k2 hbr
        go_wp2_with fail
        refine bodyPost_ret ((M1.out.st p q r s).result rfl) rfl ⟨p, q, r, s, A, D, sg, P, Q, R, T, rfl, HH.out.1, HH.out.2.1, HH.out.2.2.1, HH.out.2.2.2.1, HH.out.2.2.2.2, below_st4 HB3.out (Nat.le_refl _) p q r s⟩
      · have hc1' : decide ((rt : Int) < (N : Int)) = false := decide_eq_false (by omega)
        by_cases hc2 : D < N + T + rt
        · have hc2' : (D : Int) - (rt : Int) < (N : Int) + (T : Int) := by omega
          repeat (go_big_quiet_step (first
            | exact size_held nx N HG1.out (by omega) (by omega) hbm _
            | exact size_held s T HG4.out (by omega) (by omega) hbm _))
          refine wpQuiet_nil ?_
          rintro w3 ⟨x3, rfl⟩
          have m1 := k1.below x3.holds.2 k1.lt
          have m2 := k2.below x3.holds.2 k2.lt
          have HB3 := Lib.hid (hbr.trans (x3.holds.2.mono hbr.size))
          generalize x3.val = w3 at m1 m2 HB3 ⊢
          have f0 := m1.free 0
          have f1 := m1.free 1
          have f2 := m1.free 2
          have f3 := m1.free 3
          have g0 := m1.c0
          have g1 := m1.c1
          have g2 := m1.c2
          have g3 := m1.c3
          have i0 := m2.c0
          have i1 := m2.c1
          have i2 := m2.c2
          have i3 := m2.c3
          have M1 := Lib.hid m1
          clear e0 e1 e2 e3 hx3 m1 m2 k1 k2 hbr
          go_wp2_with fail
          refine bodyPost_ret ((M1.out.st p q r s).result rfl) rfl ⟨p, q, r, s, A, D, sg, P, Q, R, T, rfl, HH.out.1, HH.out.2.1, HH.out.2.2.1, HH.out.2.2.2.1, HH.out.2.2.2.2, below_st4 HB3.out (Nat.le_refl _) p q r s⟩
        · have hc2' : decide ((D : Int) - (rt : Int) < (N : Int) + (T : Int)) = false := decide_eq_false (by omega)
          repeat (go_big_quiet_step (first
            | exact size_held nx N HG1.out (by omega) (by omega) hbm _
            | exact size_held s T HG4.out (by omega) (by omega) hbm _))
          refine wpQuiet_nil ?_
          rintro w3 ⟨x3, rfl⟩
          have HST := Lib.hid (HH.out.1.step hab ha hDp (by have := HN.out; rw [HQT.out] at this; rw [← this, ← HRT.out]; omega) (by have := HN.out; rw [HQT.out] at this; rw [← this, ← HRT.out]; omega))
          rw [← HQT.out, ← HN.out, ← HM.out, ← HRT.out] at HST
          have hMN := HST.out.rt
          have hN9 := HST.out.tb
          have hRT := HH.out.1.rt
          have hqR : qt * R ≤ M := by have := HM.out; omega
          obtain ⟨v2, hv3, hv4, hv5⟩ : ∃ v2 : Int, (qt : Int) * r = v2 ∧ -1000000000 ≤ v2 ∧ v2 ≤ 1000000000 := by
            refine ⟨_, rfl, ?_⟩
            have e : ((qt * R : Nat) : Int) = (qt : Int) * R := by simp
            rcases HH.out.1.sgn with h | h
            · rw [HH.out.2.2.2.1, h, show (qt : Int) * (-1 * (R : Int)) = -((qt : Int) * R) by rw [Int.neg_one_mul, Int.mul_neg], ← e]; omega
            · rw [HH.out.2.2.2.1, h, show (qt : Int) * (- -1 * (R : Int)) = (qt : Int) * R by rw [Int.neg_neg, Int.one_mul], ← e]; omega
          obtain ⟨nr, hnr, hnr2⟩ : ∃ nr : Int, p - v2 = nr ∧ nr = sg * M := by
            refine ⟨_, rfl, ?_⟩
            rw [← hv3, HH.out.2.1, HH.out.2.2.2.1, HM.out, Int.natCast_add, Int.natCast_mul, Int.mul_add]
            have : (qt : Int) * (-sg * R) = -(sg * ((qt : Int) * R)) := by rw [Int.neg_mul, Int.mul_neg]; congr 1; ac_rfl
            rw [this]; omega
          have hnb : -1000000000 ≤ nr ∧ nr ≤ 1000000000 := by
            rcases HH.out.1.sgn with h | h
            · rw [hnr2, h]; omega
            · rw [hnr2, h]; omega
          obtain ⟨hnb1, hnb2⟩ := hnb
          have HNR := Lib.hid hnr2
          have m1 := k1.below x3.holds.2 k1.lt
          have m2 := k2.below x3.holds.2 k2.lt
          have HB3 := Lib.hid (hbr.trans (x3.holds.2.mono hbr.size))
          generalize x3.val = w3 at m1 m2 HB3 ⊢
          have f0 := m2.free 0
          have f1 := m2.free 1
          have f2 := m2.free 2
          have f3 := m2.free 3
          have i0 := m2.c0
          have i1 := m2.c1
          have i2 := m2.c2
          have i3 := m2.c3
          have M1 := Lib.hid m1
          have M2 := Lib.hid m2
          clear e0 e1 e2 e3 hx3 m1 m2 k1 k2 hbr hnr2
          go_wp2_with fail
          go_roundw
          case rel => exact ⟨D, rt, -sg, R, T, M, N, r, s, nr, nx, rfl, by rw [← hmd], Lib.hid ⟨HST.out, HH.out.2.2.2.1, by rw [Int.neg_neg]; exact HH.out.2.2.2.2, by rw [Int.neg_neg]; exact HNR.out, HNX.out⟩, M1.out.stOther (Ne.symm hne) r s nr nx, M2.out.st r s nr nx, below_st4 HB3.out (Nat.le_of_lt hlt) r s nr nx⟩
          case measure => simp [intOf]; omega

end Go.Proofs.YtiocehlefpbbhaaGreatDoor
