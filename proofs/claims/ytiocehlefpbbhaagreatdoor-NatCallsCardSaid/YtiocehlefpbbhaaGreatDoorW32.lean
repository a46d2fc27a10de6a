/-
  The contract of CommonDivisor.
-/
import Derived.Test.YtiocehlefpbbhaaGreatDoorW31
import Derived.Deep.Cut
import Derived.Laws.StructEq
import Derived.Deep.CutRange
namespace Go.Proofs.YtiocehlefpbbhaaGreatDoor
open Go.RowKit NV

set_option maxHeartbeats 1600000 in
set_option maxRecDepth 100000 in
theorem eq_mt_d (D : Nat) (a b c d a' b' c' d' : Int) (w : World) : (Op.equalIn (D + 1 + 1) 88 (.agg #[.int .i64 a, .int .i64 b, .int .i64 c, .int .i64 d]) (.agg #[.int .i64 a', .int .i64 b', .int .i64 c', .int .i64 d'])).run Tryz.prog w = .ok (a == a' && b == b' && c == c' && d == d') w := by
  have hu := Tryz.underlying88
  have hu2 := Tryz.underlying2
  have hz := Tryz.sizeOf2
  have ha := Tryz.isAgg2
  have e : ∀ (x y : Int) (w : World), (Op.equalIn (D + 1) 2 (.int .i64 x) (.int .i64 y)).run Tryz.prog w = .ok (x == y) w := fun x y w => run_equalIn_int w D 2 .i64 .i64 x y hu2
  rw [Op.equalIn]
  simp only [Sem.run_bind, run_underlying hu, Result.andThen_ok, hz]
  have hp : ∀ (xs : Array Value) (i : Nat) (u : Value) (w : World), xs[i]? = some u → (part 2 xs i).run Tryz.prog w = .ok u w := by
    intro xs i u w hi
    simp [part, ha, hz, hi]
  rw [Std.Legacy.Range.forIn_eq_forIn_range']
  have hr : List.range' [:4].start [:4].size [:4].step = [0, 1, 2, 3] := by decide
  rw [hr]
  simp only [List.forIn_cons, List.forIn_nil, Sem.run_bind, Nat.mul_one]
  rw [hp _ 0 (.int .i64 a) w rfl, Result.andThen_ok, hp _ 0 (.int .i64 a') w rfl, Result.andThen_ok, e, Result.andThen_ok]
  cases a == a'
  · simp
  simp only [Bool.not_true, Bool.false_eq_true, if_false, Sem.run_pure, Result.andThen_ok, Sem.run_bind]
  rw [hp _ 1 (.int .i64 b) w rfl, Result.andThen_ok, hp _ 1 (.int .i64 b') w rfl, Result.andThen_ok, e, Result.andThen_ok]
  cases b == b'
  · simp
  simp only [Bool.not_true, Bool.false_eq_true, if_false, Sem.run_pure, Result.andThen_ok, Sem.run_bind]
  rw [hp _ 2 (.int .i64 c) w rfl, Result.andThen_ok, hp _ 2 (.int .i64 c') w rfl, Result.andThen_ok, e, Result.andThen_ok]
  cases c == c'
  · simp
  simp only [Bool.not_true, Bool.false_eq_true, if_false, Sem.run_pure, Result.andThen_ok, Sem.run_bind]
  rw [hp _ 3 (.int .i64 d) w rfl, Result.andThen_ok, hp _ 3 (.int .i64 d') w rfl, Result.andThen_ok, e, Result.andThen_ok]
  cases d == d'
  · simp
  simp

theorem eq_mt (a b c d a' b' c' d' : Int) (w : World) : (Op.equalIn 10000 88 (.agg #[.int .i64 a, .int .i64 b, .int .i64 c, .int .i64 d]) (.agg #[.int .i64 a', .int .i64 b', .int .i64 c', .int .i64 d'])).run Tryz.prog w = .ok (a == a' && b == b' && c == c' && d == d') w := eq_mt_d 9998 a b c d a' b' c' d' w

theorem sm_of {a0 b0 a b : Nat} {sg : Int} {P Q R T : Nat} (h : Lh a0 b0 a b sg P Q R T) : Sm (sg * P) (-sg * Q) ∧ Sm (-sg * R) (sg * T) := by
  have h1 := h.tb
  have h2 := h.qt
  have h3 := h.rt
  have h4 : P ≤ 1000000000 := by rcases h.pq with ⟨e, _⟩ | ⟨e, _⟩ <;> omega
  unfold Sm
  rcases h.sgn with e | e
  · rw [e]; constructor <;> omega
  · rw [e]; constructor <;> omega

/-- What the limbs of block g are worth, k of them: for a loop's measure. -/
def worth (w : World) (g : Nat) : Nat → Nat
  | 0 => 0
  | k + 1 => worth w g k + B ^ k * (intOf ((w.cell? ⟨g, k, none⟩).getD .nilIface)).toNat

def valOf (w : World) : Value → Nat
  | .slice (some a) n _ => worth w a.block n
  | _ => 0

theorem worth_num {w : World} {g n : Nat} : ∀ k, (∀ j, j < k → w.cell? ⟨g, j, none⟩ = some (.int .u64 ((dg n j : Nat) : Int))) → worth w g k = n % B ^ k
  | 0, _ => by simp [worth, Nat.mod_one]
  | k + 1, h => by
    rw [worth, worth_num k (fun j hj => h j (by omega)), h k (by omega), mod_succ]
    simp [intOf]

theorem Num.val {w : World} {v : Value} {n : Nat} (h : Num w v n) : valOf w v = n := by
  obtain ⟨a, c, rfl, ⟨h0, rfl, rfl⟩ | ⟨b, rfl, _, _, h4⟩⟩ := h
  · rw [h0]; rfl
  · show worth w b (ln n) = n
    rw [worth_num _ h4, Nat.mod_eq_of_lt (lt_pow_ln n)]

/-- The loop's state: two numbers, the second not greater; where another round comes, they lie in memory of the call's own. -/
def Gs2 (w wr : World) (a b : Nat) (s0 s1 : Value) (X Y : Nat) : Prop :=
  Num wr s0 X ∧ Num wr s1 Y ∧ Y ≤ X ∧ ln X ≤ 1000000 ∧ Hid (Nat.gcd X Y = Nat.gcd a b) ∧ Below w.heap.size w wr ∧
    (2 < ln Y → ∃ gx cx gy cy, s0 = .slice (some ⟨gx, 0, none⟩) (ln X) cx ∧ s1 = .slice (some ⟨gy, 0, none⟩) (ln Y) cy ∧ Hold wr gx (ln X) cx (dg X) ∧ Hold wr gy (ln Y) cy (dg Y) ∧ gx < gy ∧ w.heap.size ≤ gx)

set_option maxHeartbeats 3200000 in
set_option maxRecDepth 100000 in
/-- CommonDivisor returns the greatest common divisor. -/
theorem gcd_any {w : World} {x y : Value} {a b : Nat} (hx : Num w x a) (hy : Num w y b) (ha : ln a ≤ 1000000) (hb : ln b ≤ 1000000) :
    Calls Tryz.prog 43 #[x, y] w fun e w' => ∃ v, e = .returned v ∧ Num w' v (Nat.gcd a b) ∧ Below w.heap.size w w' := by
  have HC := Lib.hid (ncmp_any hx hy (by omega) (by omega))
  have HX := Lib.hid hx
  have HY := Lib.hid hy
  obtain ⟨xa, xc, rfl⟩ := slice_any hx
  obtain ⟨ya, yc, rfl⟩ := slice_any hy
  clear hx hy
  go_enter Tryz.func43, Tryz.ntmps43
  go_wp2_with fail
  refine HC.out.mono ?_
  rintro e w1 ⟨rfl, hb1⟩
  have HB1 := Lib.hid hb1
  clear hb1
  go_upto_if 15 with fail
  go_cut [0, 1] from 16 to 17 (fun s0 s1 wx => ∃ X Y, Num wx s0 X ∧ Num wx s1 Y ∧ Y ≤ X ∧ ln X ≤ 1000000 ∧ Hid (Nat.gcd X Y = Nat.gcd a b) ∧ Below w.heap.size w wx)
  case first =>
    by_cases hab : a < b
    · have hlow := cmpN_low hab
      have hlb : b ≥ a := Nat.le_of_lt hab
      go_wp2_with fail
      go_meet
      exact ⟨b, a, HY.out.below HB1.out, HX.out.below HB1.out, hlb, hb, Lib.hid (Nat.gcd_comm b a), HB1.out⟩
    · have hhigh := cmpN_high (show b ≤ a by omega)
      go_wp2_with fail
      go_meet
      exact ⟨a, b, HX.out.below HB1.out, HY.out.below HB1.out, by omega, ha, Lib.hid rfl, HB1.out⟩
  case rest =>
  obtain ⟨X, Y, hX, hY, hYX, hlX, hG, hbc⟩ := hcut
  clear HX HY HC HB1
  have HX := Lib.hid hX
  have HY := Lib.hid hY
  have HBC := Lib.hid hbc
  have hlYX := ln_mono hYX
  obtain ⟨sa, sc, rfl⟩ := slice_any hX
  obtain ⟨ta, tc, rfl⟩ := slice_any hY
  clear hX hY hbc
  go_upto_if 20 with fail
  go_cut [0, 1] from 20 to 24 (fun s0 s1 wx => Gs2 w wx a b s0 s1 X Y)
  case first =>
    by_cases h2 : 2 < ln Y
    · obtain ⟨gx, cx, hfx, hgx, _⟩ := slice_form HX.out (by omega)
      obtain ⟨gy, cy, hfy, hgy, _⟩ := slice_form HY.out (by omega)
      simp only [Value.slice.injEq] at hfx hfy
      obtain ⟨rfl, _, rfl⟩ := hfx
      obtain ⟨rfl, _, rfl⟩ := hfy
      have HCX := Lib.hid (clone_any HX.out hlX)
      go_wp2_with fail
      refine HCX.out.mono ?_
      rintro e w2 ⟨g1, c1, rfl, hg1, hh1, hb1⟩
      have HCY := Lib.hid (clone_any (HY.out.below hb1) (by omega))
      have HH1 := Lib.hid hh1
      have HB1 := Lib.hid hb1
      have hs1 := hb1.size
      have hl1 := hh1.lt
      have hs0 := HBC.out.size
      clear hh1 hb1 HCX
      go_wp2_with fail
      refine HCY.out.mono ?_
      rintro e w3 ⟨g2, c2, rfl, hg2, hh2, hb2⟩
      have hx2 := HH1.out.below hb2 hl1
      have hb3 := HBC.out.trans ((HB1.out.mono hs0).trans (hb2.mono (by omega)))
      have HF := Lib.hid (show Gs2 w w3 a b (.slice (some ⟨g1, 0, none⟩) (ln X) c1) (.slice (some ⟨g2, 0, none⟩) (ln Y) c2) X Y from ⟨hx2.num, hh2.num, hYX, hlX, hG, hb3, fun _ => ⟨g1, c1, g2, c2, rfl, rfl, hx2, hh2, by omega, by omega⟩⟩)
      clear hh2 hb2 hx2 hb3 HCY
      go_wp2_with fail
      go_meet
      exact HF.out
    · go_wp2_with fail
      go_meet
      exact ⟨HX.out, HY.out, hYX, hlX, hG, HBC.out, fun h => absurd h h2⟩
  case rest =>
  have HST := Lib.hid hcut
  clear hcut HX HY HBC
  go_wp2_with fail
  go_loopw [0, 1] (fun s0 s1 wr => ∃ X Y, Gs2 w wr a b s0 s1 X Y) (fun s0 s1 wr => valOf wr s0 + valOf wr s1)
  case atStart => exact ⟨X, Y, HST.out⟩
  case round =>
    clear HST hYX hlX hG hlYX
    obtain ⟨X, Y, hX, hY, hYX, hlX, hG, hbr, hown⟩ := hrel
    have hlYX := ln_mono hYX
    by_cases h2 : 2 < ln Y
    · obtain ⟨gx, cx, gy, cy, rfl, rfl, hhx, hhy, hgg, hgb⟩ := hown h2
      have hY0 : 0 < Y := by
        by_cases e : Y = 0
        · rw [e, ln_zero] at h2; omega
        · omega
      have HLE := Lib.hid (leading_any hX hY hYX (by omega) hlX)
      have HX := Lib.hid hX
      have HY := Lib.hid hY
      have HHX := Lib.hid hhx
      have HHY := Lib.hid hhy
      have HBR := Lib.hid hbr
      have hgyl := hhy.lt
      have hsr := hbr.size
      have HVX := Lib.hid hX.val
      have HVY := Lib.hid hY.val
      clear hX hY hbr hhx hhy hown
      go_wp2_with fail
      refine HLE.out.mono ?_
      rintro e w2 ⟨S, a0, b0, rfl, hS, ea, eb, ha0, hb2⟩
      have hba0 : b0 ≤ a0 := by rw [ea, eb]; exact Nat.div_le_div_right hYX
      have HFO := Lib.hid (foresee_any (w := w2) hba0 ha0)
      have HEA := Lib.hid ea
      have HEB := Lib.hid eb
      have HB2 := Lib.hid hb2
      have hs2 := hb2.size
      clear hb2 ea eb HLE
      go_wp2_with fail
      refine HFO.out.mono ?_
      rintro e w3 ⟨p, q, r, s, A, D, sg, P, Q, R, T, rfl, hL, hp, hq, hr, hs, hb3⟩
      have HB3 := Lib.hid hb3
      have HL := Lib.hid (And.intro hL (And.intro hp (And.intro hq (And.intro hr hs))))
      have hs3 := hb3.size
      have heq := eq_mt p q r s 1 0 0 1
      have hb4 : Below w3.heap.size w3 (w3.alloc (Obj.cells #[Value.int .i64 p, Value.int .i64 q, Value.int .i64 r, Value.int .i64 s] 88)) := (Below.refl _ _).alloc (Nat.le_refl _) _
      have hb5 := (HB2.out.trans (HB3.out.mono hs2)).trans (hb4.mono (Nat.le_trans hs2 hs3))
      have hb6 := HBR.out.trans (hb5.mono hsr)
      have hx5 := HHX.out.below hb5 (by omega)
      have hy5 := HHY.out.below hb5 hgyl
      have hs5 := hb5.size
      clear hL hp hq hr hs hb3 HFO hb4
      by_cases hI : (p == 1 && q == 0 && r == 0 && s == 1) = true
      · have HDV := Lib.hid (divide_many (n := ln Y - 2) hx5.num hy5.num hlX (by omega) hYX)
        have H5 := Lib.hid (And.intro hy5 hb6)
        clear hx5 hy5 hb5 hb6
        go_wp2_with fail
        refine HDV.out.mono ?_
        rintro e w6 ⟨qv, rv, rfl, _, hrr, hb7⟩
        obtain ⟨gr, cr, rfl, hgr, hhr⟩ := hrr.hold
        have hy7 := H5.out.1.below hb7 H5.out.1.lt
        have hb8 := H5.out.2.trans (hb7.mono H5.out.2.size)
        have hmod : X % Y < Y := Nat.mod_lt _ hY0
        have hnewv : valOf w6 (.slice (some ⟨gy, 0, none⟩) (ln Y) cy) = Y ∧ valOf w6 (.slice (some ⟨gr, 0, none⟩) (ln (X % Y)) cr) = X % Y := ⟨hy7.num.val, hhr.num.val⟩
        have HF := Lib.hid (And.intro hnewv (show Gs2 w w6 a b (.slice (some ⟨gy, 0, none⟩) (ln Y) cy) (.slice (some ⟨gr, 0, none⟩) (ln (X % Y)) cr) Y (X % Y) from ⟨hy7.num, hhr.num, Nat.le_of_lt hmod, by omega, Lib.hid (by rw [← hG.out, Nat.gcd_comm X Y, Nat.gcd_rec Y X, Nat.gcd_comm]), hb8, fun _ => ⟨gy, cy, gr, cr, rfl, rfl, hy7, hhr, by omega, by omega⟩⟩))
        have HM := Lib.hid (show Y + X % Y < X + Y by omega)
        clear hrr hhr hy7 hb7 hb8 hnewv hmod
        go_wp2_with fail
        go_roundw
        case rel => exact ⟨Y, X % Y, HF.out.2⟩
        case measure => rw [HF.out.1.1, HF.out.1.2, HVX.out, HVY.out]; exact HM.out
      · have hI2 : (p == 1 && q == 0 && r == 0 && s == 1) = false := by simpa using hI
        obtain ⟨hL, hp, hq, hr, hs⟩ := HL.out
        have hR1 : 1 ≤ R := by
          rcases hL.pq with ⟨e1, e2, e3, e4, e5⟩ | ⟨_, e, _⟩
          · exfalso
            rw [hp, hq, hr, hs, e1, e2, e3, e4, e5] at hI2
            simp at hI2
          · exact e
        obtain ⟨X', Y', eX, eY, hYX', hx', hy'⟩ := hL.apply hS HEA.out HEB.out hYX
        obtain ⟨hless, hXX⟩ := hL.less hR1 hx' hy' hY0 hYX'
        have hgcd := gcd_lin hx' hy' eX eY
        obtain ⟨sm1, sm2⟩ := sm_of hL
        rw [← hp, ← hq] at eX sm1
        rw [← hr, ← hs] at eY sm2
        have lX : X' < B ^ ln X := Nat.lt_of_le_of_lt hXX (lt_pow_ln X)
        have lY : Y' < B ^ ln X := Nat.lt_of_le_of_lt hYX' lX
        have HAP := Lib.hid (apply_any hx5 hy5 hgg hlYX hlX sm1 sm2 eX eY lX lY hgb)
        have HN := Lib.hid (And.intro hless (And.intro hgcd (And.intro hYX' hXX)))
        have H6 := Lib.hid hb6
        have HI2 := Lib.hid hI2
        have hlX' : ln X' ≤ 1000000 := by have := ln_mono hXX; omega
        clear hL hp hq hr hs eX eY hYX' hx' hy' hless hXX hgcd sm1 sm2 lX lY hx5 hy5 hb5 hb6 hI
        go_wp2_with fail
        refine HAP.out.mono ?_
        rintro e w6 ⟨g6, c6, rfl, hx6, hy6, hg6, hb7⟩
        have hb8 := H6.out.trans hb7
        have hnewv : valOf w6 (.slice (some ⟨gx, 0, none⟩) (ln X') cx) = X' ∧ valOf w6 (.slice (some ⟨g6, 0, none⟩) (ln Y') c6) = Y' := ⟨hx6.num.val, hy6.num.val⟩
        have HF := Lib.hid (And.intro hnewv (show Gs2 w w6 a b (.slice (some ⟨gx, 0, none⟩) (ln X') cx) (.slice (some ⟨g6, 0, none⟩) (ln Y') c6) X' Y' from ⟨hx6.num, hy6.num, HN.out.2.2.1, hlX', Lib.hid (HN.out.2.1.trans hG.out), hb8, fun _ => ⟨gx, cx, g6, c6, rfl, rfl, hx6, hy6, hg6, hgb⟩⟩))
        clear hx6 hy6 hb7 hb8 hnewv
        go_wp2_with fail
        go_roundw
        case rel => exact ⟨X', Y', HF.out.2⟩
        case measure => rw [HF.out.1.1, HF.out.1.2, HVX.out, HVY.out]; exact HN.out.1
    · have hl2 : ln Y ≤ 2 := by omega
      have HX := Lib.hid hX
      have HY := Lib.hid hY
      have HBR := Lib.hid hbr
      obtain ⟨sa, sc, rfl⟩ := slice_any hX
      obtain ⟨ta, tc, rfl⟩ := slice_any hY
      clear hX hY hbr hown h2
      by_cases hY0 : ln Y = 0
      · have hz := ln_eq_zero hY0
        have HG := Lib.hid (show X = Nat.gcd a b by have := hG.out; rwa [hz, Nat.gcd_zero_right] at this)
        have hY00 : (((ln Y : Nat) : Int) == 0) = true := by rw [hY0]; rfl
        clear hz hY0
        go_wp2_with fail
        go_ret
        exact ⟨_, rfl, by rw [← HG.out]; exact HX.out, HBR.out⟩
      · have hYne : Y ≠ 0 := by intro e; rw [e, ln_zero] at hY0; exact hY0 rfl
        have hY00 : (((ln Y : Nat) : Int) == 0) = false := by rw [beq_eq_false_iff_ne]; omega
        clear hY0
        go_upto_if 58 with fail
        go_cut [0, 1] from 58 to 66 (fun s0 s1 wx => ∃ A D, Num wx s0 A ∧ Num wx s1 D ∧ ln A ≤ 2 ∧ ln D ≤ 2 ∧ Hid (Nat.gcd A D = Nat.gcd a b) ∧ Below w.heap.size w wx)
        case first =>
          by_cases h3 : 2 < ln X
          · have HDV := Lib.hid (divide_any HX.out HY.out hlX (by omega) hYne)
            go_wp2_with fail
            refine HDV.out.mono ?_
            rintro e w6 ⟨qv, rv, rfl, _, hrr, hb7⟩
            have hmod : X % Y < Y := Nat.mod_lt _ (by omega)
            have HF := Lib.hid (And.intro (HY.out.below hb7) (And.intro hrr (And.intro (show ln (X % Y) ≤ 2 by have := ln_mono (Nat.le_of_lt hmod); omega) (And.intro (show Nat.gcd Y (X % Y) = Nat.gcd a b by rw [← hG.out, Nat.gcd_comm X Y, Nat.gcd_rec Y X, Nat.gcd_comm]) (HBR.out.trans (hb7.mono HBR.out.size))))))
            obtain ⟨ra, rc, rfl⟩ := slice_any hrr
            clear hrr hb7 hmod HDV
            go_wp2_with fail
            go_meet
            exact ⟨Y, X % Y, HF.out.1, HF.out.2.1, hl2, HF.out.2.2.1, Lib.hid HF.out.2.2.2.1, HF.out.2.2.2.2⟩
          · go_wp2_with fail
            go_meet
            exact ⟨X, Y, HX.out, HY.out, by omega, hl2, hG, HBR.out⟩
        case rest =>
        clear HX HY HBR
        obtain ⟨A, D, hA, hD, hlA, hlD, hG2, hb9⟩ := hcut
        have HSA := Lib.hid (nsmall_any hA hlA)
        have HSD := Lib.hid (nsmall_any hD hlD)
        have hAb := (small_val hlA).2
        have hDb := (small_val hlD).2
        obtain ⟨va, vc, rfl⟩ := slice_any hA
        obtain ⟨ua, uc, rfl⟩ := slice_any hD
        have HB9 := Lib.hid hb9
        clear hA hD hb9
        go_wp2_with fail
        refine HSA.out.mono ?_
        rintro e w6 ⟨rfl, rfl⟩
        go_wp2_with fail
        refine HSD.out.mono ?_
        rintro e w6 ⟨rfl, rfl⟩
        go_wp2_with fail
        clear HSA HSD
        go_loopw [10, 11] (fun s10 s11 wr => ∃ U V : Nat, s10 = .int .u64 (U : Int) ∧ s11 = .int .u64 (V : Int) ∧ U < 1000000000000000000 ∧ V < 1000000000000000000 ∧ Hid (Nat.gcd U V = Nat.gcd a b) ∧ Below w.heap.size w wr) (fun _ s11 _ => (intOf s11).toNat)
        case atStart => exact ⟨A, D, rfl, rfl, hAb, hDb, hG2, HB9.out⟩
        case round =>
          obtain ⟨U, V, rfl, rfl, hU, hV, hG3, hbr⟩ := hrel
          clear HB9
          by_cases hV0 : V = 0
          · have HG := Lib.hid (show U = Nat.gcd a b by have := hG3.out; rwa [hV0, Nat.gcd_zero_right] at this)
            have hVz : (((V : Nat) : Int) != 0) = false := by rw [hV0]; rfl
            have h0 : (U : Int) % 1000000000 = ((dg U 0 : Nat) : Int) := by rw [dg, Nat.pow_zero, Nat.div_one, B_eq]; simp
            have h1 : (U : Int) / 1000000000 = ((dg U 1 : Nat) : Int) := by
              rw [dg, Nat.pow_one, B_eq, Nat.mod_eq_of_lt (by omega)]; simp
            have hU2 : U < B ^ 2 := by rw [B_eq]; omega
            have harr : Arr (wr.alloc (.cells #[.int .u64 ((dg U 0 : Nat) : Int), .int .u64 ((dg U 1 : Nat) : Int)] 65)) wr.heap.size 2 (dg U) := by
              refine ⟨_, heap_alloc_new wr _, rfl, fun j hj => ?_⟩
              rcases (show j = 0 ∨ j = 1 by omega) with rfl | rfl <;> rfl
            have hbe : Below wr.heap.size wr (wr.alloc (.cells #[.int .u64 ((dg U 0 : Nat) : Int), .int .u64 ((dg U 1 : Nat) : Int)] 65)) := (Below.refl _ _).alloc (Nat.le_refl _) _
            have HTR := Lib.hid (trim_any (c := 2) (n := U) (by omega) (Nat.le_refl _) hU2 (fun j hj => harr.cell hj))
            have HF := Lib.hid (And.intro (harr.own (base := 0) (n := U) (Nat.zero_le _) (by omega) (ln_le hU2) (fun j _ => rfl)).num (hbr.trans (hbe.mono hbr.size)))
            clear hV0 hbr harr hbe hU2
            go_wp2_with fail
            refine HTR.out.mono ?_
            rintro e w7 ⟨rfl, rfl⟩
            go_wp2_with fail
            go_ret
            exact ⟨_, rfl, by rw [← HG.out]; exact HF.out.1, HF.out.2⟩
          · have hVp : (0 : Int) < (V : Int) := by omega
            have hVz : (((V : Nat) : Int) != 0) = true := by rw [bne_iff_ne]; omega
            have hm : U % V < V := Nat.mod_lt _ (by omega)
            have HM := Lib.hid (show (U : Int) % (V : Int) = ((U % V : Nat) : Int) by simp)
            have HG := Lib.hid (show Nat.gcd V (U % V) = Nat.gcd a b by rw [← hG3.out, Nat.gcd_comm U V, Nat.gcd_rec V U, Nat.gcd_comm])
            clear hV0
            go_wp2_with fail
            go_quiet (fail)
            go_wp2_with fail
            go_roundw
            case rel => exact ⟨V, U % V, rfl, by rw [HM.out], hV, by omega, HG, below_drewN hbr _⟩
            case measure => simp [intOf]; omega

end Go.Proofs.YtiocehlefpbbhaaGreatDoor
