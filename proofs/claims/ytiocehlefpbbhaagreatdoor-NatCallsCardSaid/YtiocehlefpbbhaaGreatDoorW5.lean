/-
  The contract of Compare.
-/
import Derived.Test.YtiocehlefpbbhaaGreatDoorW4
import Derived.Test.YtiocehlefpbbhaaGreatDoorShelf
import Derived.StillTailTactics
namespace Go.Proofs.YtiocehlefpbbhaaGreatDoor
open Go.RowKit NV

theorem div_step (n k : Nat) : n / B ^ k = n / B ^ (k + 1) * 1000000000 + dg n k := by
  rw [dg, pow_succ, ← Nat.div_div_eq_div_mul]
  have := Nat.mod_add_div (n / B ^ k) B
  rw [B_eq] at this ⊢
  omega

theorem lt_of_dg {a b k : Nat} (h : a / B ^ (k + 1) = b / B ^ (k + 1)) (hd : dg a k < dg b k) : a < b := by
  have h1 := div_step a k
  have h2 := div_step b k
  have h3 : a / B ^ k < b / B ^ k := by omega
  by_cases hab : a < b
  · exact hab
  · have := Nat.div_le_div_right (c := B ^ k) (show b ≤ a by omega)
    omega

theorem eq_of_dg {a b k : Nat} (h : a / B ^ (k + 1) = b / B ^ (k + 1)) (hd : dg a k = dg b k) : a / B ^ k = b / B ^ k := by
  rw [div_step a k, div_step b k, h, hd]

/-- How two numbers compare. -/
def cmpN (a b : Nat) : Int := if a < b then -1 else if b < a then 1 else 0

theorem cmpN_lt {a b : Nat} (h : a < b) : cmpN a b = -1 := if_pos h
theorem cmpN_gt {a b : Nat} (h : b < a) : cmpN a b = 1 := by rw [cmpN, if_neg (by omega), if_pos h]
theorem cmpN_eq (a : Nat) : cmpN a a = 0 := by rw [cmpN, if_neg (by omega), if_neg (by omega)]
theorem cmpN_low {a b : Nat} (h : a < b) : cmpN a b < 0 := by rw [cmpN_lt h]; omega
theorem cmpN_high {a b : Nat} (h : b ≤ a) : 0 ≤ cmpN a b := by
  by_cases e : b < a
  · rw [cmpN_gt e]; omega
  · rw [show a = b by omega, cmpN_eq]; omega

set_option maxHeartbeats 400000 in
theorem isNaN_u64 (x : Int) (w : World) : Calls Tryz.prog 96 #[.int .u64 x] w fun e w' => e = .returned (.bool false) ∧ w = w' := by
  go_enter Tryz.func96, Tryz.ntmps96
  go_wp2
  go_ret
  exact ⟨by simp, rfl⟩

set_option maxHeartbeats 400000 in
/-- cmp.Compare at uint64. -/
theorem compareU (x y : Int) (w : World) : Calls Tryz.prog 82 #[.int .u64 x, .int .u64 y] w fun e w' => e = .returned (.int .i64 (Go.Lib.compareInt x y)) ∧ w = w' := by
  by_cases h1 : x < y
  · have HR := Lib.hid (show (-1 : Int) = Go.Lib.compareInt x y by unfold Go.Lib.compareInt; rw [if_pos h1])
    go_enter Tryz.func82, Tryz.ntmps82
    go_wp2_with fail
    refine (isNaN_u64 _ _).mono ?_
    rintro e w' ⟨rfl, rfl⟩
    go_wp2_with fail
    refine (isNaN_u64 _ _).mono ?_
    rintro e w' ⟨rfl, rfl⟩
    go_wp2_with fail
    go_ret
    exact ⟨ret_int HR.out, rfl⟩
  · by_cases h2 : y < x
    · have HR := Lib.hid (show (1 : Int) = Go.Lib.compareInt x y by unfold Go.Lib.compareInt; rw [if_neg h1, if_pos h2])
      go_enter Tryz.func82, Tryz.ntmps82
      go_wp2_with fail
      refine (isNaN_u64 _ _).mono ?_
      rintro e w' ⟨rfl, rfl⟩
      go_wp2_with fail
      refine (isNaN_u64 _ _).mono ?_
      rintro e w' ⟨rfl, rfl⟩
      go_wp2_with fail
      go_ret
      exact ⟨ret_int HR.out, rfl⟩
    · have HR := Lib.hid (show (0 : Int) = Go.Lib.compareInt x y by unfold Go.Lib.compareInt; rw [if_neg h1, if_neg h2])
      go_enter Tryz.func82, Tryz.ntmps82
      go_wp2_with fail
      refine (isNaN_u64 _ _).mono ?_
      rintro e w' ⟨rfl, rfl⟩
      go_wp2_with fail
      refine (isNaN_u64 _ _).mono ?_
      rintro e w' ⟨rfl, rfl⟩
      go_wp2_with fail
      go_ret
      exact ⟨ret_int HR.out, rfl⟩

set_option maxHeartbeats 800000 in
set_option maxRecDepth 100000 in
/-- Compare tells how two numbers compare. -/
theorem ncmp_any {w : World} {x y : Value} {a b : Nat} (hx : Num w x a) (hy : Num w y b) (ha : ln a ≤ 1073741824) (_hb : ln b ≤ 1073741824) :
    Calls Tryz.prog 59 #[x, y] w fun e w' => e = .returned (.int .i64 (cmpN a b)) ∧ Below w.heap.size w w' := by
  obtain ⟨xa, xc, rfl⟩ := slice_any hx
  obtain ⟨ya, yc, rfl⟩ := slice_any hy
  by_cases hl : ln a = ln b
  · have hlb : ln b ≤ ln a := by omega
    have hla : ln a ≤ ln b := by omega
    obtain ⟨L, hL⟩ : ∃ L, L = ln a := ⟨_, rfl⟩
    have hd0 : a / B ^ L = b / B ^ L := by
      rw [Nat.div_eq_of_lt (by rw [hL]; exact lt_pow_ln a), Nat.div_eq_of_lt (by rw [hL, hl]; exact lt_pow_ln b)]
    rw [← hL] at hl
    rw [← hL, ← hl]
    have HL := Lib.hid hL
    have HL2 := Lib.hid hl
    have hL3 : L ≤ ln a := by omega
    have hL4 : L ≤ ln b := by omega
    have hL5 : L ≤ 1073741824 := by omega
    clear hL hl hla hlb
    go_enter Tryz.func59, Tryz.ntmps59
    go_wp2
    go_loopw [5] (fun i wr => ∃ k : Nat, k ≤ L ∧ i = .int .i64 ((k : Int) - 1) ∧ a / B ^ k = b / B ^ k ∧ Below w.heap.size w wr) (fun i _ => ((intOf i) + 1).toNat)
    case atStart => exact ⟨L, Nat.le_refl _, rfl, hd0, Below.refl _ _⟩
    case round =>
      obtain ⟨k, hk, rfl, hdk, hbr⟩ := hrel
      have HD := Lib.hid hdk
      clear hdk hd0
      by_cases h0 : 0 < k
      · obtain ⟨q, rfl⟩ : ∃ q, k = q + 1 := ⟨k - 1, by omega⟩
        obtain ⟨xb, rfl⟩ := hx.addr (by omega)
        obtain ⟨yb, rfl⟩ := hy.addr (by omega)
        have c1 := (hx.below hbr)
        have c2 := (hy.below hbr)
        have d1 := c1.cell (j := q) (by omega)
        have d2 := c2.cell (j := q) (by omega)
        clear c1 c2
        by_cases he : dg a q = dg b q
        · have HE := Lib.hid (eq_of_dg HD.out he)
          rw [he] at d1
          clear he
          go_wp2_with fail
          go_quiet (fail)
          go_wp2_with fail
          go_roundw
          case rel => exact ⟨q, by omega, rfl, HE.out, below_drewN hbr _⟩
          case measure => simp [intOf]
        · have hne : (((dg a q : Nat) : Int) != ((dg b q : Nat) : Int)) = true := by rw [bne_iff_ne]; omega
          have HR := Lib.hid (show Go.Lib.compareInt ((dg a q : Nat) : Int) ((dg b q : Nat) : Int) = cmpN a b by
            unfold Go.Lib.compareInt
            by_cases hlt : dg a q < dg b q
            · rw [if_pos (by omega), cmpN_lt (lt_of_dg HD.out hlt)]
            · rw [if_neg (by omega), if_pos (by omega), cmpN_gt (lt_of_dg HD.out.symm (show dg b q < dg a q by omega))])
          clear he
          go_wp2_with fail
          go_quiet (fail)
          go_wp2_with fail
          have e3 : (q : Int) < (L : Int) := by omega
          have hb8 := below_drewN hbr nq
          have d3 : (wr.drewN nq).cell? ⟨xb, q, none⟩ = some (.int .u64 ((dg a q : Nat) : Int)) := by rw [World.cell?_drewN]; exact d1
          have d4 : (wr.drewN nq).cell? ⟨yb, q, none⟩ = some (.int .u64 ((dg b q : Nat) : Int)) := by rw [World.cell?_drewN]; exact d2
          generalize wr.drewN nq = w8 at hb8 d3 d4 ⊢
          go_still_tail 8, (by kernel_rfl)
          change wpList _ _ _ _ _ w8.drew
          have hb9 := hb8.drew
          generalize w8.drew = w9 at hb9 ⊢
          go_wp2_with fail
          refine (compareU _ _ _).mono ?_
          rintro e w' ⟨rfl, rfl⟩
          go_wp2_with fail
          go_ret
          exact ⟨ret_int HR.out, hb9⟩
      · obtain rfl : k = 0 := by omega
        have hab : a = b := by have := HD.out; simpa using this
        have HR := Lib.hid (show (0 : Int) = cmpN a b by rw [hab, cmpN_eq])
        clear hab
        go_wp2_with fail
        go_ret
        exact ⟨ret_int HR.out, hbr⟩
  · have HR := Lib.hid (show Go.Lib.compareInt ((ln a : Nat) : Int) ((ln b : Nat) : Int) = cmpN a b by
      unfold Go.Lib.compareInt
      by_cases h : ln a < ln b
      · rw [if_pos (by omega), cmpN_lt (lt_of_ln_lt h)]
      · rw [if_neg (by omega), if_pos (by omega), cmpN_gt (lt_of_ln_lt (show ln b < ln a by omega))])
    have hne : (((ln a : Nat) : Int) != ((ln b : Nat) : Int)) = true := by rw [bne_iff_ne]; omega
    clear hl
    go_enter Tryz.func59, Tryz.ntmps59
    go_wp2_with fail
    refine (Tryz.cmp_Compare_int _ _ _).mono ?_
    rintro e w' ⟨rfl, rfl⟩
    go_wp2_with fail
    go_ret
    exact ⟨ret_int HR.out, Below.refl _ _⟩

end Go.Proofs.YtiocehlefpbbhaaGreatDoor
