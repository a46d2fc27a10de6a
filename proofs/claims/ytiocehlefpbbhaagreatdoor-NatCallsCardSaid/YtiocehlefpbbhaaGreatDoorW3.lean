/-
  The contracts of less and minus.
-/
import Derived.Test.YtiocehlefpbbhaaGreatDoorW2
import Derived.Deep.QuietTactic
import Derived.BigQuiet
namespace Go.Proofs.YtiocehlefpbbhaaGreatDoor
open Go.RowKit NV

/-- The limbs of n after k places, 0 behind them. -/
def dgf (n k : Nat) : Nat → Nat := fun j => if j < k then dg n j else 0

theorem dgf_zero (n : Nat) : dgf n 0 = fun _ => 0 := by funext j; simp [dgf]
theorem dgf_step {n k x : Nat} (h : x = dg n k) : upd (dgf n k) k x = dgf n (k + 1) := by
  funext j
  unfold upd dgf
  by_cases e : j = k
  · subst e; rw [if_pos rfl, if_pos (by omega), h]
  · rw [if_neg e]
    by_cases hj : j < k
    · rw [if_pos hj, if_pos (by omega)]
    · rw [if_neg hj, if_neg (by omega)]

set_option maxHeartbeats 800000 in
set_option maxRecDepth 100000 in
/-- minus returns the difference, in memory of its own. -/
theorem minus_any {w : World} {x y : Value} {a b : Nat} (hx : Num w x a) (hy : Num w y b) (ha : ln a ≤ 1073741824) (hba : b ≤ a) :
    Calls Tryz.prog 34 #[x, y] w fun e w' => ∃ v, e = .returned v ∧ Own w' w.heap.size v (a - b) ∧ Below w.heap.size w w' := by
  obtain ⟨i0, hi, hz0, hz1, hz2⟩ := info_parts info72
  obtain ⟨xa, xc, rfl⟩ := slice_any hx
  obtain ⟨ya, yc, rfl⟩ := slice_any hy
  have hln : ln (a - b) ≤ ln a := ln_mono (by omega)
  have hlt0 : a - b < B ^ ln a := Nat.lt_of_le_of_lt (by omega) (lt_pow_ln a)
  have HB := Lib.hid hba
  clear hba
  go_enter Tryz.func34, Tryz.ntmps34
  go_wp2_with (at_make; refine wpList_make_full _ rfl _ _ 40 rfl w.heap.size 65 i0 (.int .u64 0) 1 Tryz.underlying40 hi hz0 hz1 _ _ _ _ (ln a) rfl rfl (by omega) (by omega) (by rw [hz2]; omega) (by unfold maxLen; omega) (by simp) ?_)
  intro w1 hown1 hgrow1
  have harr : Arr w1 w.heap.size (ln a) (dgf (a - b) 0) := by rw [dgf_zero]; exact Arr.made (base := w.heap.size) (by rw [Nat.mul_one]; exact hown1)
  have hb1 : Below w.heap.size w w1 := (Below.refl _ _).grown hgrow1 (by simp) (fun k hk => by cases hk)
  clear hown1 hgrow1
  go_wp2
  go_loopw [6, 14] (fun c i wr => ∃ k : Nat, k ≤ ln a ∧ i = .int .i64 k ∧ c = .int .u64 ((bo a b k : Nat) : Int) ∧ Arr wr w.heap.size (ln a) (dgf (a - b) k) ∧ Below w.heap.size w wr) (fun _ i _ => ln a - (intOf i).toNat)
  case atStart => exact ⟨0, Nat.zero_le _, rfl, by rw [bo_zero]; rfl, harr, hb1⟩
  case round =>
    obtain ⟨k, hk, rfl, rfl, har, hbr⟩ := hrel
    have hxr := hx.below hbr
    have hyr := hy.below hbr
    by_cases hlt : k < ln a
    · obtain ⟨xb, rfl⟩ := hx.addr (by omega)
      have c1 := har.cell hlt
      have c2 := har.free k
      have c3 := hxr.cell hlt
      have b1 := dg_lt a k
      have b2 := dg_lt b k
      have b3 := bo_le a b k
      obtain ⟨e1, e2⟩ := dg_sub HB.out k
      have hv := Lib.hid (show (((dg a k : Nat) : Int) + (1000000000 - ((dg b k : Nat) : Int) - ((bo a b k : Nat) : Int))) % 1000000000 = ((dg (a - b) k : Nat) : Int) by omega)
      have hw := Lib.hid (show 1 - (((dg a k : Nat) : Int) + (1000000000 - ((dg b k : Nat) : Int) - ((bo a b k : Nat) : Int))) / 1000000000 = ((bo a b (k + 1) : Nat) : Int) by omega)
      clear harr hb1 e1 e2
      go_wp2_with fail
      refine (at_any hyr k (by omega)).mono ?_
      rintro e w2 ⟨rfl, rfl⟩
      go_wp2_with fail
      go_roundw
      case rel => exact ⟨k + 1, by omega, by go_num, by rw [hw.out], by rw [hv.out, ← dgf_step rfl]; exact har.store k _, hbr.setCell (by simp) _⟩
      case measure => simp [intOf]; omega
    · obtain rfl : k = ln a := by omega
      have HC := Lib.hid (show ∀ j, j < ln a → wr.cell? ⟨w.heap.size, j, none⟩ = some (.int .u64 ((dg (a - b) j : Nat) : Int)) from fun j hj => by
        rw [har.cell hj, dgf, if_pos hj])
      go_wp2_with fail
      refine (trim_any (n := a - b) (by omega) (Nat.le_refl _) hlt0 HC.out).mono ?_
      rintro e w2 ⟨rfl, rfl⟩
      go_wp2_with fail
      go_ret
      exact ⟨_, rfl, Arr.own har (by omega) (by omega) hln (fun j hj => by rw [dgf, if_pos (by omega)]), hbr⟩

end Go.Proofs.YtiocehlefpbbhaaGreatDoor
