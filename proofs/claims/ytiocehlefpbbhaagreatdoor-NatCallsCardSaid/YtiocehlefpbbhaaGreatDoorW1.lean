/-
  How a slice of limbs reads as a natural number, and the contracts of at, trim and greatest.
-/
import Derived.Test.YtiocehlefpbbhaaGreatDoorProg
import Derived.Test.YtiocehlefpbbhaaGreatDoorM2
import Derived.WalkKit
import Derived.WalkSpells
import Derived.WalkLawsBesides
import Derived.Lib.Hide
namespace Go.Proofs.YtiocehlefpbbhaaGreatDoor
open Go.RowKit NV

/-- Limb j of n as a value. -/
def lv (n j : Nat) : Value := .int .u64 ((dg n j : Nat) : Int)

/-- The slice v reads as the number n: it has as many limbs as n (0 has none, and may be nil). -/
def Num (w : World) (v : Value) (n : Nat) : Prop :=
  ∃ a c, v = .slice a (ln n) c ∧ ((n = 0 ∧ a = none ∧ c = 0) ∨ ∃ b, a = some ⟨b, 0, none⟩ ∧ b < w.heap.size ∧ ln n ≤ c ∧ ∀ j, j < ln n → w.cell? ⟨b, j, none⟩ = some (.int .u64 ((dg n j : Nat) : Int)))

theorem Num.below {w w' : World} {v : Value} {n : Nat} (h : Num w v n) (hb : Below w.heap.size w w') : Num w' v n := by
  obtain ⟨a, c, rfl, h | ⟨b, rfl, h1, h2, h4⟩⟩ := h
  · exact ⟨a, c, rfl, .inl h⟩
  · exact ⟨_, c, rfl, .inr ⟨b, rfl, Nat.lt_of_lt_of_le h1 hb.size, h2, fun j hj => (hb.cell (p := ⟨b, j, none⟩) h1).trans (h4 j hj)⟩⟩

theorem Num.nil (w : World) : Num w (.slice none 0 0) 0 := ⟨none, 0, by rw [ln_zero], .inl ⟨rfl, rfl, rfl⟩⟩

/-- A number's slice. -/
theorem slice_any {w : World} {v : Value} {n : Nat} (h : Num w v n) : ∃ a c, v = .slice a (ln n) c := by
  obtain ⟨a, c, h, _⟩ := h
  exact ⟨a, c, h⟩

/-- A slice with limbs is not nil. -/
theorem Num.addr {w : World} {a : Option Addr} {c n L : Nat} (h : Num w (.slice a L c) n) (h0 : 0 < ln n) : ∃ b, a = some ⟨b, 0, none⟩ := by
  obtain ⟨a', c', h', h | ⟨b, rfl, h1, h2, h4⟩⟩ := h
  · rw [h.1, ln_zero] at h0; omega
  · simp only [Value.slice.injEq] at h'
    exact ⟨b, h'.1⟩

theorem slice_form {w : World} {v : Value} {n : Nat} (h : Num w v n) (h0 : 0 < ln n) : ∃ b c, v = .slice (some ⟨b, 0, none⟩) (ln n) c ∧ b < w.heap.size ∧ ln n ≤ c := by
  obtain ⟨a, c, rfl, h | ⟨b, rfl, h1, h2, h4⟩⟩ := h
  · rw [h.1, ln_zero] at h0; omega
  · exact ⟨b, c, rfl, h1, h2⟩

theorem Num.cell {w : World} {b c n L : Nat} (h : Num w (.slice (some ⟨b, 0, none⟩) L c) n) {j : Nat} (hj : j < ln n) : w.cell? ⟨b, j, none⟩ = some (.int .u64 ((dg n j : Nat) : Int)) := by
  obtain ⟨a', c', h', h | ⟨b', rfl, h1, h2, h3⟩⟩ := h
  · rw [h.1, ln_zero] at hj; omega
  · simp only [Value.slice.injEq, Option.some.injEq, Addr.mk.injEq, and_true] at h'
    obtain ⟨rfl, _, rfl⟩ := h'
    exact h3 j hj

theorem Num.blt {w : World} {b c n L : Nat} (h : Num w (.slice (some ⟨b, 0, none⟩) L c) n) : b < w.heap.size := by
  obtain ⟨a', c', h', h | ⟨b', rfl, h1, h2, h3⟩⟩ := h
  · rw [h.2.1] at h'; simp at h'
  · simp only [Value.slice.injEq, Option.some.injEq, Addr.mk.injEq, and_true] at h'
    omega

set_option maxHeartbeats 400000 in
theorem at_any {w : World} {v : Value} {n : Nat} (h : Num w v n) (k : Nat) (hk : k < 4611686018427387904) :
    Calls Tryz.prog 52 #[v, .int .i64 (k : Int)] w fun e w' => e = .returned (.int .u64 ((dg n k : Nat) : Int)) ∧ w = w' := by
  by_cases hlt : k < ln n
  · obtain ⟨b, c, rfl, hb, hlc⟩ := slice_form h (by omega)
    have hx := h.cell hlt
    clear h
    go_enter Tryz.func52, Tryz.ntmps52
    go_wp2
    go_ret
    exact ⟨rfl, rfl⟩
  · obtain ⟨a, c, rfl⟩ := slice_any h
    clear h
    go_enter Tryz.func52, Tryz.ntmps52
    go_wp2
    go_ret
    exact ⟨by rw [dg_past (by omega)]; rfl, rfl⟩

/-- The length of a slice value: for a loop's measure. -/
def lenOf : Value → Nat
  | .slice _ n _ => n
  | _ => 0

theorem ret_slice {a : Option Addr} {n m c : Nat} (h : n = m) : Ending.returned (.slice a n c) = .returned (.slice a m c) := by rw [h]
theorem ret_int {k : IntKind} {a b : Int} (h : a = b) : Ending.returned (.int k a) = .returned (.int k b) := by rw [h]

set_option maxHeartbeats 400000 in
/-- trim: of L limbs as many are left as the number has. -/
theorem trim_any {w : World} {b c L n : Nat} (hL : L ≤ 1099511627776) (hLc : L ≤ c) (hn : n < B ^ L) (hcell : ∀ j, j < L → w.cell? ⟨b, j, none⟩ = some (.int .u64 ((dg n j : Nat) : Int))) :
    Calls Tryz.prog 53 #[.slice (some ⟨b, 0, none⟩) L c] w fun e w' => e = .returned (.slice (some ⟨b, 0, none⟩) (ln n) c) ∧ w = w' := by
  have hln := ln_le hn
  go_enter Tryz.func53, Tryz.ntmps53
  go_wp2
  go_loop [0] (fun s => ∃ k : Nat, ln n ≤ k ∧ k ≤ L ∧ s = .slice (some ⟨b, 0, none⟩) k c) (fun s => lenOf s)
  case atStart => exact ⟨L, hln, Nat.le_refl _, rfl⟩
  case round =>
    obtain ⟨k, hk, hkL, rfl⟩ := hrel
    by_cases hk0 : 0 < k
    · have hx := hcell (k - 1) (by omega)
      by_cases hz : dg n (k - 1) = 0
      · have hlt : ln n ≤ k - 1 := by
          refine ln_le (lt_of_dg_zero ?_ hz)
          rw [Nat.sub_add_cancel hk0]
          exact Nat.lt_of_lt_of_le (lt_pow_ln n) (Nat.pow_le_pow_right B_pos hk)
        rw [hz] at hx
        clear hcell hz
        go_wp2
        go_round
        case rel => exact ⟨k - 1, hlt, by omega, rfl⟩
        case measure => simp [lenOf]; omega
      · have he : ln n = k := by
          have := ln_of_top (n := n) (k := k - 1) (by rw [Nat.sub_add_cancel hk0]; exact Nat.lt_of_lt_of_le (lt_pow_ln n) (Nat.pow_le_pow_right B_pos hk)) hz
          omega
        have hzb : (((dg n (k - 1) : Nat) : Int) == 0) = false := by rw [beq_eq_false_iff_ne]; omega
        clear hcell hz
        go_wp2
        go_ret
        exact ⟨rfl, rfl⟩
    · clear hcell
      go_wp2
      go_ret
      exact ⟨ret_slice (by omega), rfl⟩


set_option maxHeartbeats 400000 in
theorem greatest_int (a b m : Int) (h1 : a < b → m = b) (h2 : b ≤ a → m = a) (w : World) (g : Nat) (hc : w.cell? ⟨g, 0, none⟩ = some (.int .i64 b)) :
    Calls Tryz.prog 51 #[.int .i64 a, .slice (some ⟨g, 0, none⟩) 1 1] w fun e w' => e = .returned (.int .i64 m) ∧ w = w' := by
  by_cases h : a < b
  · obtain rfl := h1 h
    clear h1 h2
    go_enter Tryz.func51, Tryz.ntmps51
    go_wp2
    refine wp_loop_rounds 2 ?_
    rw [rounds_succ]
    go_wp2
    rw [rounds_succ]
    go_wp2
    go_ret
    exact ⟨rfl, rfl⟩
  · obtain rfl := h2 (by omega)
    clear h1 h2
    go_enter Tryz.func51, Tryz.ntmps51
    go_wp2
    refine wp_loop_rounds 2 ?_
    rw [rounds_succ]
    go_wp2
    rw [rounds_succ]
    go_wp2
    go_ret
    exact ⟨rfl, rfl⟩

set_option maxHeartbeats 400000 in
theorem least_int (a b m : Int) (h1 : b < a → m = b) (h2 : a ≤ b → m = a) (w : World) (g : Nat) (hc : w.cell? ⟨g, 0, none⟩ = some (.int .i64 b)) :
    Calls Tryz.prog 58 #[.int .i64 a, .slice (some ⟨g, 0, none⟩) 1 1] w fun e w' => e = .returned (.int .i64 m) ∧ w = w' := by
  by_cases h : b < a
  · obtain rfl := h1 h
    clear h1 h2
    go_enter Tryz.func58, Tryz.ntmps58
    go_wp2
    refine wp_loop_rounds 2 ?_
    rw [rounds_succ]
    go_wp2
    rw [rounds_succ]
    go_wp2
    go_ret
    exact ⟨rfl, rfl⟩
  · obtain rfl := h2 (by omega)
    clear h1 h2
    go_enter Tryz.func58, Tryz.ntmps58
    go_wp2
    refine wp_loop_rounds 2 ?_
    rw [rounds_succ]
    go_wp2
    rw [rounds_succ]
    go_wp2
    go_ret
    exact ⟨rfl, rfl⟩

set_option maxHeartbeats 400000 in
theorem greatest_int64 (a b m : Int) (h1 : a < b → m = b) (h2 : b ≤ a → m = a) (w : World) (g : Nat) (hc : w.cell? ⟨g, 0, none⟩ = some (.int .i64 b)) :
    Calls Tryz.prog 103 #[.int .i64 a, .slice (some ⟨g, 0, none⟩) 1 1] w fun e w' => e = .returned (.int .i64 m) ∧ w = w' := by
  by_cases h : a < b
  · obtain rfl := h1 h
    clear h1 h2
    go_enter Tryz.func103, Tryz.ntmps103
    go_wp2
    refine wp_loop_rounds 2 ?_
    rw [rounds_succ]
    go_wp2
    rw [rounds_succ]
    go_wp2
    go_ret
    exact ⟨rfl, rfl⟩
  · obtain rfl := h2 (by omega)
    clear h1 h2
    go_enter Tryz.func103, Tryz.ntmps103
    go_wp2
    refine wp_loop_rounds 2 ?_
    rw [rounds_succ]
    go_wp2
    rw [rounds_succ]
    go_wp2
    go_ret
    exact ⟨rfl, rfl⟩

end Go.Proofs.YtiocehlefpbbhaaGreatDoor
