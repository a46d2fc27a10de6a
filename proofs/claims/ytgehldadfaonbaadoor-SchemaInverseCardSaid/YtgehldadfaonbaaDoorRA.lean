/-
  VastSchema; schemas as what they hold.
-/
import Derived.Test.YtgehldadfaonbaaDoorSW
namespace Go.Proofs.YtgehldadfaonbaaDoor
open Go.RowKit Go.Shelf Go.ChangeMaps Go.Maps

def VastP (s : Sch) (w : World) (e : Ending) (w' : World) : Prop := ∃ v, e = .returned (.bool v) ∧ (v = false → s.cols.length ≤ 100 ∧ ∀ j, j < s.cols.length → (s.cols.getD j default).ws.length ≤ 100) ∧ Below w.heap.size w w'
set_option maxHeartbeats 1600000 in
theorem vast_any {w : World} {s : Sch} (hC : CL w s.ca s.cols) (hO : ColsOk w s.cols) (hf : s.cols.length ≤ 9223372036854775807) :
    Calls Tryd.prog 10 #[.agg s.cells] w (VastP s w) := by
  have hb : Below w.heap.size w (w.alloc (.cells s.cells 24)) := (Below.refl _ _).alloc (Nat.le_refl _) _
  have HX := Lib.hid (And.intro hb (And.intro (show SchAt (w.alloc (.cells s.cells 24)) w.heap.size s from heap_alloc_new w _) (And.intro (hC.below hb) (hO.below hb))))
  clear hb hC hO
  go_enter Tryd.func10, Tryd.ntmps10
  go_wp2_with fail
  obtain ⟨V, hV⟩ : ∃ V, V = w.alloc (.cells s.cells 24) := ⟨_, rfl⟩
  rw [← hV] at HX
  rw [← hV]
  clear hV
  have d3 := HX.out.2.1.c3
  obtain ⟨N, hN⟩ : ∃ N, N = s.cols.length := ⟨_, rfl⟩
  rw [← hN] at d3 hf
  have HN := Lib.hid hN
  clear hN
  go_loop [3] (fun i => ∃ k : Nat, k ≤ N ∧ k ≤ 101 ∧ i = .int .i64 (k : Int) ∧ Hid (∀ j, j < k → (s.cols.getD j default).ws.length ≤ 100)) (fun i => N - (intOf i).toNat)
  case atStart => exact ⟨0, Nat.zero_le _, Nat.zero_le _, rfl, Lib.hid (fun j hj => absurd hj (Nat.not_lt_zero _))⟩
  case round =>
    obtain ⟨k, hk, hk1, rfl, HJ⟩ := hrel
    by_cases hlt : k < N
    · by_cases h1 : k ≤ 100
      · obtain ⟨ad, ea, _, _, _, c3⟩ := HX.out.2.2.1.at (j := k) (by rw [← HN.out]; exact hlt)
        have hfew := (HX.out.2.2.2 k (by rw [← HN.out]; exact hlt)).few
        obtain ⟨c, hc⟩ : ∃ c, c = s.cols.getD k default := ⟨_, rfl⟩
        rw [← hc] at c3 hfew
        rw [ea] at d3
        have HC := Lib.hid hc
        clear ea hc
        by_cases h2 : 100 < c.ws.length
        · go_wp2
          go_ret
          exact ⟨true, rfl, (fun h => by cases h), HX.out.1⟩
        · have HJ2 := Lib.hid (show ∀ j, j < k + 1 → (s.cols.getD j default).ws.length ≤ 100 from fun j hj => by
            rcases Nat.lt_succ_iff_lt_or_eq.1 hj with h | rfl
            · exact HJ.out j h
            · rw [← HC.out]; omega)
          clear HJ
          go_wp2
          go_round
          case rel => exact ⟨k + 1, by omega, by omega, by go_num, HJ2.out⟩
          case measure => simp [intOf]; omega
      · have h3 : 100 < N := by omega
        have q : decide (100 < (N : Int)) = true := decide_eq_true (by omega)
        go_wp2
        go_ret
        exact ⟨true, rfl, (fun h => by cases h), HX.out.1⟩
    · obtain rfl : N = k := by omega
      by_cases h3 : 100 < N
      · have q : decide (100 < (N : Int)) = true := decide_eq_true (by omega)
        go_wp2
        go_ret
        exact ⟨true, rfl, (fun h => by cases h), HX.out.1⟩
      · have q : decide (100 < (N : Int)) = false := decide_eq_false (by omega)
        have HF := Lib.hid (show s.cols.length ≤ 100 ∧ ∀ j, j < s.cols.length → (s.cols.getD j default).ws.length ≤ 100 from ⟨by rw [← HN.out]; omega, fun j hj => HJ.out j (by rw [HN.out]; exact hj)⟩)
        clear HJ
        go_wp2
        go_ret
        exact ⟨false, rfl, fun _ => HF.out, HX.out.1⟩

end Go.Proofs.YtgehldadfaonbaaDoor
