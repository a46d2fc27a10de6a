/-
  Find and Column of the program.
-/
import Derived.Test.YtgehldadfaonbaaDoorAA
namespace Go.Proofs.YtgehldadfaonbaaDoor
open Go.RowKit Go.Shelf Go.ChangeMaps Go.Maps

theorem found_neg (w : World) : Calls Tryd.prog 46 #[.int .i64 (-1)] w fun e w' => e = .returned (fnd (-1)) ∧ w = w' := by
  go_enter Tryd.func46, Tryd.ntmps46
  go_wp2
  go_ret2
  exact ⟨rfl, rfl⟩
theorem found_pos (w : World) (k : Nat) (hk : k ≤ 9223372036854775807) : Calls Tryd.prog 46 #[.int .i64 (k : Int)] w fun e w' => e = .returned (fnd (k : Int)) ∧ w = w' := by
  have h1 : ¬ ((k : Int) < 0) := by omega
  have h2 : (0 : Int) ≤ (k : Int) := by omega
  have hF := Lib.hid (show fnd (k : Int) = .tuple #[.int .i64 (k : Int), .bool true] by unfold fnd; rw [mx0_nat, ge0_nat])
  go_enter Tryd.func46, Tryd.ntmps46
  go_wp2
  go_ret2
  exact ⟨by rw [hF.out]; rfl, rfl⟩
theorem found_any {w : World} {i : Int} {n : Nat} (h : i = -1 ∨ ∃ k : Nat, i = (k : Int) ∧ k < n) (hn : n ≤ 9223372036854775807) : Calls Tryd.prog 46 #[.int .i64 i] w fun e w' => e = .returned (fnd i) ∧ w = w' := by
  rcases h with rfl | ⟨k, rfl, hk⟩
  · exact found_neg w
  · exact found_pos w k (by omega)

theorem find1_any {w : World} {s : Sch} {x : ByteArray} {b : Nat} (h : Boxed w b 9 (.string x)) : Calls Tryd.prog 48 #[.agg s.cells, .pointer (some ⟨b, 0, none⟩)] w fun e w' => e = .returned (.bool (decide (s.name = x))) ∧ Below w.heap.size w w' := by
  have hB : Below w.heap.size w (w.alloc (.cells s.cells 24)) := (Below.refl _ _).alloc (Nat.le_refl _) _
  have HB := Lib.hid hB
  have hs : SchAt (w.alloc (.cells s.cells 24)) w.heap.size s := heap_alloc_new w _
  have c0 := hs.c0
  have d0 := ((Ch.below (S := fun _ => False) hB).boxed (fun h => h) h).cell
  obtain ⟨v, hv⟩ : ∃ v, v = (s.name.toList == x.toList) := ⟨_, rfl⟩
  have HV := Lib.hid (show v = decide (s.name = x) by rw [hv, str_eq])
  clear hB hs h
  go_enter Tryd.func48, Tryd.ntmps48
  go_wp2
  go_ret
  exact ⟨by rw [← HV.out, hv]; rfl, HB.out⟩
theorem column1_any {w : World} {c : Col} {x : ByteArray} {b : Nat} (h : Boxed w b 9 (.string x)) : Calls Tryd.prog 50 #[.agg c.cells, .pointer (some ⟨b, 0, none⟩)] w fun e w' => e = .returned (.bool (decide (c.name = x))) ∧ Below w.heap.size w w' := by
  have hB : Below w.heap.size w (w.alloc (.cells c.cells 44)) := (Below.refl _ _).alloc (Nat.le_refl _) _
  have HB := Lib.hid hB
  have hs : ColAt (w.alloc (.cells c.cells 44)) w.heap.size c := heap_alloc_new w _
  have c0 := hs.c0
  have d0 := ((Ch.below (S := fun _ => False) hB).boxed (fun h => h) h).cell
  obtain ⟨v, hv⟩ : ∃ v, v = (c.name.toList == x.toList) := ⟨_, rfl⟩
  have HV := Lib.hid (show v = decide (c.name = x) by rw [hv, str_eq])
  clear hB hs h
  go_enter Tryd.func50, Tryd.ntmps50
  go_wp2
  go_ret
  exact ⟨by rw [← HV.out, hv]; rfl, HB.out⟩
theorem en_find1 : ∀ args w, (callFunc 48 args).run Tryd.prog w = .ok (.enter 48 args) w := enters_of Tryd.func48 (by kernel_rfl) rfl
theorem en_column1 : ∀ args w, (callFunc 50 args).run Tryd.prog w = .ok (.enter 50 args) w := enters_of Tryd.func50 (by kernel_rfl) rfl

theorem getD_sname (L : List Sch) (j : Nat) (hj : j < L.length) : (L.map Sch.name).getD j ByteArray.empty = (L.getD j default).name := by
  rw [List.getD_eq_getElem?_getD, List.getElem?_map, List.getElem?_eq_getElem hj, List.getD_eq_getElem?_getD, List.getElem?_eq_getElem hj]; rfl
theorem getD_cname (L : List Col) (j : Nat) (hj : j < L.length) : (L.map Col.name).getD j ByteArray.empty = (L.getD j default).name := by
  rw [List.getD_eq_getElem?_getD, List.getElem?_map, List.getElem?_eq_getElem hj, List.getD_eq_getElem?_getD, List.getElem?_eq_getElem hj]; rfl

set_option maxHeartbeats 1600000 in
/-- slices.IndexFunc over schemas, with Find's closure. -/
theorem ixS_any {w : World} {ao : Option Addr} {L : List Sch} {c : Nat} {x : ByteArray} {b : Nat} (hL : SL w ao L) (hf : L.length ≤ 9223372036854775807) (hx : Boxed w b 9 (.string x)) :
    Calls Tryd.prog 47 #[.slice ao L.length c, .func (.func 48) #[] #[.pointer (some ⟨b, 0, none⟩)]] w fun e w' => e = .returned (.int .i64 (idxT x (L.map Sch.name))) ∧ Below w.heap.size w w' := by
  have HL := Lib.hid (And.intro hL hx)
  obtain ⟨N, hN⟩ : ∃ N, N = L.length := ⟨_, rfl⟩
  rw [← hN]
  rw [← hN] at hf
  have HN := Lib.hid hN
  have eg := en_find1
  clear hL hx hN
  go_enter Tryd.func47, Tryd.ntmps47
  go_wp2_with fail
  go_loopw [5, 8] (fun _ i wr => ∃ k : Nat, k ≤ N ∧ i = .int .i64 (k : Int) ∧ Hid (Below w.heap.size w wr ∧ ∀ j, j < k → (L.getD j default).name ≠ x)) (fun _ i _ => N - (intOf i).toNat)
  case atStart => exact ⟨0, Nat.zero_le _, rfl, Lib.hid ⟨Below.refl _ _, fun j hj => absurd hj (Nat.not_lt_zero _)⟩⟩
  case round =>
    obtain ⟨k, hk, rfl, HJ⟩ := hrel
    by_cases hlt : k < N
    · obtain ⟨ad, ea, c0, c1, c2, c3⟩ := (HL.out.1.below HJ.out.1).at (j := k) (by rw [← HN.out]; exact hlt)
      obtain ⟨s, hs⟩ : ∃ s, s = L.getD k default := ⟨_, rfl⟩
      rw [← hs] at c0 c1 c2 c3
      subst ea
      have HS := Lib.hid hs
      have HC := Lib.hid (find1_any (s := s) ((Ch.below (S := fun _ => False) HJ.out.1).boxed (fun h => h) HL.out.2))
      clear hs
      by_cases he : s.name = x
      · have HQ := Lib.hid (idxT_at x (L.map Sch.name) k (by rw [List.length_map, ← HN.out]; exact hlt) (by rw [getD_sname L k (by rw [← HN.out]; exact hlt), ← HS.out]; exact he) (fun j hj => by rw [getD_sname L j (by rw [← HN.out]; omega)]; exact HJ.out.2 j hj))
        rw [decide_eq_true he] at HC
        clear he
        go_wp2_with fail
        refine HC.out.mono ?_
        rintro e w1 ⟨rfl, h1⟩
        have HF := Lib.hid (HJ.out.1.trans (h1.mono HJ.out.1.size))
        clear h1 HC HJ c0 c1 c2 c3
        go_wp2_with fail
        go_ret
        exact ⟨by rw [HQ.out]; rfl, HF.out⟩
      · rw [decide_eq_false he] at HC
        have HE := Lib.hid he
        clear he
        go_wp2_with fail
        refine HC.out.mono ?_
        rintro e w1 ⟨rfl, h1⟩
        have HJ2 := Lib.hid (show Below w.heap.size w w1 ∧ ∀ j, j < k + 1 → (L.getD j default).name ≠ x from ⟨HJ.out.1.trans (h1.mono HJ.out.1.size), fun j hj => by
          rcases Nat.lt_succ_iff_lt_or_eq.1 hj with h | rfl
          · exact HJ.out.2 j h
          · rw [← HS.out]; exact HE.out⟩)
        clear h1 HC HJ c0 c1 c2 c3
        go_wp2_with fail
        go_roundw
        case rel => exact ⟨k + 1, by omega, by go_num, HJ2.out⟩
        case measure => simp [intOf]; omega
    · obtain rfl : N = k := by omega
      have HQ := Lib.hid (idxT_none x (L.map Sch.name) (fun j hj => by
        rw [List.length_map] at hj
        rw [getD_sname L j hj]; exact HJ.out.2 j (by rw [HN.out]; exact hj)))
      have HF := Lib.hid HJ.out.1
      clear HJ
      go_wp2_with fail
      go_ret
      exact ⟨by rw [HQ.out]; rfl, HF.out⟩

end Go.Proofs.YtgehldadfaonbaaDoor
