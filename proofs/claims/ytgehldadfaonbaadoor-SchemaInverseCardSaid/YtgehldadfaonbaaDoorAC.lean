/-
  Find and Column of the program and of the reference.
-/
import Derived.Test.YtgehldadfaonbaaDoorAB
namespace Go.Proofs.YtgehldadfaonbaaDoor
open Go.RowKit Go.Shelf Go.ChangeMaps Go.Maps

set_option maxHeartbeats 1600000 in
/-- slices.IndexFunc over columns, with Column's closure. -/
theorem ixC_any {w : World} {ao : Option Addr} {L : List Col} {cap : Nat} {x : ByteArray} {b : Nat} (hL : CL w ao L) (hf : L.length ≤ 9223372036854775807) (hx : Boxed w b 9 (.string x)) :
    Calls Tryd.prog 49 #[.slice ao L.length cap, .func (.func 50) #[] #[.pointer (some ⟨b, 0, none⟩)]] w fun e w' => e = .returned (.int .i64 (idxT x (L.map Col.name))) ∧ Below w.heap.size w w' := by
  have HL := Lib.hid (And.intro hL hx)
  obtain ⟨N, hN⟩ : ∃ N, N = L.length := ⟨_, rfl⟩
  rw [← hN]
  rw [← hN] at hf
  have HN := Lib.hid hN
  have eg := en_column1
  clear hL hx hN
  go_enter Tryd.func49, Tryd.ntmps49
  go_wp2_with fail
  go_loopw [5, 8] (fun _ i wr => ∃ k : Nat, k ≤ N ∧ i = .int .i64 (k : Int) ∧ Hid (Below w.heap.size w wr ∧ ∀ j, j < k → (L.getD j default).name ≠ x)) (fun _ i _ => N - (intOf i).toNat)
  case atStart => exact ⟨0, Nat.zero_le _, rfl, Lib.hid ⟨Below.refl _ _, fun j hj => absurd hj (Nat.not_lt_zero _)⟩⟩
  case round =>
    obtain ⟨k, hk, rfl, HJ⟩ := hrel
    by_cases hlt : k < N
    · obtain ⟨ad, ea, c0, c1, c2, c3⟩ := (HL.out.1.below HJ.out.1).at (j := k) (by rw [← HN.out]; exact hlt)
      obtain ⟨s, hs⟩ : ∃ s, s = L.getD k default := ⟨_, rfl⟩
      rw [← hs] at c0 c1 c2 c3
      subst ea
      have HS := Lib.hid hs
      have HC := Lib.hid (column1_any (c := s) ((Ch.below (S := fun _ => False) HJ.out.1).boxed (fun h => h) HL.out.2))
      clear hs
      by_cases he : s.name = x
      · have HQ := Lib.hid (idxT_at x (L.map Col.name) k (by rw [List.length_map, ← HN.out]; exact hlt) (by rw [getD_cname L k (by rw [← HN.out]; exact hlt), ← HS.out]; exact he) (fun j hj => by rw [getD_cname L j (by rw [← HN.out]; omega)]; exact HJ.out.2 j hj))
        rw [decide_eq_true he] at HC
        clear he
        go_wp2_with fail
        refine HC.out.mono ?_
        rintro e w1 ⟨rfl, h1⟩
        have HF := Lib.hid (HJ.out.1.trans (h1.mono HJ.out.1.size))
        clear h1 HC HJ c0 c1 c2 c3
        go_wp2_with fail
        go_ret
        exact ⟨by rw [HQ.out]; rfl, HF.out⟩
      · rw [decide_eq_false he] at HC
        have HE := Lib.hid he
        clear he
        go_wp2_with fail
        refine HC.out.mono ?_
        rintro e w1 ⟨rfl, h1⟩
        have HJ2 := Lib.hid (show Below w.heap.size w w1 ∧ ∀ j, j < k + 1 → (L.getD j default).name ≠ x from ⟨HJ.out.1.trans (h1.mono HJ.out.1.size), fun j hj => by
          rcases Nat.lt_succ_iff_lt_or_eq.1 hj with h | rfl
          · exact HJ.out.2 j h
          · rw [← HS.out]; exact HE.out⟩)
        clear h1 HC HJ c0 c1 c2 c3
        go_wp2_with fail
        go_roundw
        case rel => exact ⟨k + 1, by omega, by go_num, HJ2.out⟩
        case measure => simp [intOf]; omega
    · obtain rfl : N = k := by omega
      have HQ := Lib.hid (idxT_none x (L.map Col.name) (fun j hj => by
        rw [List.length_map] at hj
        rw [getD_cname L j hj]; exact HJ.out.2 j (by rw [HN.out]; exact hj)))
      have HF := Lib.hid HJ.out.1
      clear HJ
      go_wp2_with fail
      go_ret
      exact ⟨by rw [HQ.out]; rfl, HF.out⟩


set_option maxHeartbeats 1600000 in
/-- The program's Find. -/
theorem pfind_any {w : World} {ao : Option Addr} {L : List Sch} {c : Nat} (x : ByteArray) (hL : SL w ao L) (hf : L.length ≤ 9223372036854775807) :
    Calls Tryd.prog 19 #[.slice ao L.length c, .string x] w fun e w' => e = .returned (fnd (idxT x (L.map Sch.name))) ∧ Below w.heap.size w w' := by
  obtain ⟨V, hV⟩ : ∃ V, V = w.alloc (.cells #[.string x] 9) := ⟨_, rfl⟩
  have hB : Below w.heap.size w V := by rw [hV]; exact (Below.refl _ _).alloc (Nat.le_refl _) _
  have hx : Boxed V w.heap.size 9 (.string x) := by rw [hV]; exact Boxed.new w _ _
  have HC := Lib.hid (ixS_any (c := c) (hL.below hB) hf hx)
  have HR := Lib.hid (idxT_range x (L.map Sch.name))
  have HB := Lib.hid hB
  have HF := Lib.hid hf
  obtain ⟨N, hN⟩ : ∃ N, N = L.length := ⟨_, rfl⟩
  have hl : (L.map Sch.name).length = N := by rw [List.length_map, hN]
  rw [hl] at HR
  rw [← hN] at hf HC HF
  rw [← hN]
  obtain ⟨i, hi⟩ : ∃ i, i = idxT x (L.map Sch.name) := ⟨_, rfl⟩
  rw [← hi] at HC HR
  rw [← hi]
  clear hB hx hL hN hi hl
  subst hV
  go_enter Tryd.func19, Tryd.ntmps19
  go_wp2_with fail
  refine HC.out.mono ?_
  rintro e w1 ⟨rfl, h1⟩
  have H1 := Lib.hid (HB.out.trans (h1.mono HB.out.size))
  clear h1 HC HB
  have HG := Lib.hid (found_any (w := w1) HR.out HF.out)
  go_wp2_with fail
  refine HG.out.mono ?_
  rintro e w2 ⟨rfl, rfl⟩
  go_wp2
  go_ret2
  exact ⟨rfl, H1.out⟩
set_option maxHeartbeats 1600000 in
/-- The program's Column. -/
theorem pcolumn_any {w : World} {s : Sch} (x : ByteArray) (hC : CL w s.ca s.cols) (hf : s.cols.length ≤ 9223372036854775807) :
    Calls Tryd.prog 21 #[.agg s.cells, .string x] w fun e w' => e = .returned (fnd (idxT x (s.cols.map Col.name))) ∧ Below w.heap.size w w' := by
  obtain ⟨A, hA⟩ : ∃ A, A = w.alloc (.cells s.cells 24) := ⟨_, rfl⟩
  obtain ⟨V, hV⟩ : ∃ V, V = A.alloc (.cells #[.string x] 9) := ⟨_, rfl⟩
  have sA : A.heap.size = w.heap.size + 1 := by rw [hA]; simp
  have hwA : Below w.heap.size w A := by rw [hA]; exact (Below.refl _ _).alloc (Nat.le_refl _) _
  have hAV : Below A.heap.size A V := by rw [hV]; exact (Below.refl _ _).alloc (Nat.le_refl _) _
  have hB := hwA.trans (hAV.mono hwA.size)
  have hx : Boxed V (w.heap.size + 1) 9 (.string x) := by rw [hV, ← sA]; exact Boxed.new A _ _
  have hs : SchAt V w.heap.size s := SchAt.below (w := A) (by rw [hA]; exact heap_alloc_new w _) hAV
  have d3 := hs.c3
  have HC := Lib.hid (ixC_any (cap := s.cc) (hC.below hB) hf hx)
  have HR := Lib.hid (idxT_range x (s.cols.map Col.name))
  have HB := Lib.hid hB
  have HF := Lib.hid hf
  obtain ⟨N, hN⟩ : ∃ N, N = s.cols.length := ⟨_, rfl⟩
  have hl : (s.cols.map Col.name).length = N := by rw [List.length_map, hN]
  rw [hl] at HR
  obtain ⟨i, hi⟩ : ∃ i, i = idxT x (s.cols.map Col.name) := ⟨_, rfl⟩
  rw [← hi] at HC HR
  rw [← hi]
  rw [← hN] at HF
  clear hB hx hC hi hl hs sA hwA hAV
  subst hV
  subst hA
  go_enter Tryd.func21, Tryd.ntmps21
  go_wp2_with fail
  refine HC.out.mono ?_
  rintro e w1 ⟨rfl, h1⟩
  have H1 := Lib.hid (HB.out.trans (h1.mono HB.out.size))
  clear h1 HC HB d3 hf hN
  have HG := Lib.hid (found_any (w := w1) HR.out HF.out)
  go_wp2_with fail
  refine HG.out.mono ?_
  rintro e w2 ⟨rfl, rfl⟩
  go_wp2
  go_ret2
  exact ⟨rfl, H1.out⟩

set_option maxHeartbeats 1600000 in
/-- The reference's Find. -/
theorem rfind_any {w : World} {ao : Option Addr} {L : List Sch} {c : Nat} (x : ByteArray) (hL : SL w ao L) (hf : L.length ≤ 9223372036854775807) :
    Calls Tryd.prog 20 #[.slice ao L.length c, .string x] w fun e w' => e = .returned (fnd (idxT x (L.map Sch.name))) ∧ w = w' := by
  have HL := Lib.hid hL
  obtain ⟨N, hN⟩ : ∃ N, N = L.length := ⟨_, rfl⟩
  rw [← hN]
  rw [← hN] at hf
  have HN := Lib.hid hN
  clear hL hN
  go_enter Tryd.func20, Tryd.ntmps20
  go_wp2_with fail
  go_loop [6] (fun i => ∃ k : Nat, k ≤ N ∧ i = .int .i64 (k : Int) ∧ Hid (∀ j, j < k → (L.getD j default).name ≠ x)) (fun i => N - (intOf i).toNat)
  case atStart => exact ⟨0, Nat.zero_le _, rfl, Lib.hid (fun j hj => absurd hj (Nat.not_lt_zero _))⟩
  case round =>
    obtain ⟨k, hk, rfl, HJ⟩ := hrel
    by_cases hlt : k < N
    · obtain ⟨ad, ea, c0, c1, c2, c3⟩ := HL.out.at (j := k) (by rw [← HN.out]; exact hlt)
      obtain ⟨s, hs⟩ : ∃ s, s = (L.getD k default).name := ⟨_, rfl⟩
      rw [← hs] at c0
      subst ea
      have HS := Lib.hid hs
      clear hs c1 c2 c3
      by_cases he : s = x
      · have HQ := Lib.hid (idxT_at x (L.map Sch.name) k (by rw [List.length_map, ← HN.out]; exact hlt) (by rw [getD_sname L k (by rw [← HN.out]; exact hlt), ← HS.out]; exact he) (fun j hj => by rw [getD_sname L j (by rw [← HN.out]; omega)]; exact HJ.out j hj))
        have hq := str_same he
        have HV := Lib.hid (show fnd (k : Int) = .tuple #[.int .i64 (k : Int), .bool true] by unfold fnd; rw [mx0_nat, ge0_nat])
        clear he HJ
        go_wp2
        go_ret2
        exact ⟨by rw [HQ.out, HV.out]; rfl, rfl⟩
      · have hq := str_ne he
        have HJ2 := Lib.hid (show ∀ j, j < k + 1 → (L.getD j default).name ≠ x from fun j hj => by
          rcases Nat.lt_succ_iff_lt_or_eq.1 hj with h | rfl
          · exact HJ.out j h
          · rw [← HS.out]; exact he)
        clear he HJ
        go_wp2
        go_round
        case rel => exact ⟨k + 1, by omega, by go_num, HJ2.out⟩
        case measure => simp [intOf]; omega
    · obtain rfl : N = k := by omega
      have HQ := Lib.hid (idxT_none x (L.map Sch.name) (fun j hj => by
        rw [List.length_map] at hj
        rw [getD_sname L j hj]; exact HJ.out j (by rw [HN.out]; exact hj)))
      clear HJ
      go_wp2
      go_ret2
      exact ⟨by rw [HQ.out]; rfl, rfl⟩
set_option maxHeartbeats 1600000 in
/-- The reference's Column. -/
theorem rcolumn_any {w : World} {s : Sch} (x : ByteArray) (hC : CL w s.ca s.cols) (hf : s.cols.length ≤ 9223372036854775807) :
    Calls Tryd.prog 22 #[.agg s.cells, .string x] w fun e w' => e = .returned (fnd (idxT x (s.cols.map Col.name))) ∧ Below w.heap.size w w' := by
  obtain ⟨V, hV⟩ : ∃ V, V = w.alloc (.cells s.cells 24) := ⟨_, rfl⟩
  have hB : Below w.heap.size w V := by rw [hV]; exact (Below.refl _ _).alloc (Nat.le_refl _) _
  have hs : SchAt V w.heap.size s := by rw [hV]; exact heap_alloc_new w _
  have HX := Lib.hid (And.intro hB (And.intro hs (hC.below hB)))
  clear hB hs hC
  subst hV
  go_enter Tryd.func22, Tryd.ntmps22
  go_wp2_with fail
  obtain ⟨V, hV⟩ : ∃ V, V = w.alloc (.cells s.cells 24) := ⟨_, rfl⟩
  rw [← hV] at HX
  rw [← hV]
  clear hV
  have d3 := HX.out.2.1.c3
  obtain ⟨N, hN⟩ : ∃ N, N = s.cols.length := ⟨_, rfl⟩
  rw [← hN] at d3 hf
  have HN := Lib.hid hN
  clear hN
  go_loop [6] (fun i => ∃ k : Nat, k ≤ N ∧ i = .int .i64 (k : Int) ∧ Hid (∀ j, j < k → (s.cols.getD j default).name ≠ x)) (fun i => N - (intOf i).toNat)
  case atStart => exact ⟨0, Nat.zero_le _, rfl, Lib.hid (fun j hj => absurd hj (Nat.not_lt_zero _))⟩
  case round =>
    obtain ⟨k, hk, rfl, HJ⟩ := hrel
    by_cases hlt : k < N
    · obtain ⟨ad, ea, c0, c1, c2, c3⟩ := HX.out.2.2.at (j := k) (by rw [← HN.out]; exact hlt)
      obtain ⟨y, hy⟩ : ∃ y, y = (s.cols.getD k default).name := ⟨_, rfl⟩
      rw [← hy] at c0
      rw [ea] at d3
      have HS := Lib.hid hy
      clear hy c1 c2 c3 ea
      by_cases he : y = x
      · have HQ := Lib.hid (idxT_at x (s.cols.map Col.name) k (by rw [List.length_map, ← HN.out]; exact hlt) (by rw [getD_cname s.cols k (by rw [← HN.out]; exact hlt), ← HS.out]; exact he) (fun j hj => by rw [getD_cname s.cols j (by rw [← HN.out]; omega)]; exact HJ.out j hj))
        have hq := str_same he
        have HV := Lib.hid (show fnd (k : Int) = .tuple #[.int .i64 (k : Int), .bool true] by unfold fnd; rw [mx0_nat, ge0_nat])
        clear he HJ
        go_wp2
        go_ret2
        exact ⟨by rw [HQ.out, HV.out]; rfl, HX.out.1⟩
      · have hq := str_ne he
        have HJ2 := Lib.hid (show ∀ j, j < k + 1 → (s.cols.getD j default).name ≠ x from fun j hj => by
          rcases Nat.lt_succ_iff_lt_or_eq.1 hj with h | rfl
          · exact HJ.out j h
          · rw [← HS.out]; exact he)
        clear he HJ
        go_wp2
        go_round
        case rel => exact ⟨k + 1, by omega, by go_num, HJ2.out⟩
        case measure => simp [intOf]; omega
    · obtain rfl : N = k := by omega
      have HQ := Lib.hid (idxT_none x (s.cols.map Col.name) (fun j hj => by
        rw [List.length_map] at hj
        rw [getD_cname s.cols j hj]; exact HJ.out j (by rw [HN.out]; exact hj)))
      clear HJ
      go_wp2
      go_ret2
      exact ⟨by rw [HQ.out]; rfl, HX.out.1⟩

end Go.Proofs.YtgehldadfaonbaaDoor
