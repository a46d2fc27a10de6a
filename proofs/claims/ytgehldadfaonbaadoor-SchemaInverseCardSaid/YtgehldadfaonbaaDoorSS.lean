/-
  The reference's column.
-/
import Derived.Test.YtgehldadfaonbaaDoorSR
namespace Go.Proofs.YtgehldadfaonbaaDoor
open Go.RowKit Go.Shelf Go.ChangeMaps Go.Maps

/-- The error of a column's values. -/
def colE (c : Col) : Int :=
  if c.ws.length = 0 then (if rangeB c = true then 0 else 2)
  else if 64 < c.ws.length then 4 else if c.ws.all nmB = false then 19 else if twiceB c.ws = true then 8 else if placeB c = true then 0 else 2
theorem chkC_colE (names : List ByteArray) (c : Col) : chkC names c = if nmB c.name = false then 19 else if memB c.name names = true then 8 else colE c := rfl

theorem rcol_none {w : World} {c : Col} (ho : ColOk w c) (h0 : c.ws.length = 0) : Calls Tryd.prog 42 #[.agg c.cells] w fun e w' => e = .returned (.int .i64 (colE c)) ∧ Below w.heap.size w w' := by
  have HB := Lib.hid (show Below w.heap.size w (w.alloc (.cells c.cells 44)) from (Below.refl _ _).alloc (Nat.le_refl _) _)
  have hz : ((c.ws.length : Int) == 0) = true := by rw [h0]; rfl
  have HE := Lib.hid (show colE c = if rangeB c = true then 0 else 2 from if_pos h0)
  have l1 := ho.lo1
  have l2 := ho.lo2
  have l3 := ho.hi1
  have l4 := ho.hi2
  clear h0 ho
  by_cases h1 : c.lo < -1000000
  · have HR := Lib.hid (show rangeB c = false by unfold rangeB; rw [decide_eq_false (by omega)]; rfl)
    go_enter Tryd.func42, Tryd.ntmps42
    go_wp2
    go_ret
    exact ⟨by rw [HE.out, HR.out]; rfl, HB.out⟩
  · by_cases h2 : 1000000 < c.hi
    · have HR := Lib.hid (show rangeB c = false by unfold rangeB; rw [decide_eq_false (show ¬ c.hi ≤ 1000000 by omega)]; simp)
      go_enter Tryd.func42, Tryd.ntmps42
      go_wp2
      go_ret
      exact ⟨by rw [HE.out, HR.out]; rfl, HB.out⟩
    · by_cases h3 : c.hi < c.lo
      · have HR := Lib.hid (show rangeB c = false by unfold rangeB; rw [decide_eq_false (show ¬ c.lo ≤ c.hi by omega)]; simp)
        go_enter Tryd.func42, Tryd.ntmps42
        go_wp2
        go_ret
        exact ⟨by rw [HE.out, HR.out]; rfl, HB.out⟩
      · have HR := Lib.hid (show rangeB c = true by unfold rangeB; rw [decide_eq_true (show c.lo ≤ c.hi by omega), decide_eq_true (show -1000000 ≤ c.lo by omega), decide_eq_true (show c.hi ≤ 1000000 by omega)]; rfl)
        go_enter Tryd.func42, Tryd.ntmps42
        go_wp2
        go_ret
        exact ⟨by rw [HE.out, HR.out]; rfl, HB.out⟩
theorem rcol_long {w : World} {c : Col} (h0 : 64 < c.ws.length) : Calls Tryd.prog 42 #[.agg c.cells] w fun e w' => e = .returned (.int .i64 (colE c)) ∧ Below w.heap.size w w' := by
  have HB := Lib.hid (show Below w.heap.size w (w.alloc (.cells c.cells 44)) from (Below.refl _ _).alloc (Nat.le_refl _) _)
  have hz : ((c.ws.length : Int) == 0) = false := by rw [beq_eq_false_iff_ne]; omega
  have HE := Lib.hid (show colE c = 4 by unfold colE; rw [if_neg (by omega), if_pos h0])
  go_enter Tryd.func42, Tryd.ntmps42
  go_wp2
  go_ret
  exact ⟨by rw [HE.out]; rfl, HB.out⟩

set_option maxHeartbeats 3200000 in
theorem rcol_words {w : World} {c : Col} (ho : ColOk w c) (h0 : c.ws.length ≠ 0) (h64 : c.ws.length ≤ 64) : Calls Tryd.prog 42 #[.agg c.cells] w fun e w' => e = .returned (.int .i64 (colE c)) ∧ Below w.heap.size w w' := by
  have hz : ((c.ws.length : Int) == 0) = false := by rw [beq_eq_false_iff_ne]; omega
  have HE := Lib.hid (show colE c = if c.ws.all nmB = false then 19 else if twiceB c.ws = true then 8 else if placeB c = true then 0 else 2 by unfold colE; rw [if_neg h0, if_neg (by omega)])
  have hB : Below w.heap.size w (w.alloc (.cells c.cells 44)) := (Below.refl _ _).alloc (Nat.le_refl _) _
  have hA : ColAt (w.alloc (.cells c.cells 44)) w.heap.size c := heap_alloc_new w _
  have HO := Lib.hid (And.intro hB (And.intro hA (ho.below hB)))
  have l1 := ho.lo1
  have l2 := ho.lo2
  have l3 := ho.hi1
  have l4 := ho.hi2
  clear ho hB hA h0
  go_enter Tryd.func42, Tryd.ntmps42
  go_wp2_with fail
  obtain ⟨V, hV⟩ : ∃ V, V = w.alloc (.cells c.cells 44) := ⟨_, rfl⟩
  rw [← hV] at HO
  rw [← hV]
  clear hV
  obtain ⟨N, hN⟩ : ∃ N, N = c.ws.length := ⟨_, rfl⟩
  rw [← hN]
  rw [← hN] at h64 hz
  have HN := Lib.hid hN
  clear hN
  go_loopw [4] (fun i wr => ∃ k : Nat, k ≤ N ∧ i = .int .i64 (k : Int) ∧ Hid (Below V.heap.size V wr ∧ ∀ j, j < k → nmB (c.ws.getD j ByteArray.empty) = true)) (fun i _ => N - (intOf i).toNat)
  case atStart => exact ⟨0, Nat.zero_le _, rfl, Lib.hid ⟨Below.refl _ _, fun j hj => absurd hj (Nat.not_lt_zero _)⟩⟩
  case round =>
    obtain ⟨k, hk, rfl, HJ⟩ := hrel
    have hcA := HO.out.2.1.below HJ.out.1
    have c1 := hcA.c1
    have c2 := hcA.c2
    have c3 := hcA.c3
    rw [← HN.out] at c3
    by_cases hlt : k < N
    · obtain ⟨ad, ea, ha, d1⟩ := (HO.out.2.2.words.below HJ.out.1).at (j := k) (by rw [← HN.out]; exact hlt)
      rw [ea] at c3
      obtain ⟨s, hs⟩ : ∃ s, s = c.ws.getD k ByteArray.empty := ⟨_, rfl⟩
      rw [← hs] at d1
      have HS := Lib.hid hs
      clear hs ha hcA ea
      have HC := Lib.hid (rname_any s wr)
      cases hv : nmB s with
      | true =>
        rw [hv] at HC
        have HV := Lib.hid hv
        clear hv
        go_wp2_with fail
        refine HC.out.mono ?_
        rintro e w1 ⟨rfl, hb⟩
        have HJ2 := Lib.hid (show Below V.heap.size V w1 ∧ ∀ j, j < k + 1 → nmB (c.ws.getD j ByteArray.empty) = true from ⟨HJ.out.1.trans (hb.mono HJ.out.1.size), fun j hj => by
          rcases Nat.lt_succ_iff_lt_or_eq.1 hj with h | rfl
          · exact HJ.out.2 j h
          · rw [← HS.out]; exact HV.out⟩)
        clear hb HC HJ c1 c2 c3 d1
        go_wp2_with fail
        go_roundw
        case rel => exact ⟨k + 1, by omega, by go_num, HJ2.out⟩
        case measure => simp [intOf]; omega
      | false =>
        rw [hv] at HC
        have HF := Lib.hid (show colE c = 19 by
          have : c.ws.all nmB = false := by
            cases e : c.ws.all nmB with
            | false => rfl
            | true => have := (all_getD nmB c.ws).1 e k (by rw [← HN.out]; exact hlt); rw [← HS.out, hv] at this; cases this
          rw [HE.out, if_pos this])
        clear hv
        go_wp2_with fail
        refine HC.out.mono ?_
        rintro e w1 ⟨rfl, hb⟩
        have HB := Lib.hid (HO.out.1.trans ((HJ.out.1.trans (hb.mono HJ.out.1.size)).mono HO.out.1.size))
        clear hb HC HJ c1 c2 c3 d1
        go_wp2_with fail
        go_ret
        exact ⟨by rw [HF.out]; rfl, HB.out⟩
    · obtain rfl : N = k := by omega
      have hall := (all_getD nmB c.ws).2 (fun j hj => HJ.out.2 j (by rw [HN.out]; exact hj))
      have HT := Lib.hid (rtwice_any (c := c.wc) (HO.out.2.2.words.below HJ.out.1) HO.out.2.2.few)
      rw [← HN.out] at HT
      have HE2 := Lib.hid (show colE c = if twiceB c.ws = true then 8 else if placeB c = true then 0 else 2 by rw [HE.out, if_neg (by rw [hall]; decide)])
      have HBr := Lib.hid HJ.out.1
      clear hall hcA HJ HE
      cases ht : twiceB c.ws with
      | true =>
        rw [ht] at HT HE2
        clear ht
        go_wp2_with fail
        refine HT.out.mono ?_
        rintro e w1 ⟨rfl, n, rfl⟩
        have HB := Lib.hid (HO.out.1.trans ((below_drewN HBr.out n).mono HO.out.1.size))
        clear HT
        go_wp2_with fail
        go_ret
        exact ⟨by rw [HE2.out]; rfl, HB.out⟩
      | false =>
        rw [ht] at HT HE2
        clear ht
        have HF := Lib.hid (show colE c = if placeB c = true then 0 else 2 from HE2.out)
        clear HE2
        by_cases h1 : c.lo = 0
        · have q1 : (c.lo != 0) = false := by rw [h1]; rfl
          by_cases h2 : c.hi = (N : Int) - 1
          · have q2 : (c.hi != (N : Int) - 1) = false := by rw [h2]; simp
            have HP := Lib.hid (show colE c = 0 by rw [HF.out, if_pos (by unfold placeB; rw [decide_eq_true h1, ← HN.out, decide_eq_true h2]; rfl)])
            clear h1 h2 HF
            go_wp2_with fail
            refine HT.out.mono ?_
            rintro e w1 ⟨rfl, n, rfl⟩
            have HB := Lib.hid (HO.out.1.trans ((below_drewN HBr.out n).mono HO.out.1.size))
            clear HT
            go_wp2_with fail
            go_ret
            exact ⟨by rw [HP.out]; rfl, HB.out⟩
          · have q2 : (c.hi != (N : Int) - 1) = true := by rw [bne_iff_ne]; exact h2
            have HP := Lib.hid (show colE c = 2 by rw [HF.out, if_neg (by unfold placeB; rw [decide_eq_true h1, ← HN.out, decide_eq_false h2]; decide)])
            clear h1 h2 HF
            go_wp2_with fail
            refine HT.out.mono ?_
            rintro e w1 ⟨rfl, n, rfl⟩
            have HB := Lib.hid (HO.out.1.trans ((below_drewN HBr.out n).mono HO.out.1.size))
            clear HT
            go_wp2_with fail
            go_ret
            exact ⟨by rw [HP.out]; rfl, HB.out⟩
        · have q1 : (c.lo != 0) = true := by rw [bne_iff_ne]; exact h1
          have HP := Lib.hid (show colE c = 2 by rw [HF.out, if_neg (by unfold placeB; rw [decide_eq_false h1]; simp)])
          clear h1 HF
          go_wp2_with fail
          refine HT.out.mono ?_
          rintro e w1 ⟨rfl, n, rfl⟩
          have HB := Lib.hid (HO.out.1.trans ((below_drewN HBr.out n).mono HO.out.1.size))
          clear HT
          go_wp2_with fail
          go_ret
          exact ⟨by rw [HP.out]; rfl, HB.out⟩

theorem rcol_any {w : World} {c : Col} (ho : ColOk w c) : Calls Tryd.prog 42 #[.agg c.cells] w fun e w' => e = .returned (.int .i64 (colE c)) ∧ Below w.heap.size w w' := by
  by_cases h0 : c.ws.length = 0
  · exact rcol_none ho h0
  · by_cases h1 : c.ws.length ≤ 64
    · exact rcol_words ho h0 h1
    · exact rcol_long (by omega)

end Go.Proofs.YtgehldadfaonbaaDoor
