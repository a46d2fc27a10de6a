/-
  The reference of layer 8: collect, its walk.
-/
import Derived.Test.YtofanopnibbaeaaGreatDoorZ8
namespace Go.Proofs.YtofanopnibbaeaaGreatDoor
open Go.RowKit NV
open Go.Lib (decDigits)

set_option maxHeartbeats 12800000 in
set_option maxRecDepth 100000 in
theorem rcollect_any {L : List MI} {N cap : Nat} {ao : Option Addr} {w : World} (hr : MR w ao N L) (hN : N ≤ 1000) (hok : OKM L) :
    Calls Tryz.prog 180 #[.slice ao N cap] w fun e w' => (∀ S, colO L = some S → ∃ v, e = .returned (.tuple #[v, .int .i64 0]) ∧ w'.ownsRow w.heap.size 29 2 v (outQ S).length (cellsZ (tZ (outQ S)))) ∧ (colO L = none → e = .returned (.tuple #[.slice none 0 0, .int .i64 5])) ∧ Below w.heap.size w w' := by
  obtain ⟨i0, hi, hz0, hz1, hz2⟩ := info_parts infoZ
  obtain ⟨R, hR⟩ : ∃ R, R = colO L := ⟨_, rfl⟩
  rw [← hR]
  have HBAD := Lib.hid (show ∀ k S, k < N → runO (colS L) [] k = some S → colS L k S = none → R = none from fun k S hk h1 h2 => by rw [hR]; unfold colO; rw [hr.len]; exact runO_fail h1 h2 hk)
  have HEND := Lib.hid (show ∀ S, runO (colS L) [] N = some S → R = some S from fun S h => by rw [hR]; unfold colO; rw [hr.len]; exact h)
  have HI := Lib.hid (show ∀ k S, k ≤ N → runO (colS L) [] k = some S → ColI L k S from fun k S hk h => ColI.run (by rw [hr.len]; exact hk) h)
  have HMR := Lib.hid hr
  have HOK := Lib.hid hok
  clear hr hok hR
  go_enter Tryz.func180, Tryz.ntmps180
  go_wp2_with fail
  go_loopw [4, 5] (fun vv iv wr => ∃ (k : Nat) (S : List QI), k ≤ N ∧ iv = .int .i64 (k : Int) ∧ Hid (runO (colS L) [] k = some S) ∧ Hid (wr.ownsRow w.heap.size 29 2 vv S.length (cellsZ (tZ S))) ∧ Below w.heap.size w wr) (fun _ iv _ => N - (intOf iv).toNat)
  case atStart => exact ⟨0, [], Nat.zero_le _, rfl, Lib.hid rfl, Lib.hid (World.ownsRow_nil _ _ _ _), Below.refl _ _⟩
  case round =>
    obtain ⟨k, S, hk, rfl, HRUN, HROW, hb⟩ := hrel
    have HCI := Lib.hid (HI.out k S hk HRUN.out)
    obtain ⟨M, hM⟩ : ∃ M, S.length = M := ⟨_, rfl⟩
    have HM := Lib.hid (And.intro hM (show (tZ S).length = M by unfold tZ; rw [List.length_map, hM]))
    have hM1 : M ≤ k := by rw [← hM]; exact HCI.out.len
    rw [hM] at HROW
    by_cases hlt : k < N
    · have HB := Lib.hid hb
      obtain ⟨a, x, rfl, hx, hal, _, _⟩ := (HMR.out.below hb).at hlt
      obtain ⟨key, p⟩ := x
      have HX := Lib.hid hx
      have HCL := Lib.hid (show ∀ W, Below w.heap.size w W → W.cell? (a.add (k * 2)) = some (.string key) ∧ W.cell? ⟨(a.add (k * 2)).block, (a.add (k * 2)).off + 1, none⟩ = some (.string p) from fun W hW => by
        obtain ⟨a', x', e1, e2, _, e3, e4⟩ := (HMR.out.below hW).at hlt
        obtain rfl := Option.some.inj e1
        rw [hx] at e2
        obtain rfl := Option.some.inj e2
        exact ⟨e3, e4⟩)
      have HNEW := Lib.hid (fun hp => colS_new HX.out HOK.out hp HCI.out.srt)
      have HOLD := Lib.hid (fun y hy he => colS_old (y := y) HX.out HOK.out hy he HCI.out.srt)
      have HQOK := Lib.hid (HCI.out.ok)
      have HQK := Lib.hid ((HOK.out.at hx).2)
      have HQP := Lib.hid ((HOK.out.at hx).1)
      have HBADK := Lib.hid (HBAD.out k S hlt HRUN.out)
      have HSTEP := Lib.hid (runO_step HRUN.out)
      clear hb hx hal HBAD HEND HI HRUN HMR HCI HOK
      obtain ⟨LT, hLT⟩ : ∃ LT, tZ S = LT := ⟨_, rfl⟩
      have HLT := Lib.hid hLT
      rw [hLT] at HROW HM HNEW HOLD
      clear hM hLT
      obtain ⟨Pk, hPk⟩ : ∃ Pk, posZ key.data.toList LT = Pk := ⟨_, rfl⟩
      have hPM : Pk ≤ M := by rw [← hPk, ← HM.out.2]; exact posZ_le _ _
      have HPL := Lib.hid (show ∀ j x, j < Pk → LT[j]? = some x → kZ x < key.data.toList from fun j x hj hx => posZ_lt (by rw [hPk]; exact hj) hx)
      have HPA := Lib.hid (show ∀ x, LT[Pk]? = some x → ¬ kZ x < key.data.toList from fun x hx => posZ_at (by rw [hPk]; exact hx))
      rw [show kZ (key, p) = key.data.toList from rfl, hPk] at HNEW HOLD
      clear hPk
      have hform : (M = 0 ∧ u4 = .slice none 0 0) ∨ ∃ g cp, u4 = .slice (some ⟨g, 0, none⟩) M cp ∧ g < wr.heap.size ∧ w.heap.size ≤ g ∧ M ≤ cp ∧ cp ≤ maxLen := by
        rcases HROW.out.2 with ⟨hv, h0⟩ | ⟨g, cp, cur, hv, hb, hg, h4, h5, _⟩
        · exact .inl ⟨h0, hv⟩
        · exact .inr ⟨g, cp, hv, (Array.getElem?_eq_some_iff.1 hg).1, hb, h4, h5⟩
      obtain ⟨wo, hwo⟩ : ∃ wo, wo = wr := ⟨_, rfl⟩
      rw [← hwo] at HB HROW hform ⊢
      clear hwo
      replace HCL := Lib.hid (fun W (hW : Below wo.heap.size wo W) => HCL.out W (HB.out.trans (hW.mono HB.out.size)))
      rcases hform with ⟨rfl, rfl⟩ | ⟨g, cp, rfl, hg, hgb, hcap, hcm⟩
      · obtain rfl : Pk = 0 := by omega
        obtain ⟨S', hS1, hS2⟩ := HNEW.out (fun y hy => by rw [List.length_eq_zero_iff.1 HM.out.2] at hy; simp at hy)
        have HNXT := Lib.hid (show runO (colS L) [] (k + 1) = some S' by rw [HSTEP.out, hS1])
        have HLEN := Lib.hid (show S'.length = 0 + 1 by
          have := congrArg List.length hS2
          unfold tZ at this
          rw [List.length_map] at this
          have h2 := HM.out.2
          rw [this, List.length_append, List.length_append, List.length_take, List.length_drop, h2]
          show min _ _ + 1 + _ = _
          omega)
        have HFIN := Lib.hid (show cellsZ (tZ S') = cellsZ (LT.take 0) ++ [.string key, .string p] ++ cellsZ (LT.drop 0) by rw [hS2, cellsZ_app, cellsZ_app]; rfl)
        have HNL := Lib.hid (show (cellsZ (LT.take 0)).length = 0 * 2 ∧ (∀ u ∈ cellsZ (LT.take 0), u.oneCell' = true) ∧ (cellsZ (LT.drop 0)).length = 0 * 2 ∧ (∀ u ∈ cellsZ (LT.drop 0), u.oneCell' = true) from
          ⟨by rw [cellsZ_len, List.length_take, HM.out.2]; omega, cellsZ_one _, by rw [cellsZ_len, List.length_drop, HM.out.2], cellsZ_one _⟩)
        clear hS1 hS2 HNEW HOLD HSTEP
        have HNB := Lib.hid (show ∀ W, Below wo.heap.size wo W → ∀ ad : Addr, none = some ad → ∀ j u, (cellsZ (LT.take 0))[j]? = some u → W.cell? (ad.add j) = some u from fun W _ ad h => by cases h)
        have HNF := Lib.hid (show ∀ W, Below wo.heap.size wo W → ∀ ad : Addr, none = some ad → ∀ j u, (cellsZ (LT.drop 0))[j]? = some u → W.cell? (ad.add j) = some u from fun W _ ad h => by cases h)
        have hk0 : decide ((0 : Int) < 0) = false := by decide
        have hk1 : ((0 : Int) == 0) = true := by decide
        clear HROW HPL HPA HBADK HQOK HQK HQP
        go_wp2_with fail
        go_loopw [6] (fun jv wq => jv = .int .i64 0 ∧ Below wo.heap.size wo wq) (fun _ _ => 0)
        case atStart => exact ⟨rfl, Below.refl _ _⟩
        case round =>
          obtain ⟨rfl, hbq⟩ := hrel
          have HBQ0 := Lib.hid hbq
          clear hbq
          go_wp2_with fail
          go_quiet (fail)
          go_wp2_with fail
          go_quiet (fail)
          go_wp2_with fail
          refine wp_world (below_drewZ (below_drewZ HBQ0.out _) _) (fun wx hbx => ?_)
          refine wp_region_held (S := fun W => Below wo.heap.size wo W) (by kernel_rfl) ?_
          have HD : Below wo.heap.size wo wx.drew := hbx.drew
          change wpAnyH _ _ _ _ _ 16 _ _ wx.drew
          clear hbx
          generalize wx.drew = W at *
          refine wpHz_take (i := 1) (d := 54) (v := .slice none 0 0) rfl rfl (by kernel_rfl) (by kernel_rfl) (by kernel_rfl) (fun _ _ _ h => h) rfl (fun W _ => by go_simp) HD ?_
          simp only [Act.put, List.setIfInBounds_toArray, List.set_cons_zero, List.set_cons_succ]
          refine wpHz_take (i := 2) (d := 55) (v := .int .i64 0) rfl rfl (by kernel_rfl) (by kernel_rfl) (by kernel_rfl) (fun _ _ _ h => h) rfl (fun W _ => by go_simp) HD ?_
          simp only [Act.put, List.setIfInBounds_toArray, List.set_cons_zero, List.set_cons_succ]
          refine wpHz_take (i := 3) (d := 56) (v := .slice none 0 0) rfl rfl (by kernel_rfl) (by kernel_rfl) (by kernel_rfl) (fun _ _ _ h => h) rfl (fun W _ => by go_simp) HD ?_
          simp only [Act.put, List.setIfInBounds_toArray, List.set_cons_zero, List.set_cons_succ]
          refine wpHz_take (i := 5) (d := 58) (v := .slice (some a) N cap) rfl rfl (by kernel_rfl) (by kernel_rfl) (by kernel_rfl) (fun _ _ _ h => h) rfl (fun W _ => by go_simp) HD ?_
          simp only [Act.put, List.setIfInBounds_toArray, List.set_cons_zero, List.set_cons_succ]
          refine wpHz_take (i := 6) (d := 59) (v := .int .i64 (k : Int)) rfl rfl (by kernel_rfl) (by kernel_rfl) (by kernel_rfl) (fun _ _ _ h => h) rfl (fun W _ => by go_simp) HD ?_
          simp only [Act.put, List.setIfInBounds_toArray, List.set_cons_zero, List.set_cons_succ]
          refine wpHz_take (i := 7) (d := 60) (v := .pointer (some (a.add (k * 2)))) rfl rfl (by kernel_rfl) (by kernel_rfl) (by kernel_rfl) (fun _ _ _ h => h) rfl (fun W _ => by go_simp) HD ?_
          simp only [Act.put, List.setIfInBounds_toArray, List.set_cons_zero, List.set_cons_succ]
          refine wpHz_take (i := 8) (d := 61) (v := .agg #[.string key, .string p]) rfl rfl (by kernel_rfl) (by kernel_rfl) (by kernel_rfl) (fun _ _ _ h => h) rfl (fun W hW => by have e0 := (HCL.out W hW).1; have e1 := (HCL.out W hW).2; go_simp) HD ?_
          simp only [Act.put, List.setIfInBounds_toArray, List.set_cons_zero, List.set_cons_succ]
          refine wpHz_take (i := 11) (d := 64) (v := .slice none 0 0) rfl rfl (by kernel_rfl) (by kernel_rfl) (by kernel_rfl) (fun _ _ _ h => h) rfl (fun W _ => by go_simp) HD ?_
          simp only [Act.put, List.setIfInBounds_toArray, List.set_cons_zero, List.set_cons_succ]
          refine wpHz_take (i := 12) (d := 65) (v := .int .i64 0) rfl rfl (by kernel_rfl) (by kernel_rfl) (by kernel_rfl) (fun _ _ _ h => h) rfl (fun W _ => by go_simp) HD ?_
          simp only [Act.put, List.setIfInBounds_toArray, List.set_cons_zero, List.set_cons_succ]
          refine wpHz_take (i := 13) (d := 66) (v := .slice none (0) (0)) rfl rfl (by kernel_rfl) (by kernel_rfl) (by kernel_rfl) (fun _ _ _ h => h) rfl (fun W _ => by go_simp) HD ?_
          simp only [Act.put, List.setIfInBounds_toArray, List.set_cons_zero, List.set_cons_succ]
          refine wpHz_two (i := 0) (j := 9) (by kernel_rfl) ?_ ?_
          · refine wpOz_run rfl rfl (wpz_value (d := 53) (v := .slice (some ⟨W.heap.size, 0, none⟩) 0 0) (w' := W.alloc (.cells #[] 29)) rfl (by go_simp) ?_)
            simp only [Act.put, List.setIfInBounds_toArray, List.set_cons_zero, List.set_cons_succ]
            have HA := InsR.lit HD
            refine ⟨HA.below, ?_⟩
            refine wpHz_two (i := 4) (j := 9) (by kernel_rfl) ?_ ?_
            · refine wpOz_run rfl rfl (wpz_append_rowX (.tmp 53) (.tmp 56) 23 (d := 57) rfl rfl wo.heap.size 29 i0 (.agg #[.string ⟨#[]⟩, .string ⟨#[]⟩]) 2 32 Tryz.underlying23 hi hz0 hz1 hz2 rfl (by decide) _ 0 [] rfl HA.row none 0 0 (cellsZ (LT.take 0)) rfl HNL.out.1 (HNB.out _ HA.below) (fun _ => ⟨rfl, rfl⟩) HNL.out.2.1 (by unfold maxLen; omega) (by omega) HA.below.size ?_)
              intro v1 W1 hown1 hgr1 ho1
              simp only [Act.put, List.setIfInBounds_toArray, List.set_cons_zero, List.set_cons_succ]
              rw [Nat.zero_add, List.nil_append] at hown1
              have HC := HA.grown hown1 hgr1
              clear hown1 hgr1 ho1
              refine ⟨HC.below, ?_⟩
              refine wpHz_one (i := 9) (by kernel_rfl) ?_
              refine wpOz_run rfl rfl (wpz_value (d := 62) (v := .slice (some ⟨W1.heap.size, 0, none⟩) 1 1) (w' := W1.alloc (.cells #[.string key, .string p] 29)) rfl (by go_simp) ?_)
              simp only [Act.put, List.setIfInBounds_toArray, List.set_cons_zero, List.set_cons_succ]
              have HS := HC.new key p
              refine ⟨HS.below, ?_⟩
              generalize W1.heap.size = B at *
              generalize World.alloc W1 _ = W9 at *
              clear HC
              refine wpHz_one (i := 10) (by kernel_rfl) ?_
              refine wpOz_run rfl rfl (wpz_append_rowX (.tmp 57) (.tmp 62) 23 (d := 63) rfl rfl wo.heap.size 29 i0 (.agg #[.string ⟨#[]⟩, .string ⟨#[]⟩]) 2 32 Tryz.underlying23 hi hz0 hz1 hz2 rfl (by decide) _ 0 (cellsZ (LT.take 0)) rfl HS.row (some ⟨B, 0, none⟩) 1 1 [Value.string key, Value.string p] rfl rfl (fun ad had => by cases had; exact World.news_of_block HS.blk) (fun h => by cases h) (by intro u hu; simp at hu; rcases hu with rfl | rfl <;> rfl) (by unfold maxLen; omega) (by omega) HS.below.size ?_)
              intro v2 W2 hown2 hgr2 _
              simp only [Act.put, List.setIfInBounds_toArray, List.set_cons_zero, List.set_cons_succ]
              have HR2 := HS.row1.grown hown2 hgr2
              clear hown2 hgr2 HS
              refine ⟨HR2.below, ?_⟩
              refine wpHz_one (i := 14) (by kernel_rfl) ?_
              refine wpOz_run rfl rfl (wpz_append_rowX (.tmp 63) (.tmp 66) 23 (d := 67) rfl rfl wo.heap.size 29 i0 (.agg #[.string ⟨#[]⟩, .string ⟨#[]⟩]) 2 32 Tryz.underlying23 hi hz0 hz1 hz2 rfl (by decide) _ (0 + 1) (cellsZ (LT.take 0) ++ [Value.string key, Value.string p]) rfl HR2.row none (0) (0) (cellsZ (LT.drop 0)) rfl HNL.out.2.2.1 (HNF.out _ HR2.below) (fun _ => ⟨rfl, rfl⟩) HNL.out.2.2.2 (by unfold maxLen; omega) (by omega) HR2.below.size ?_)
              intro v3 W3 hown3 hgr3 _
              simp only [Act.put, List.setIfInBounds_toArray, List.set_cons_zero, List.set_cons_succ]
              have HR3 := HR2.grown hown3 hgr3
              clear hown3 hgr3 HR2
              refine ⟨HR3.below, ?_⟩
              refine wpHz_take (i := 15) (d := 4) (v := v3) rfl rfl (by kernel_rfl) (by kernel_rfl) (by kernel_rfl) (fun _ _ _ h => h) rfl (fun W _ => by go_simp) HR3.below ?_
              simp only [Act.put, List.setIfInBounds_toArray, List.set_cons_zero, List.set_cons_succ]
              refine wpAnyH_done (by kernel_rfl) ?_ _
              have HF := Lib.hid (And.intro HR3.row HR3.below)
              clear HR3
              go_wp2_with fail
              go_roundw
              case rel => exact ⟨k + 1, S', by omega, by go_num, HNXT, Lib.hid (by
                have h := HF.out.1
                rw [← HFIN.out] at h
                rw [HLEN.out]
                exact rowM_base h HB.out.size), HB.out.trans (HF.out.2.mono HB.out.size)⟩
              case measure => simp [intOf]; omega
            · refine wpOz_run rfl rfl (wpz_value (d := 62) (v := .slice (some ⟨(W.alloc (.cells #[] 29)).heap.size, 0, none⟩) 1 1) (w' := (W.alloc (.cells #[] 29)).alloc (.cells #[.string key, .string p] 29)) rfl (by go_simp) ?_)
              simp only [Act.put, List.setIfInBounds_toArray, List.set_cons_zero, List.set_cons_succ]
              have HS0 := HA.new key p
              refine ⟨HS0.below, ?_⟩
              clear HA
              generalize (W.alloc (.cells #[] 29)).heap.size = B at *
              refine wpHz_one (i := 4) (by kernel_rfl) ?_
              refine wpOz_run rfl rfl (wpz_append_rowX (.tmp 53) (.tmp 56) 23 (d := 57) rfl rfl wo.heap.size 29 i0 (.agg #[.string ⟨#[]⟩, .string ⟨#[]⟩]) 2 32 Tryz.underlying23 hi hz0 hz1 hz2 rfl (by decide) _ 0 [] rfl HS0.row none 0 0 (cellsZ (LT.take 0)) rfl HNL.out.1 (HNB.out _ HS0.below) (fun _ => ⟨rfl, rfl⟩) HNL.out.2.1 (by unfold maxLen; omega) (by omega) HS0.below.size ?_)
              intro v1 W1 hown1 hgr1 ho1
              simp only [Act.put, List.setIfInBounds_toArray, List.set_cons_zero, List.set_cons_succ]
              rw [Nat.zero_add, List.nil_append] at hown1
              have HS := HS0.grown hown1 hgr1 ho1
              clear hown1 hgr1 ho1
              refine ⟨HS.below, ?_⟩
              clear HS0
              refine wpHz_one (i := 10) (by kernel_rfl) ?_
              refine wpOz_run rfl rfl (wpz_append_rowX (.tmp 57) (.tmp 62) 23 (d := 63) rfl rfl wo.heap.size 29 i0 (.agg #[.string ⟨#[]⟩, .string ⟨#[]⟩]) 2 32 Tryz.underlying23 hi hz0 hz1 hz2 rfl (by decide) _ 0 (cellsZ (LT.take 0)) rfl HS.row (some ⟨B, 0, none⟩) 1 1 [Value.string key, Value.string p] rfl rfl (fun ad had => by cases had; exact World.news_of_block HS.blk) (fun h => by cases h) (by intro u hu; simp at hu; rcases hu with rfl | rfl <;> rfl) (by unfold maxLen; omega) (by omega) HS.below.size ?_)
              intro v2 W2 hown2 hgr2 _
              simp only [Act.put, List.setIfInBounds_toArray, List.set_cons_zero, List.set_cons_succ]
              have HR2 := HS.row1.grown hown2 hgr2
              clear hown2 hgr2 HS
              refine ⟨HR2.below, ?_⟩
              refine wpHz_one (i := 14) (by kernel_rfl) ?_
              refine wpOz_run rfl rfl (wpz_append_rowX (.tmp 63) (.tmp 66) 23 (d := 67) rfl rfl wo.heap.size 29 i0 (.agg #[.string ⟨#[]⟩, .string ⟨#[]⟩]) 2 32 Tryz.underlying23 hi hz0 hz1 hz2 rfl (by decide) _ (0 + 1) (cellsZ (LT.take 0) ++ [Value.string key, Value.string p]) rfl HR2.row none (0) (0) (cellsZ (LT.drop 0)) rfl HNL.out.2.2.1 (HNF.out _ HR2.below) (fun _ => ⟨rfl, rfl⟩) HNL.out.2.2.2 (by unfold maxLen; omega) (by omega) HR2.below.size ?_)
              intro v3 W3 hown3 hgr3 _
              simp only [Act.put, List.setIfInBounds_toArray, List.set_cons_zero, List.set_cons_succ]
              have HR3 := HR2.grown hown3 hgr3
              clear hown3 hgr3 HR2
              refine ⟨HR3.below, ?_⟩
              refine wpHz_take (i := 15) (d := 4) (v := v3) rfl rfl (by kernel_rfl) (by kernel_rfl) (by kernel_rfl) (fun _ _ _ h => h) rfl (fun W _ => by go_simp) HR3.below ?_
              simp only [Act.put, List.setIfInBounds_toArray, List.set_cons_zero, List.set_cons_succ]
              refine wpAnyH_done (by kernel_rfl) ?_ _
              have HF := Lib.hid (And.intro HR3.row HR3.below)
              clear HR3
              go_wp2_with fail
              go_roundw
              case rel => exact ⟨k + 1, S', by omega, by go_num, HNXT, Lib.hid (by
                have h := HF.out.1
                rw [← HFIN.out] at h
                rw [HLEN.out]
                exact rowM_base h HB.out.size), HB.out.trans (HF.out.2.mono HB.out.size)⟩
              case measure => simp [intOf]; omega
          · refine wpOz_run rfl rfl (wpz_value (d := 62) (v := .slice (some ⟨W.heap.size, 0, none⟩) 1 1) (w' := W.alloc (.cells #[.string key, .string p] 29)) rfl (by go_simp) ?_)
            simp only [Act.put, List.setIfInBounds_toArray, List.set_cons_zero, List.set_cons_succ]
            have HB := InsB.new key p HD
            refine ⟨HB.below, ?_⟩
            refine wpHz_one (i := 0) (by kernel_rfl) ?_
            refine wpOz_run rfl rfl (wpz_value (d := 53) (v := .slice (some ⟨(W.alloc (.cells #[.string key, .string p] 29)).heap.size, 0, none⟩) 0 0) (w' := (W.alloc (.cells #[.string key, .string p] 29)).alloc (.cells #[] 29)) rfl (by go_simp) ?_)
            simp only [Act.put, List.setIfInBounds_toArray, List.set_cons_zero, List.set_cons_succ]
            have HS0 := HB.lit
            refine ⟨HS0.below, ?_⟩
            clear HB
            refine wpHz_one (i := 4) (by kernel_rfl) ?_
            refine wpOz_run rfl rfl (wpz_append_rowX (.tmp 53) (.tmp 56) 23 (d := 57) rfl rfl wo.heap.size 29 i0 (.agg #[.string ⟨#[]⟩, .string ⟨#[]⟩]) 2 32 Tryz.underlying23 hi hz0 hz1 hz2 rfl (by decide) _ 0 [] rfl HS0.row none 0 0 (cellsZ (LT.take 0)) rfl HNL.out.1 (HNB.out _ HS0.below) (fun _ => ⟨rfl, rfl⟩) HNL.out.2.1 (by unfold maxLen; omega) (by omega) HS0.below.size ?_)
            intro v1 W1 hown1 hgr1 ho1
            simp only [Act.put, List.setIfInBounds_toArray, List.set_cons_zero, List.set_cons_succ]
            rw [Nat.zero_add, List.nil_append] at hown1
            have HS := HS0.grown hown1 hgr1 ho1
            clear hown1 hgr1 ho1
            refine ⟨HS.below, ?_⟩
            clear HS0
            generalize W.heap.size = B at *
            refine wpHz_one (i := 10) (by kernel_rfl) ?_
            refine wpOz_run rfl rfl (wpz_append_rowX (.tmp 57) (.tmp 62) 23 (d := 63) rfl rfl wo.heap.size 29 i0 (.agg #[.string ⟨#[]⟩, .string ⟨#[]⟩]) 2 32 Tryz.underlying23 hi hz0 hz1 hz2 rfl (by decide) _ 0 (cellsZ (LT.take 0)) rfl HS.row (some ⟨B, 0, none⟩) 1 1 [Value.string key, Value.string p] rfl rfl (fun ad had => by cases had; exact World.news_of_block HS.blk) (fun h => by cases h) (by intro u hu; simp at hu; rcases hu with rfl | rfl <;> rfl) (by unfold maxLen; omega) (by omega) HS.below.size ?_)
            intro v2 W2 hown2 hgr2 _
            simp only [Act.put, List.setIfInBounds_toArray, List.set_cons_zero, List.set_cons_succ]
            have HR2 := HS.row1.grown hown2 hgr2
            clear hown2 hgr2 HS
            refine ⟨HR2.below, ?_⟩
            refine wpHz_one (i := 14) (by kernel_rfl) ?_
            refine wpOz_run rfl rfl (wpz_append_rowX (.tmp 63) (.tmp 66) 23 (d := 67) rfl rfl wo.heap.size 29 i0 (.agg #[.string ⟨#[]⟩, .string ⟨#[]⟩]) 2 32 Tryz.underlying23 hi hz0 hz1 hz2 rfl (by decide) _ (0 + 1) (cellsZ (LT.take 0) ++ [Value.string key, Value.string p]) rfl HR2.row none (0) (0) (cellsZ (LT.drop 0)) rfl HNL.out.2.2.1 (HNF.out _ HR2.below) (fun _ => ⟨rfl, rfl⟩) HNL.out.2.2.2 (by unfold maxLen; omega) (by omega) HR2.below.size ?_)
            intro v3 W3 hown3 hgr3 _
            simp only [Act.put, List.setIfInBounds_toArray, List.set_cons_zero, List.set_cons_succ]
            have HR3 := HR2.grown hown3 hgr3
            clear hown3 hgr3 HR2
            refine ⟨HR3.below, ?_⟩
            refine wpHz_take (i := 15) (d := 4) (v := v3) rfl rfl (by kernel_rfl) (by kernel_rfl) (by kernel_rfl) (fun _ _ _ h => h) rfl (fun W _ => by go_simp) HR3.below ?_
            simp only [Act.put, List.setIfInBounds_toArray, List.set_cons_zero, List.set_cons_succ]
            refine wpAnyH_done (by kernel_rfl) ?_ _
            have HF := Lib.hid (And.intro HR3.row HR3.below)
            clear HR3
            go_wp2_with fail
            go_roundw
            case rel => exact ⟨k + 1, S', by omega, by go_num, HNXT, Lib.hid (by
              have h := HF.out.1
              rw [← HFIN.out] at h
              rw [HLEN.out]
              exact rowM_base h HB.out.size), HB.out.trans (HF.out.2.mono HB.out.size)⟩
            case measure => simp [intOf]; omega
      · have HNBT := Lib.hid (show ∀ W, Below wo.heap.size wo W → ∀ j u, (cellsZ LT)[j]? = some u → W.cell? ⟨g, j, none⟩ = some u from fun W hW j u hu => by
          have h1 := HROW.out.cells (g := g) rfl j u hu
          rw [Addr.add_lit, Nat.zero_add] at h1
          exact (hW.cell (p := ⟨g, j, none⟩) hg).trans h1)
        have HCG := Lib.hid (show ∀ j x, LT[j]? = some x → ∀ W, Below wo.heap.size wo W → W.cell? ⟨g, j * 2, none⟩ = some (.string x.1) ∧ W.cell? ⟨g, j * 2 + 1, none⟩ = some (.string x.2) from fun j x hx W hW => ⟨HNBT.out W hW _ _ (cellsZ_get LT j x hx).1, HNBT.out W hW _ _ (cellsZ_get LT j x hx).2⟩)
        have HCK := Lib.hid (show ∀ W, Below wo.heap.size wo W → W.cell? (a.add (k * 2)) = some (.string key) from fun W hW => (HCL.out W hW).1)
        go_wp2_with fail
        go_loopw [6] (fun jv wq => ∃ j : Nat, j ≤ Pk ∧ jv = .int .i64 (j : Int) ∧ Below wo.heap.size wo wq) (fun jv _ => M - (intOf jv).toNat)
        case atStart => exact ⟨0, Nat.zero_le _, rfl, Below.refl _ _⟩
        case round =>
          obtain ⟨j, hj, rfl, hbq⟩ := hrel
          by_cases hjP : j < Pk
          · obtain ⟨y, hy⟩ : ∃ y, LT[j]? = some y := ⟨LT[j]'(by rw [HM.out.2]; omega), List.getElem?_eq_getElem _⟩
            have d0 := (HCG.out j y hy wr hbq).1
            have d1 := HCK.out wr hbq
            obtain ⟨y1, y2⟩ := y
            have hl1 : Op.bytesLess y1.toList key.toList = true := (lt_b y1 key).trans (decide_eq_true (HPL.out j _ hjP hy))
            have hjM : decide ((j : Int) < (M : Int)) = true := decide_eq_true (by omega)
            have hjM2 : j < M := by omega
            have HBQ0 := Lib.hid hbq
            clear hbq hy
            go_wp2_with fail
            go_quiet (fail)
            go_wp2_with fail
            go_roundw
            case rel => exact ⟨j + 1, by omega, by go_num, below_drewZ HBQ0.out _⟩
            case measure => simp [intOf]; omega
          · obtain rfl : j = Pk := by omega
            have HBQ0 := Lib.hid hbq
            clear hbq
            by_cases hPM2 : j < M
            · obtain ⟨y, hy⟩ : ∃ y, LT[j]? = some y := ⟨LT[j]'(by rw [HM.out.2]; omega), List.getElem?_eq_getElem _⟩
              have d0 := (HCG.out j y hy wr HBQ0.out).1
              have d1 := HCK.out wr HBQ0.out
              have HY := Lib.hid hy
              have HCY := Lib.hid (HCG.out j y hy)
              obtain ⟨y1, y2⟩ := y
              have hl1 : Op.bytesLess y1.toList key.toList = false := (lt_b y1 key).trans (decide_eq_false (HPA.out _ hy))
              have hjM : decide ((j : Int) < (M : Int)) = true := decide_eq_true (by omega)
              have hjE : ((j : Int) == (M : Int)) = false := by rw [beq_eq_false_iff_ne]; omega
              have hjE2 : (j == M) = false := by rw [beq_eq_false_iff_ne]; omega
              by_cases hq : y1.data.toList = key.data.toList
              · have hl2 : (y1.toList == key.toList) = true := (eq_b y1 key).trans (decide_eq_true hq)
                obtain ⟨q, hq1, hq2, hq3⟩ := HOLD.out _ HY.out hq
                have hq1 : y2 = qstr q := hq1
                have hqo : QOk q := by
                  obtain ⟨z, hz, rfl⟩ := List.mem_map.1 hq2
                  exact HQOK.out z hz
                have HADD := Lib.hid (fun W => rAdd_oQ q (qZ L k) hqo HQK.out W)
                rw [← hq1, ← (show p = qstr (qZ L k) from HQP.out)] at HADD
                have HQ3 := Lib.hid hq3
                have HBQ1 := Lib.hid (HB.out.trans (HBQ0.out.mono HB.out.size))
                have HCP := Lib.hid (show ∀ W, Below wo.heap.size wo W → W.cell? ⟨(a.add (k * 2)).block, (a.add (k * 2)).off + 1, none⟩ = some (.string p) from fun W hW => (HCL.out W hW).2)
                clear hy hq1 hq2 hq3 hqo HNEW HOLD HPL HPA HQOK HQK HQP HNBT HCG HX hq
                go_wp2_with fail
                go_quiet (fail)
                go_wp2_with fail
                go_quiet (fail)
                go_wp2_with fail
                refine wp_world (below_drewZ (below_drewZ HBQ0.out _) _) (fun wx hbx => ?_)
                have HBX := Lib.hid hbx
                have HLD := Lib.hid (show ∀ W, Below wx.heap.size wx W → W.cell? ⟨g, j * 2 + 1, none⟩ = some (.string y2) ∧ W.cell? ⟨(a.add (k * 2)).block, (a.add (k * 2)).off + 1, none⟩ = some (.string p) from fun W hW => ⟨(HCY.out W (hbx.trans (hW.mono hbx.size))).2, HCP.out W (hbx.trans (hW.mono hbx.size))⟩)
                have hD0 := (Below.refl wx.heap.size wx).drew
                have HRX := Lib.hid (rowM_below HROW.out hbx)
                have HAX := Lib.hid (fun W (h : Below wx.heap.size wx W) => HADD.out W)
                clear hbx HCY HCP HROW HADD d0 d1
                rcases HQ3.out with ⟨ho, hc⟩ | ⟨r, S', ho, hc, hcl⟩
                · have HR0 := Lib.hid (HBADK.out hc)
                  rw [ho] at HAX
                  replace HAX := Lib.hid (show ∀ W, Below wx.heap.size wx W → Calls Tryz.prog 104 #[.string y2, .string p] W fun e w' => e = .returned (.tuple #[.string ⟨#[]⟩, .int .i64 5]) ∧ Below W.heap.size W w' from HAX.out)
                  clear HQ3 ho hc HBADK HSTEP
                  refine wp_region_held (S := fun W => Below wx.heap.size wx W) (by kernel_rfl) ?_
                  change wpAnyH _ _ _ _ _ 16 _ _ wx.drew
                  generalize wx.drew = W at *
                  refine wpHz_take (i := 0) (d := 69) (v := .slice (some ⟨g, 0, none⟩) M cp) rfl rfl (by kernel_rfl) (by kernel_rfl) (by kernel_rfl) (fun _ _ _ h => h) rfl (fun W _ => by go_simp) hD0 ?_
                  simp only [Act.put, List.setIfInBounds_toArray, List.set_cons_zero, List.set_cons_succ]
                  refine wpHz_take (i := 1) (d := 70) (v := .int .i64 (j : Int)) rfl rfl (by kernel_rfl) (by kernel_rfl) (by kernel_rfl) (fun _ _ _ h => h) rfl (fun W _ => by go_simp) hD0 ?_
                  simp only [Act.put, List.setIfInBounds_toArray, List.set_cons_zero, List.set_cons_succ]
                  refine wpHz_take (i := 2) (d := 71) (v := .pointer (some ⟨g, j * 2, none⟩)) rfl rfl (by kernel_rfl) (by kernel_rfl) (by kernel_rfl) (fun _ _ _ h => h) rfl (fun W _ => by go_simp) hD0 ?_
                  simp only [Act.put, List.setIfInBounds_toArray, List.set_cons_zero, List.set_cons_succ]
                  refine wpHz_take (i := 3) (d := 72) (v := .pointer (some ⟨g, j * 2 + 1, none⟩)) rfl rfl (by kernel_rfl) (by kernel_rfl) (by kernel_rfl) (fun _ _ _ h => h) rfl (fun W _ => by go_simp) hD0 ?_
                  simp only [Act.put, List.setIfInBounds_toArray, List.set_cons_zero, List.set_cons_succ]
                  refine wpHz_take (i := 4) (d := 73) (v := .string y2) rfl rfl (by kernel_rfl) (by kernel_rfl) (by kernel_rfl) (fun _ _ _ h => h) rfl (fun W hW => by have e1 := (HLD.out W hW).1; go_simp) hD0 ?_
                  simp only [Act.put, List.setIfInBounds_toArray, List.set_cons_zero, List.set_cons_succ]
                  refine wpHz_take (i := 5) (d := 74) (v := .slice (some a) N cap) rfl rfl (by kernel_rfl) (by kernel_rfl) (by kernel_rfl) (fun _ _ _ h => h) rfl (fun W _ => by go_simp) hD0 ?_
                  simp only [Act.put, List.setIfInBounds_toArray, List.set_cons_zero, List.set_cons_succ]
                  refine wpHz_take (i := 6) (d := 75) (v := .int .i64 (k : Int)) rfl rfl (by kernel_rfl) (by kernel_rfl) (by kernel_rfl) (fun _ _ _ h => h) rfl (fun W _ => by go_simp) hD0 ?_
                  simp only [Act.put, List.setIfInBounds_toArray, List.set_cons_zero, List.set_cons_succ]
                  refine wpHz_take (i := 7) (d := 76) (v := .pointer (some (a.add (k * 2)))) rfl rfl (by kernel_rfl) (by kernel_rfl) (by kernel_rfl) (fun _ _ _ h => h) rfl (fun W _ => by go_simp) hD0 ?_
                  simp only [Act.put, List.setIfInBounds_toArray, List.set_cons_zero, List.set_cons_succ]
                  refine wpHz_take (i := 8) (d := 77) (v := .pointer (some ⟨(a.add (k * 2)).block, (a.add (k * 2)).off + 1, none⟩)) rfl rfl (by kernel_rfl) (by kernel_rfl) (by kernel_rfl) (fun _ _ _ h => h) rfl (fun W _ => by go_simp) hD0 ?_
                  simp only [Act.put, List.setIfInBounds_toArray, List.set_cons_zero, List.set_cons_succ]
                  refine wpHz_take (i := 9) (d := 78) (v := .string p) rfl rfl (by kernel_rfl) (by kernel_rfl) (by kernel_rfl) (fun _ _ _ h => h) rfl (fun W hW => by have e2 := (HLD.out W hW).2; go_simp) hD0 ?_
                  simp only [Act.put, List.setIfInBounds_toArray, List.set_cons_zero, List.set_cons_succ]
                  refine wpHz_one (i := 10) (by kernel_rfl) ?_
                  refine wpOz_run rfl rfl (wpz_enter (d := 79) rfl (by go_simp) ((HAX.out _ hD0).mono ?_))
                  rintro e u2 ⟨rfl, hb2⟩
                  have hB2 : Below wx.heap.size wx u2 := hD0.trans (hb2.mono hD0.size)
                  refine ⟨_, rfl, hB2, ?_⟩
                  simp only [Act.put, List.setIfInBounds_toArray, List.set_cons_zero, List.set_cons_succ]
                  refine wpHz_take (i := 11) (d := 68) (v := .tuple #[.string ⟨#[]⟩, .int .i64 5]) rfl rfl (by kernel_rfl) (by kernel_rfl) (by kernel_rfl) (fun _ _ _ h => h) rfl (fun W _ => by go_simp) hB2 ?_
                  simp only [Act.put, List.setIfInBounds_toArray, List.set_cons_zero, List.set_cons_succ]
                  refine wpHz_take (i := 12) (d := 80) (v := .string ⟨#[]⟩) rfl rfl (by kernel_rfl) (by kernel_rfl) (by kernel_rfl) (fun _ _ _ h => h) rfl (fun W _ => by go_simp) hB2 ?_
                  simp only [Act.put, List.setIfInBounds_toArray, List.set_cons_zero, List.set_cons_succ]
                  refine wpHz_take (i := 13) (d := 81) (v := .int .i64 5) rfl rfl (by kernel_rfl) (by kernel_rfl) (by kernel_rfl) (fun _ _ _ h => h) rfl (fun W _ => by go_simp) hB2 ?_
                  simp only [Act.put, List.setIfInBounds_toArray, List.set_cons_zero, List.set_cons_succ]
                  refine wpHz_take (i := 14) (d := 7) (v := .string ⟨#[]⟩) rfl rfl (by kernel_rfl) (by kernel_rfl) (by kernel_rfl) (fun _ _ _ h => h) rfl (fun W _ => by go_simp) hB2 ?_
                  simp only [Act.put, List.setIfInBounds_toArray, List.set_cons_zero, List.set_cons_succ]
                  refine wpHz_take (i := 15) (d := 8) (v := .int .i64 5) rfl rfl (by kernel_rfl) (by kernel_rfl) (by kernel_rfl) (fun _ _ _ h => h) rfl (fun W _ => by go_simp) hB2 ?_
                  simp only [Act.put, List.setIfInBounds_toArray, List.set_cons_zero, List.set_cons_succ]
                  refine wpAnyH_done (by kernel_rfl) ?_ _
                  have HBF := Lib.hid (HB.out.trans ((HBX.out.trans (hB2.mono HBX.out.size)).mono HB.out.size))
                  clear hb2 hB2 HLD HAX HRX hD0
                  go_wp2_with fail
                  go_ret2
                  exact ⟨fun S h => (by rw [HR0.out] at h; cases h), fun _ => rfl, HBF.out⟩
                · have HNXT := Lib.hid (show runO (colS L) [] (k + 1) = some S' by rw [HSTEP.out, hc])
                  have HCL2 := Lib.hid hcl
                  rw [ho] at HAX
                  replace HAX := Lib.hid (show ∀ W, Below wx.heap.size wx W → Calls Tryz.prog 104 #[.string y2, .string p] W fun e w' => e = .returned (.tuple #[.string (qstr r), .int .i64 0]) ∧ Below W.heap.size W w' from HAX.out)
                  have HST := Lib.hid (cellsZ_set LT j (y1, y2) (qstr r) HY.out)
                  generalize qstr r = sr at *
                  clear HQ3 ho hc HBADK HSTEP hcl
                  refine wp_region_held (S := fun W => Below wx.heap.size wx W) (by kernel_rfl) ?_
                  change wpAnyH _ _ _ _ _ 16 _ _ wx.drew
                  generalize wx.drew = W at *
                  refine wpHz_take (i := 0) (d := 69) (v := .slice (some ⟨g, 0, none⟩) M cp) rfl rfl (by kernel_rfl) (by kernel_rfl) (by kernel_rfl) (fun _ _ _ h => h) rfl (fun W _ => by go_simp) hD0 ?_
                  simp only [Act.put, List.setIfInBounds_toArray, List.set_cons_zero, List.set_cons_succ]
                  refine wpHz_take (i := 1) (d := 70) (v := .int .i64 (j : Int)) rfl rfl (by kernel_rfl) (by kernel_rfl) (by kernel_rfl) (fun _ _ _ h => h) rfl (fun W _ => by go_simp) hD0 ?_
                  simp only [Act.put, List.setIfInBounds_toArray, List.set_cons_zero, List.set_cons_succ]
                  refine wpHz_take (i := 2) (d := 71) (v := .pointer (some ⟨g, j * 2, none⟩)) rfl rfl (by kernel_rfl) (by kernel_rfl) (by kernel_rfl) (fun _ _ _ h => h) rfl (fun W _ => by go_simp) hD0 ?_
                  simp only [Act.put, List.setIfInBounds_toArray, List.set_cons_zero, List.set_cons_succ]
                  refine wpHz_take (i := 3) (d := 72) (v := .pointer (some ⟨g, j * 2 + 1, none⟩)) rfl rfl (by kernel_rfl) (by kernel_rfl) (by kernel_rfl) (fun _ _ _ h => h) rfl (fun W _ => by go_simp) hD0 ?_
                  simp only [Act.put, List.setIfInBounds_toArray, List.set_cons_zero, List.set_cons_succ]
                  refine wpHz_take (i := 4) (d := 73) (v := .string y2) rfl rfl (by kernel_rfl) (by kernel_rfl) (by kernel_rfl) (fun _ _ _ h => h) rfl (fun W hW => by have e1 := (HLD.out W hW).1; go_simp) hD0 ?_
                  simp only [Act.put, List.setIfInBounds_toArray, List.set_cons_zero, List.set_cons_succ]
                  refine wpHz_take (i := 5) (d := 74) (v := .slice (some a) N cap) rfl rfl (by kernel_rfl) (by kernel_rfl) (by kernel_rfl) (fun _ _ _ h => h) rfl (fun W _ => by go_simp) hD0 ?_
                  simp only [Act.put, List.setIfInBounds_toArray, List.set_cons_zero, List.set_cons_succ]
                  refine wpHz_take (i := 6) (d := 75) (v := .int .i64 (k : Int)) rfl rfl (by kernel_rfl) (by kernel_rfl) (by kernel_rfl) (fun _ _ _ h => h) rfl (fun W _ => by go_simp) hD0 ?_
                  simp only [Act.put, List.setIfInBounds_toArray, List.set_cons_zero, List.set_cons_succ]
                  refine wpHz_take (i := 7) (d := 76) (v := .pointer (some (a.add (k * 2)))) rfl rfl (by kernel_rfl) (by kernel_rfl) (by kernel_rfl) (fun _ _ _ h => h) rfl (fun W _ => by go_simp) hD0 ?_
                  simp only [Act.put, List.setIfInBounds_toArray, List.set_cons_zero, List.set_cons_succ]
                  refine wpHz_take (i := 8) (d := 77) (v := .pointer (some ⟨(a.add (k * 2)).block, (a.add (k * 2)).off + 1, none⟩)) rfl rfl (by kernel_rfl) (by kernel_rfl) (by kernel_rfl) (fun _ _ _ h => h) rfl (fun W _ => by go_simp) hD0 ?_
                  simp only [Act.put, List.setIfInBounds_toArray, List.set_cons_zero, List.set_cons_succ]
                  refine wpHz_take (i := 9) (d := 78) (v := .string p) rfl rfl (by kernel_rfl) (by kernel_rfl) (by kernel_rfl) (fun _ _ _ h => h) rfl (fun W hW => by have e2 := (HLD.out W hW).2; go_simp) hD0 ?_
                  simp only [Act.put, List.setIfInBounds_toArray, List.set_cons_zero, List.set_cons_succ]
                  refine wpHz_one (i := 10) (by kernel_rfl) ?_
                  refine wpOz_run rfl rfl (wpz_enter (d := 79) rfl (by go_simp) ((HAX.out _ hD0).mono ?_))
                  rintro e u2 ⟨rfl, hb2⟩
                  have hB2 : Below wx.heap.size wx u2 := hD0.trans (hb2.mono hD0.size)
                  refine ⟨_, rfl, hB2, ?_⟩
                  simp only [Act.put, List.setIfInBounds_toArray, List.set_cons_zero, List.set_cons_succ]
                  refine wpHz_take (i := 11) (d := 68) (v := .tuple #[.string sr, .int .i64 0]) rfl rfl (by kernel_rfl) (by kernel_rfl) (by kernel_rfl) (fun _ _ _ h => h) rfl (fun W _ => by go_simp) hB2 ?_
                  simp only [Act.put, List.setIfInBounds_toArray, List.set_cons_zero, List.set_cons_succ]
                  refine wpHz_take (i := 12) (d := 80) (v := .string sr) rfl rfl (by kernel_rfl) (by kernel_rfl) (by kernel_rfl) (fun _ _ _ h => h) rfl (fun W _ => by go_simp) hB2 ?_
                  simp only [Act.put, List.setIfInBounds_toArray, List.set_cons_zero, List.set_cons_succ]
                  refine wpHz_take (i := 13) (d := 81) (v := .int .i64 0) rfl rfl (by kernel_rfl) (by kernel_rfl) (by kernel_rfl) (fun _ _ _ h => h) rfl (fun W _ => by go_simp) hB2 ?_
                  simp only [Act.put, List.setIfInBounds_toArray, List.set_cons_zero, List.set_cons_succ]
                  refine wpHz_take (i := 14) (d := 7) (v := .string sr) rfl rfl (by kernel_rfl) (by kernel_rfl) (by kernel_rfl) (fun _ _ _ h => h) rfl (fun W _ => by go_simp) hB2 ?_
                  simp only [Act.put, List.setIfInBounds_toArray, List.set_cons_zero, List.set_cons_succ]
                  refine wpHz_take (i := 15) (d := 8) (v := .int .i64 0) rfl rfl (by kernel_rfl) (by kernel_rfl) (by kernel_rfl) (fun _ _ _ h => h) rfl (fun W _ => by go_simp) hB2 ?_
                  simp only [Act.put, List.setIfInBounds_toArray, List.set_cons_zero, List.set_cons_succ]
                  refine wpAnyH_done (by kernel_rfl) ?_ _
                  have HBF := Lib.hid (HB.out.trans ((HBX.out.trans (hB2.mono HBX.out.size)).mono HB.out.size))
                  have hru := rowM_below HRX.out hB2
                  have e1 := (HLD.out u2 hB2).1
                  have f1 := hru.frozenAt (j * 2 + 1)
                  have HRU := Lib.hid (hru.stored (j * 2 + 1) (.string sr))
                  have HLEN := Lib.hid (show S'.length = M by
                    have := congrArg List.length HCL2.out
                    unfold tZ at this
                    rw [List.length_map, List.length_set] at this
                    rw [this]; exact HM.out.2)
                  clear hb2 hB2 HLD HAX HRX hD0 hru
                  go_wp2_with fail
                  go_roundw
                  case rel => exact ⟨k + 1, S', by omega, by go_num, HNXT, Lib.hid (by
                    have h := HRU.out.1
                    rw [← HST.out, ← HCL2.out] at h
                    rw [HLEN.out]; exact h), HBF.out.grown HRU.out.2 HBF.out.size (fun b hb => by cases hb; exact hgb)⟩
                  case measure => simp [intOf]; omega
              · have hl2 : (y1.toList == key.toList) = false := (eq_b y1 key).trans (decide_eq_false hq)
                obtain ⟨S', hS1, hS2⟩ := HNEW.out (fun x hx e => hq (by rw [HY.out] at hx; cases hx; exact e))
                have HNXT := Lib.hid (show runO (colS L) [] (k + 1) = some S' by rw [HSTEP.out, hS1])
                have HLEN := Lib.hid (show S'.length = M + 1 by
                  have := congrArg List.length hS2
                  unfold tZ at this
                  rw [List.length_map] at this
                  have h2 := HM.out.2
                  rw [this, List.length_append, List.length_append, List.length_take, List.length_drop, h2]
                  show min _ _ + 1 + _ = _
                  omega)
                have HFIN := Lib.hid (show cellsZ (tZ S') = cellsZ (LT.take j) ++ [.string key, .string p] ++ cellsZ (LT.drop j) by rw [hS2, cellsZ_app, cellsZ_app]; rfl)
                have HNL := Lib.hid (show (cellsZ (LT.take j)).length = j * 2 ∧ (∀ u ∈ cellsZ (LT.take j), u.oneCell' = true) ∧ (cellsZ (LT.drop j)).length = (M - j) * 2 ∧ (∀ u ∈ cellsZ (LT.drop j), u.oneCell' = true) from
                  ⟨by rw [cellsZ_len, List.length_take, HM.out.2]; omega, cellsZ_one _, by rw [cellsZ_len, List.length_drop, HM.out.2], cellsZ_one _⟩)
                clear hS1 hS2 HNEW HOLD HSTEP
                have hk0 : (0 : Int) ≤ (j : Int) := by omega
                have hk1 : (j : Int) ≤ (M : Int) := by omega
                have hk2 : (j : Int) ≤ (cp : Int) := by omega
                have hk3 : (M : Int) ≤ (cp : Int) := by omega
                have HNB := Lib.hid (show ∀ W, Below wo.heap.size wo W → ∀ ad : Addr, some (⟨g, 0, none⟩ : Addr) = some ad → ∀ i u, (cellsZ (LT.take j))[i]? = some u → W.cell? (ad.add i) = some u from fun W hW ad had i u hu => by
                  cases had
                  have hu2 : (cellsZ LT)[i]? = some u := by
                    have hsplit : cellsZ LT = cellsZ (LT.take j) ++ cellsZ (LT.drop j) := by rw [← cellsZ_app, List.take_append_drop]
                    rw [hsplit, List.getElem?_append_left (List.getElem?_eq_some_iff.1 hu).1]; exact hu
                  rw [Addr.add_lit, Nat.zero_add]
                  exact HNBT.out W hW i u hu2)
                have HNF := Lib.hid (show ∀ W, Below wo.heap.size wo W → ∀ ad : Addr, (if cp = j then some (⟨g, 0, none⟩ : Addr) else some ⟨g, j * 2, none⟩) = some ad → ∀ i u, (cellsZ (LT.drop j))[i]? = some u → W.cell? (ad.add i) = some u from fun W hW ad had i u hu => by
                  split at had
                  · have h1 := (List.getElem?_eq_some_iff.1 hu).1
                    rw [HNL.out.2.2.1] at h1
                    have h2 : M - j = 0 := by omega
                    rw [h2] at h1; omega
                  · cases had
                    have hu2 : (cellsZ LT)[j * 2 + i]? = some u := by
                      have hsplit : cellsZ LT = cellsZ (LT.take j) ++ cellsZ (LT.drop j) := by rw [← cellsZ_app, List.take_append_drop]
                      rw [hsplit, List.getElem?_append_right (by rw [HNL.out.1]; omega), HNL.out.1, Nat.add_sub_cancel_left]; exact hu
                    rw [Addr.add_lit]
                    exact HNBT.out W hW _ u hu2)
                clear hy hq HPL HPA HBADK HQOK HQK HQP HNBT HCG HCY
                go_wp2_with fail
                go_quiet (fail)
                go_wp2_with fail
                go_quiet (fail)
                go_wp2_with fail
                refine wp_world (below_drewZ (below_drewZ HBQ0.out _) _) (fun wx hbx => ?_)
                refine wp_region_held (S := fun W => Below wo.heap.size wo W) (by kernel_rfl) ?_
                have HD : Below wo.heap.size wo wx.drew := hbx.drew
                change wpAnyH _ _ _ _ _ 16 _ _ wx.drew
                clear hbx
                generalize wx.drew = W at *
                refine wpHz_take (i := 1) (d := 54) (v := .slice (some ⟨g, 0, none⟩) M cp) rfl rfl (by kernel_rfl) (by kernel_rfl) (by kernel_rfl) (fun _ _ _ h => h) rfl (fun W _ => by go_simp) HD ?_
                simp only [Act.put, List.setIfInBounds_toArray, List.set_cons_zero, List.set_cons_succ]
                refine wpHz_take (i := 2) (d := 55) (v := .int .i64 (j : Int)) rfl rfl (by kernel_rfl) (by kernel_rfl) (by kernel_rfl) (fun _ _ _ h => h) rfl (fun W _ => by go_simp) HD ?_
                simp only [Act.put, List.setIfInBounds_toArray, List.set_cons_zero, List.set_cons_succ]
                refine wpHz_take (i := 3) (d := 56) (v := .slice (some ⟨g, 0, none⟩) j cp) rfl rfl (by kernel_rfl) (by kernel_rfl) (by kernel_rfl) (fun _ _ _ h => h) rfl (fun W _ => by go_simp) HD ?_
                simp only [Act.put, List.setIfInBounds_toArray, List.set_cons_zero, List.set_cons_succ]
                refine wpHz_take (i := 5) (d := 58) (v := .slice (some a) N cap) rfl rfl (by kernel_rfl) (by kernel_rfl) (by kernel_rfl) (fun _ _ _ h => h) rfl (fun W _ => by go_simp) HD ?_
                simp only [Act.put, List.setIfInBounds_toArray, List.set_cons_zero, List.set_cons_succ]
                refine wpHz_take (i := 6) (d := 59) (v := .int .i64 (k : Int)) rfl rfl (by kernel_rfl) (by kernel_rfl) (by kernel_rfl) (fun _ _ _ h => h) rfl (fun W _ => by go_simp) HD ?_
                simp only [Act.put, List.setIfInBounds_toArray, List.set_cons_zero, List.set_cons_succ]
                refine wpHz_take (i := 7) (d := 60) (v := .pointer (some (a.add (k * 2)))) rfl rfl (by kernel_rfl) (by kernel_rfl) (by kernel_rfl) (fun _ _ _ h => h) rfl (fun W _ => by go_simp) HD ?_
                simp only [Act.put, List.setIfInBounds_toArray, List.set_cons_zero, List.set_cons_succ]
                refine wpHz_take (i := 8) (d := 61) (v := .agg #[.string key, .string p]) rfl rfl (by kernel_rfl) (by kernel_rfl) (by kernel_rfl) (fun _ _ _ h => h) rfl (fun W hW => by have e0 := (HCL.out W hW).1; have e1 := (HCL.out W hW).2; go_simp) HD ?_
                simp only [Act.put, List.setIfInBounds_toArray, List.set_cons_zero, List.set_cons_succ]
                refine wpHz_take (i := 11) (d := 64) (v := .slice (some ⟨g, 0, none⟩) M cp) rfl rfl (by kernel_rfl) (by kernel_rfl) (by kernel_rfl) (fun _ _ _ h => h) rfl (fun W _ => by go_simp) HD ?_
                simp only [Act.put, List.setIfInBounds_toArray, List.set_cons_zero, List.set_cons_succ]
                refine wpHz_take (i := 12) (d := 65) (v := .int .i64 (j : Int)) rfl rfl (by kernel_rfl) (by kernel_rfl) (by kernel_rfl) (fun _ _ _ h => h) rfl (fun W _ => by go_simp) HD ?_
                simp only [Act.put, List.setIfInBounds_toArray, List.set_cons_zero, List.set_cons_succ]
                refine wpHz_take (i := 13) (d := 66) (v := .slice (if cp = j then some ⟨g, 0, none⟩ else some ⟨g, j * 2, none⟩) (M - j) (cp - j)) rfl rfl (by kernel_rfl) (by kernel_rfl) (by kernel_rfl) (fun _ _ _ h => h) rfl (fun W _ => by go_simp) HD ?_
                simp only [Act.put, List.setIfInBounds_toArray, List.set_cons_zero, List.set_cons_succ]
                refine wpHz_two (i := 0) (j := 9) (by kernel_rfl) ?_ ?_
                · refine wpOz_run rfl rfl (wpz_value (d := 53) (v := .slice (some ⟨W.heap.size, 0, none⟩) 0 0) (w' := W.alloc (.cells #[] 29)) rfl (by go_simp) ?_)
                  simp only [Act.put, List.setIfInBounds_toArray, List.set_cons_zero, List.set_cons_succ]
                  have HA := InsR.lit HD
                  refine ⟨HA.below, ?_⟩
                  refine wpHz_two (i := 4) (j := 9) (by kernel_rfl) ?_ ?_
                  · refine wpOz_run rfl rfl (wpz_append_rowX (.tmp 53) (.tmp 56) 23 (d := 57) rfl rfl wo.heap.size 29 i0 (.agg #[.string ⟨#[]⟩, .string ⟨#[]⟩]) 2 32 Tryz.underlying23 hi hz0 hz1 hz2 rfl (by decide) _ 0 [] rfl HA.row (some ⟨g, 0, none⟩) j cp (cellsZ (LT.take j)) rfl HNL.out.1 (HNB.out _ HA.below) (fun h => by cases h) HNL.out.2.1 (by unfold maxLen; omega) (by omega) HA.below.size ?_)
                    intro v1 W1 hown1 hgr1 ho1
                    simp only [Act.put, List.setIfInBounds_toArray, List.set_cons_zero, List.set_cons_succ]
                    rw [Nat.zero_add, List.nil_append] at hown1
                    have HC := HA.grown hown1 hgr1
                    clear hown1 hgr1 ho1
                    refine ⟨HC.below, ?_⟩
                    refine wpHz_one (i := 9) (by kernel_rfl) ?_
                    refine wpOz_run rfl rfl (wpz_value (d := 62) (v := .slice (some ⟨W1.heap.size, 0, none⟩) 1 1) (w' := W1.alloc (.cells #[.string key, .string p] 29)) rfl (by go_simp) ?_)
                    simp only [Act.put, List.setIfInBounds_toArray, List.set_cons_zero, List.set_cons_succ]
                    have HS := HC.new key p
                    refine ⟨HS.below, ?_⟩
                    generalize W1.heap.size = B at *
                    generalize World.alloc W1 _ = W9 at *
                    clear HC
                    refine wpHz_one (i := 10) (by kernel_rfl) ?_
                    refine wpOz_run rfl rfl (wpz_append_rowX (.tmp 57) (.tmp 62) 23 (d := 63) rfl rfl wo.heap.size 29 i0 (.agg #[.string ⟨#[]⟩, .string ⟨#[]⟩]) 2 32 Tryz.underlying23 hi hz0 hz1 hz2 rfl (by decide) _ j (cellsZ (LT.take j)) rfl HS.row (some ⟨B, 0, none⟩) 1 1 [Value.string key, Value.string p] rfl rfl (fun ad had => by cases had; exact World.news_of_block HS.blk) (fun h => by cases h) (by intro u hu; simp at hu; rcases hu with rfl | rfl <;> rfl) (by unfold maxLen; omega) (by omega) HS.below.size ?_)
                    intro v2 W2 hown2 hgr2 _
                    simp only [Act.put, List.setIfInBounds_toArray, List.set_cons_zero, List.set_cons_succ]
                    have HR2 := HS.row1.grown hown2 hgr2
                    clear hown2 hgr2 HS
                    refine ⟨HR2.below, ?_⟩
                    refine wpHz_one (i := 14) (by kernel_rfl) ?_
                    refine wpOz_run rfl rfl (wpz_append_rowX (.tmp 63) (.tmp 66) 23 (d := 67) rfl rfl wo.heap.size 29 i0 (.agg #[.string ⟨#[]⟩, .string ⟨#[]⟩]) 2 32 Tryz.underlying23 hi hz0 hz1 hz2 rfl (by decide) _ (j + 1) (cellsZ (LT.take j) ++ [Value.string key, Value.string p]) rfl HR2.row (if cp = j then some ⟨g, 0, none⟩ else some ⟨g, j * 2, none⟩) (M - j) (cp - j) (cellsZ (LT.drop j)) rfl HNL.out.2.2.1 (HNF.out _ HR2.below) (fun h => by split at h <;> cases h) HNL.out.2.2.2 (by unfold maxLen; omega) (by omega) HR2.below.size ?_)
                    intro v3 W3 hown3 hgr3 _
                    simp only [Act.put, List.setIfInBounds_toArray, List.set_cons_zero, List.set_cons_succ]
                    have HR3 := HR2.grown hown3 hgr3
                    clear hown3 hgr3 HR2
                    refine ⟨HR3.below, ?_⟩
                    refine wpHz_take (i := 15) (d := 4) (v := v3) rfl rfl (by kernel_rfl) (by kernel_rfl) (by kernel_rfl) (fun _ _ _ h => h) rfl (fun W _ => by go_simp) HR3.below ?_
                    simp only [Act.put, List.setIfInBounds_toArray, List.set_cons_zero, List.set_cons_succ]
                    refine wpAnyH_done (by kernel_rfl) ?_ _
                    have HF := Lib.hid (And.intro HR3.row HR3.below)
                    clear HR3
                    go_wp2_with fail
                    go_roundw
                    case rel => exact ⟨k + 1, S', by omega, by go_num, HNXT, Lib.hid (by
                      have h := HF.out.1
                      rw [← HFIN.out] at h
                      rw [HLEN.out]
                      rw [show j + 1 + (M - j) = M + 1 by omega] at h; exact rowM_base h HB.out.size), HB.out.trans (HF.out.2.mono HB.out.size)⟩
                    case measure => simp [intOf]; omega
                  · refine wpOz_run rfl rfl (wpz_value (d := 62) (v := .slice (some ⟨(W.alloc (.cells #[] 29)).heap.size, 0, none⟩) 1 1) (w' := (W.alloc (.cells #[] 29)).alloc (.cells #[.string key, .string p] 29)) rfl (by go_simp) ?_)
                    simp only [Act.put, List.setIfInBounds_toArray, List.set_cons_zero, List.set_cons_succ]
                    have HS0 := HA.new key p
                    refine ⟨HS0.below, ?_⟩
                    clear HA
                    generalize (W.alloc (.cells #[] 29)).heap.size = B at *
                    refine wpHz_one (i := 4) (by kernel_rfl) ?_
                    refine wpOz_run rfl rfl (wpz_append_rowX (.tmp 53) (.tmp 56) 23 (d := 57) rfl rfl wo.heap.size 29 i0 (.agg #[.string ⟨#[]⟩, .string ⟨#[]⟩]) 2 32 Tryz.underlying23 hi hz0 hz1 hz2 rfl (by decide) _ 0 [] rfl HS0.row (some ⟨g, 0, none⟩) j cp (cellsZ (LT.take j)) rfl HNL.out.1 (HNB.out _ HS0.below) (fun h => by cases h) HNL.out.2.1 (by unfold maxLen; omega) (by omega) HS0.below.size ?_)
                    intro v1 W1 hown1 hgr1 ho1
                    simp only [Act.put, List.setIfInBounds_toArray, List.set_cons_zero, List.set_cons_succ]
                    rw [Nat.zero_add, List.nil_append] at hown1
                    have HS := HS0.grown hown1 hgr1 ho1
                    clear hown1 hgr1 ho1
                    refine ⟨HS.below, ?_⟩
                    clear HS0
                    refine wpHz_one (i := 10) (by kernel_rfl) ?_
                    refine wpOz_run rfl rfl (wpz_append_rowX (.tmp 57) (.tmp 62) 23 (d := 63) rfl rfl wo.heap.size 29 i0 (.agg #[.string ⟨#[]⟩, .string ⟨#[]⟩]) 2 32 Tryz.underlying23 hi hz0 hz1 hz2 rfl (by decide) _ j (cellsZ (LT.take j)) rfl HS.row (some ⟨B, 0, none⟩) 1 1 [Value.string key, Value.string p] rfl rfl (fun ad had => by cases had; exact World.news_of_block HS.blk) (fun h => by cases h) (by intro u hu; simp at hu; rcases hu with rfl | rfl <;> rfl) (by unfold maxLen; omega) (by omega) HS.below.size ?_)
                    intro v2 W2 hown2 hgr2 _
                    simp only [Act.put, List.setIfInBounds_toArray, List.set_cons_zero, List.set_cons_succ]
                    have HR2 := HS.row1.grown hown2 hgr2
                    clear hown2 hgr2 HS
                    refine ⟨HR2.below, ?_⟩
                    refine wpHz_one (i := 14) (by kernel_rfl) ?_
                    refine wpOz_run rfl rfl (wpz_append_rowX (.tmp 63) (.tmp 66) 23 (d := 67) rfl rfl wo.heap.size 29 i0 (.agg #[.string ⟨#[]⟩, .string ⟨#[]⟩]) 2 32 Tryz.underlying23 hi hz0 hz1 hz2 rfl (by decide) _ (j + 1) (cellsZ (LT.take j) ++ [Value.string key, Value.string p]) rfl HR2.row (if cp = j then some ⟨g, 0, none⟩ else some ⟨g, j * 2, none⟩) (M - j) (cp - j) (cellsZ (LT.drop j)) rfl HNL.out.2.2.1 (HNF.out _ HR2.below) (fun h => by split at h <;> cases h) HNL.out.2.2.2 (by unfold maxLen; omega) (by omega) HR2.below.size ?_)
                    intro v3 W3 hown3 hgr3 _
                    simp only [Act.put, List.setIfInBounds_toArray, List.set_cons_zero, List.set_cons_succ]
                    have HR3 := HR2.grown hown3 hgr3
                    clear hown3 hgr3 HR2
                    refine ⟨HR3.below, ?_⟩
                    refine wpHz_take (i := 15) (d := 4) (v := v3) rfl rfl (by kernel_rfl) (by kernel_rfl) (by kernel_rfl) (fun _ _ _ h => h) rfl (fun W _ => by go_simp) HR3.below ?_
                    simp only [Act.put, List.setIfInBounds_toArray, List.set_cons_zero, List.set_cons_succ]
                    refine wpAnyH_done (by kernel_rfl) ?_ _
                    have HF := Lib.hid (And.intro HR3.row HR3.below)
                    clear HR3
                    go_wp2_with fail
                    go_roundw
                    case rel => exact ⟨k + 1, S', by omega, by go_num, HNXT, Lib.hid (by
                      have h := HF.out.1
                      rw [← HFIN.out] at h
                      rw [HLEN.out]
                      rw [show j + 1 + (M - j) = M + 1 by omega] at h; exact rowM_base h HB.out.size), HB.out.trans (HF.out.2.mono HB.out.size)⟩
                    case measure => simp [intOf]; omega
                · refine wpOz_run rfl rfl (wpz_value (d := 62) (v := .slice (some ⟨W.heap.size, 0, none⟩) 1 1) (w' := W.alloc (.cells #[.string key, .string p] 29)) rfl (by go_simp) ?_)
                  simp only [Act.put, List.setIfInBounds_toArray, List.set_cons_zero, List.set_cons_succ]
                  have HB := InsB.new key p HD
                  refine ⟨HB.below, ?_⟩
                  refine wpHz_one (i := 0) (by kernel_rfl) ?_
                  refine wpOz_run rfl rfl (wpz_value (d := 53) (v := .slice (some ⟨(W.alloc (.cells #[.string key, .string p] 29)).heap.size, 0, none⟩) 0 0) (w' := (W.alloc (.cells #[.string key, .string p] 29)).alloc (.cells #[] 29)) rfl (by go_simp) ?_)
                  simp only [Act.put, List.setIfInBounds_toArray, List.set_cons_zero, List.set_cons_succ]
                  have HS0 := HB.lit
                  refine ⟨HS0.below, ?_⟩
                  clear HB
                  refine wpHz_one (i := 4) (by kernel_rfl) ?_
                  refine wpOz_run rfl rfl (wpz_append_rowX (.tmp 53) (.tmp 56) 23 (d := 57) rfl rfl wo.heap.size 29 i0 (.agg #[.string ⟨#[]⟩, .string ⟨#[]⟩]) 2 32 Tryz.underlying23 hi hz0 hz1 hz2 rfl (by decide) _ 0 [] rfl HS0.row (some ⟨g, 0, none⟩) j cp (cellsZ (LT.take j)) rfl HNL.out.1 (HNB.out _ HS0.below) (fun h => by cases h) HNL.out.2.1 (by unfold maxLen; omega) (by omega) HS0.below.size ?_)
                  intro v1 W1 hown1 hgr1 ho1
                  simp only [Act.put, List.setIfInBounds_toArray, List.set_cons_zero, List.set_cons_succ]
                  rw [Nat.zero_add, List.nil_append] at hown1
                  have HS := HS0.grown hown1 hgr1 ho1
                  clear hown1 hgr1 ho1
                  refine ⟨HS.below, ?_⟩
                  clear HS0
                  generalize W.heap.size = B at *
                  refine wpHz_one (i := 10) (by kernel_rfl) ?_
                  refine wpOz_run rfl rfl (wpz_append_rowX (.tmp 57) (.tmp 62) 23 (d := 63) rfl rfl wo.heap.size 29 i0 (.agg #[.string ⟨#[]⟩, .string ⟨#[]⟩]) 2 32 Tryz.underlying23 hi hz0 hz1 hz2 rfl (by decide) _ j (cellsZ (LT.take j)) rfl HS.row (some ⟨B, 0, none⟩) 1 1 [Value.string key, Value.string p] rfl rfl (fun ad had => by cases had; exact World.news_of_block HS.blk) (fun h => by cases h) (by intro u hu; simp at hu; rcases hu with rfl | rfl <;> rfl) (by unfold maxLen; omega) (by omega) HS.below.size ?_)
                  intro v2 W2 hown2 hgr2 _
                  simp only [Act.put, List.setIfInBounds_toArray, List.set_cons_zero, List.set_cons_succ]
                  have HR2 := HS.row1.grown hown2 hgr2
                  clear hown2 hgr2 HS
                  refine ⟨HR2.below, ?_⟩
                  refine wpHz_one (i := 14) (by kernel_rfl) ?_
                  refine wpOz_run rfl rfl (wpz_append_rowX (.tmp 63) (.tmp 66) 23 (d := 67) rfl rfl wo.heap.size 29 i0 (.agg #[.string ⟨#[]⟩, .string ⟨#[]⟩]) 2 32 Tryz.underlying23 hi hz0 hz1 hz2 rfl (by decide) _ (j + 1) (cellsZ (LT.take j) ++ [Value.string key, Value.string p]) rfl HR2.row (if cp = j then some ⟨g, 0, none⟩ else some ⟨g, j * 2, none⟩) (M - j) (cp - j) (cellsZ (LT.drop j)) rfl HNL.out.2.2.1 (HNF.out _ HR2.below) (fun h => by split at h <;> cases h) HNL.out.2.2.2 (by unfold maxLen; omega) (by omega) HR2.below.size ?_)
                  intro v3 W3 hown3 hgr3 _
                  simp only [Act.put, List.setIfInBounds_toArray, List.set_cons_zero, List.set_cons_succ]
                  have HR3 := HR2.grown hown3 hgr3
                  clear hown3 hgr3 HR2
                  refine ⟨HR3.below, ?_⟩
                  refine wpHz_take (i := 15) (d := 4) (v := v3) rfl rfl (by kernel_rfl) (by kernel_rfl) (by kernel_rfl) (fun _ _ _ h => h) rfl (fun W _ => by go_simp) HR3.below ?_
                  simp only [Act.put, List.setIfInBounds_toArray, List.set_cons_zero, List.set_cons_succ]
                  refine wpAnyH_done (by kernel_rfl) ?_ _
                  have HF := Lib.hid (And.intro HR3.row HR3.below)
                  clear HR3
                  go_wp2_with fail
                  go_roundw
                  case rel => exact ⟨k + 1, S', by omega, by go_num, HNXT, Lib.hid (by
                    have h := HF.out.1
                    rw [← HFIN.out] at h
                    rw [HLEN.out]
                    rw [show j + 1 + (M - j) = M + 1 by omega] at h; exact rowM_base h HB.out.size), HB.out.trans (HF.out.2.mono HB.out.size)⟩
                  case measure => simp [intOf]; omega
            · have hjM : decide ((j : Int) < (M : Int)) = false := decide_eq_false (by omega)
              have hjMn : decide (j < M) = false := decide_eq_false (by omega)
              have hjE : ((j : Int) == (M : Int)) = true := by rw [beq_iff_eq]; omega
              have hjE2 : (j == M) = true := by rw [beq_iff_eq]; omega
              obtain ⟨S', hS1, hS2⟩ := HNEW.out (fun x hx => by have := (List.getElem?_eq_some_iff.1 hx).1; rw [HM.out.2] at this; omega)
              have HNXT := Lib.hid (show runO (colS L) [] (k + 1) = some S' by rw [HSTEP.out, hS1])
              have HLEN := Lib.hid (show S'.length = M + 1 by
                have := congrArg List.length hS2
                unfold tZ at this
                rw [List.length_map] at this
                have h2 := HM.out.2
                rw [this, List.length_append, List.length_append, List.length_take, List.length_drop, h2]
                show min _ _ + 1 + _ = _
                omega)
              have HFIN := Lib.hid (show cellsZ (tZ S') = cellsZ (LT.take j) ++ [.string key, .string p] ++ cellsZ (LT.drop j) by rw [hS2, cellsZ_app, cellsZ_app]; rfl)
              have HNL := Lib.hid (show (cellsZ (LT.take j)).length = j * 2 ∧ (∀ u ∈ cellsZ (LT.take j), u.oneCell' = true) ∧ (cellsZ (LT.drop j)).length = (M - j) * 2 ∧ (∀ u ∈ cellsZ (LT.drop j), u.oneCell' = true) from
                ⟨by rw [cellsZ_len, List.length_take, HM.out.2]; omega, cellsZ_one _, by rw [cellsZ_len, List.length_drop, HM.out.2], cellsZ_one _⟩)
              clear hS1 hS2 HNEW HOLD HSTEP
              have hk0 : (0 : Int) ≤ (j : Int) := by omega
              have hk1 : (j : Int) ≤ (M : Int) := by omega
              have hk2 : (j : Int) ≤ (cp : Int) := by omega
              have hk3 : (M : Int) ≤ (cp : Int) := by omega
              have HNB := Lib.hid (show ∀ W, Below wo.heap.size wo W → ∀ ad : Addr, some (⟨g, 0, none⟩ : Addr) = some ad → ∀ i u, (cellsZ (LT.take j))[i]? = some u → W.cell? (ad.add i) = some u from fun W hW ad had i u hu => by
                cases had
                have hu2 : (cellsZ LT)[i]? = some u := by
                  have hsplit : cellsZ LT = cellsZ (LT.take j) ++ cellsZ (LT.drop j) := by rw [← cellsZ_app, List.take_append_drop]
                  rw [hsplit, List.getElem?_append_left (List.getElem?_eq_some_iff.1 hu).1]; exact hu
                rw [Addr.add_lit, Nat.zero_add]
                exact HNBT.out W hW i u hu2)
              have HNF := Lib.hid (show ∀ W, Below wo.heap.size wo W → ∀ ad : Addr, (if cp = j then some (⟨g, 0, none⟩ : Addr) else some ⟨g, j * 2, none⟩) = some ad → ∀ i u, (cellsZ (LT.drop j))[i]? = some u → W.cell? (ad.add i) = some u from fun W hW ad had i u hu => by
                split at had
                · have h1 := (List.getElem?_eq_some_iff.1 hu).1
                  rw [HNL.out.2.2.1] at h1
                  have h2 : M - j = 0 := by omega
                  rw [h2] at h1; omega
                · cases had
                  have hu2 : (cellsZ LT)[j * 2 + i]? = some u := by
                    have hsplit : cellsZ LT = cellsZ (LT.take j) ++ cellsZ (LT.drop j) := by rw [← cellsZ_app, List.take_append_drop]
                    rw [hsplit, List.getElem?_append_right (by rw [HNL.out.1]; omega), HNL.out.1, Nat.add_sub_cancel_left]; exact hu
                  rw [Addr.add_lit]
                  exact HNBT.out W hW _ u hu2)
              clear HPL HPA HBADK HQOK HQK HQP HNBT HCG
              go_wp2_with fail
              go_quiet (fail)
              go_wp2_with fail
              go_quiet (fail)
              go_wp2_with fail
              refine wp_world (below_drewZ (below_drewZ HBQ0.out _) _) (fun wx hbx => ?_)
              refine wp_region_held (S := fun W => Below wo.heap.size wo W) (by kernel_rfl) ?_
              have HD : Below wo.heap.size wo wx.drew := hbx.drew
              change wpAnyH _ _ _ _ _ 16 _ _ wx.drew
              clear hbx
              generalize wx.drew = W at *
              refine wpHz_take (i := 1) (d := 54) (v := .slice (some ⟨g, 0, none⟩) M cp) rfl rfl (by kernel_rfl) (by kernel_rfl) (by kernel_rfl) (fun _ _ _ h => h) rfl (fun W _ => by go_simp) HD ?_
              simp only [Act.put, List.setIfInBounds_toArray, List.set_cons_zero, List.set_cons_succ]
              refine wpHz_take (i := 2) (d := 55) (v := .int .i64 (j : Int)) rfl rfl (by kernel_rfl) (by kernel_rfl) (by kernel_rfl) (fun _ _ _ h => h) rfl (fun W _ => by go_simp) HD ?_
              simp only [Act.put, List.setIfInBounds_toArray, List.set_cons_zero, List.set_cons_succ]
              refine wpHz_take (i := 3) (d := 56) (v := .slice (some ⟨g, 0, none⟩) j cp) rfl rfl (by kernel_rfl) (by kernel_rfl) (by kernel_rfl) (fun _ _ _ h => h) rfl (fun W _ => by go_simp) HD ?_
              simp only [Act.put, List.setIfInBounds_toArray, List.set_cons_zero, List.set_cons_succ]
              refine wpHz_take (i := 5) (d := 58) (v := .slice (some a) N cap) rfl rfl (by kernel_rfl) (by kernel_rfl) (by kernel_rfl) (fun _ _ _ h => h) rfl (fun W _ => by go_simp) HD ?_
              simp only [Act.put, List.setIfInBounds_toArray, List.set_cons_zero, List.set_cons_succ]
              refine wpHz_take (i := 6) (d := 59) (v := .int .i64 (k : Int)) rfl rfl (by kernel_rfl) (by kernel_rfl) (by kernel_rfl) (fun _ _ _ h => h) rfl (fun W _ => by go_simp) HD ?_
              simp only [Act.put, List.setIfInBounds_toArray, List.set_cons_zero, List.set_cons_succ]
              refine wpHz_take (i := 7) (d := 60) (v := .pointer (some (a.add (k * 2)))) rfl rfl (by kernel_rfl) (by kernel_rfl) (by kernel_rfl) (fun _ _ _ h => h) rfl (fun W _ => by go_simp) HD ?_
              simp only [Act.put, List.setIfInBounds_toArray, List.set_cons_zero, List.set_cons_succ]
              refine wpHz_take (i := 8) (d := 61) (v := .agg #[.string key, .string p]) rfl rfl (by kernel_rfl) (by kernel_rfl) (by kernel_rfl) (fun _ _ _ h => h) rfl (fun W hW => by have e0 := (HCL.out W hW).1; have e1 := (HCL.out W hW).2; go_simp) HD ?_
              simp only [Act.put, List.setIfInBounds_toArray, List.set_cons_zero, List.set_cons_succ]
              refine wpHz_take (i := 11) (d := 64) (v := .slice (some ⟨g, 0, none⟩) M cp) rfl rfl (by kernel_rfl) (by kernel_rfl) (by kernel_rfl) (fun _ _ _ h => h) rfl (fun W _ => by go_simp) HD ?_
              simp only [Act.put, List.setIfInBounds_toArray, List.set_cons_zero, List.set_cons_succ]
              refine wpHz_take (i := 12) (d := 65) (v := .int .i64 (j : Int)) rfl rfl (by kernel_rfl) (by kernel_rfl) (by kernel_rfl) (fun _ _ _ h => h) rfl (fun W _ => by go_simp) HD ?_
              simp only [Act.put, List.setIfInBounds_toArray, List.set_cons_zero, List.set_cons_succ]
              refine wpHz_take (i := 13) (d := 66) (v := .slice (if cp = j then some ⟨g, 0, none⟩ else some ⟨g, j * 2, none⟩) (M - j) (cp - j)) rfl rfl (by kernel_rfl) (by kernel_rfl) (by kernel_rfl) (fun _ _ _ h => h) rfl (fun W _ => by go_simp) HD ?_
              simp only [Act.put, List.setIfInBounds_toArray, List.set_cons_zero, List.set_cons_succ]
              refine wpHz_two (i := 0) (j := 9) (by kernel_rfl) ?_ ?_
              · refine wpOz_run rfl rfl (wpz_value (d := 53) (v := .slice (some ⟨W.heap.size, 0, none⟩) 0 0) (w' := W.alloc (.cells #[] 29)) rfl (by go_simp) ?_)
                simp only [Act.put, List.setIfInBounds_toArray, List.set_cons_zero, List.set_cons_succ]
                have HA := InsR.lit HD
                refine ⟨HA.below, ?_⟩
                refine wpHz_two (i := 4) (j := 9) (by kernel_rfl) ?_ ?_
                · refine wpOz_run rfl rfl (wpz_append_rowX (.tmp 53) (.tmp 56) 23 (d := 57) rfl rfl wo.heap.size 29 i0 (.agg #[.string ⟨#[]⟩, .string ⟨#[]⟩]) 2 32 Tryz.underlying23 hi hz0 hz1 hz2 rfl (by decide) _ 0 [] rfl HA.row (some ⟨g, 0, none⟩) j cp (cellsZ (LT.take j)) rfl HNL.out.1 (HNB.out _ HA.below) (fun h => by cases h) HNL.out.2.1 (by unfold maxLen; omega) (by omega) HA.below.size ?_)
                  intro v1 W1 hown1 hgr1 ho1
                  simp only [Act.put, List.setIfInBounds_toArray, List.set_cons_zero, List.set_cons_succ]
                  rw [Nat.zero_add, List.nil_append] at hown1
                  have HC := HA.grown hown1 hgr1
                  clear hown1 hgr1 ho1
                  refine ⟨HC.below, ?_⟩
                  refine wpHz_one (i := 9) (by kernel_rfl) ?_
                  refine wpOz_run rfl rfl (wpz_value (d := 62) (v := .slice (some ⟨W1.heap.size, 0, none⟩) 1 1) (w' := W1.alloc (.cells #[.string key, .string p] 29)) rfl (by go_simp) ?_)
                  simp only [Act.put, List.setIfInBounds_toArray, List.set_cons_zero, List.set_cons_succ]
                  have HS := HC.new key p
                  refine ⟨HS.below, ?_⟩
                  generalize W1.heap.size = B at *
                  generalize World.alloc W1 _ = W9 at *
                  clear HC
                  refine wpHz_one (i := 10) (by kernel_rfl) ?_
                  refine wpOz_run rfl rfl (wpz_append_rowX (.tmp 57) (.tmp 62) 23 (d := 63) rfl rfl wo.heap.size 29 i0 (.agg #[.string ⟨#[]⟩, .string ⟨#[]⟩]) 2 32 Tryz.underlying23 hi hz0 hz1 hz2 rfl (by decide) _ j (cellsZ (LT.take j)) rfl HS.row (some ⟨B, 0, none⟩) 1 1 [Value.string key, Value.string p] rfl rfl (fun ad had => by cases had; exact World.news_of_block HS.blk) (fun h => by cases h) (by intro u hu; simp at hu; rcases hu with rfl | rfl <;> rfl) (by unfold maxLen; omega) (by omega) HS.below.size ?_)
                  intro v2 W2 hown2 hgr2 _
                  simp only [Act.put, List.setIfInBounds_toArray, List.set_cons_zero, List.set_cons_succ]
                  have HR2 := HS.row1.grown hown2 hgr2
                  clear hown2 hgr2 HS
                  refine ⟨HR2.below, ?_⟩
                  refine wpHz_one (i := 14) (by kernel_rfl) ?_
                  refine wpOz_run rfl rfl (wpz_append_rowX (.tmp 63) (.tmp 66) 23 (d := 67) rfl rfl wo.heap.size 29 i0 (.agg #[.string ⟨#[]⟩, .string ⟨#[]⟩]) 2 32 Tryz.underlying23 hi hz0 hz1 hz2 rfl (by decide) _ (j + 1) (cellsZ (LT.take j) ++ [Value.string key, Value.string p]) rfl HR2.row (if cp = j then some ⟨g, 0, none⟩ else some ⟨g, j * 2, none⟩) (M - j) (cp - j) (cellsZ (LT.drop j)) rfl HNL.out.2.2.1 (HNF.out _ HR2.below) (fun h => by split at h <;> cases h) HNL.out.2.2.2 (by unfold maxLen; omega) (by omega) HR2.below.size ?_)
                  intro v3 W3 hown3 hgr3 _
                  simp only [Act.put, List.setIfInBounds_toArray, List.set_cons_zero, List.set_cons_succ]
                  have HR3 := HR2.grown hown3 hgr3
                  clear hown3 hgr3 HR2
                  refine ⟨HR3.below, ?_⟩
                  refine wpHz_take (i := 15) (d := 4) (v := v3) rfl rfl (by kernel_rfl) (by kernel_rfl) (by kernel_rfl) (fun _ _ _ h => h) rfl (fun W _ => by go_simp) HR3.below ?_
                  simp only [Act.put, List.setIfInBounds_toArray, List.set_cons_zero, List.set_cons_succ]
                  refine wpAnyH_done (by kernel_rfl) ?_ _
                  have HF := Lib.hid (And.intro HR3.row HR3.below)
                  clear HR3
                  go_wp2_with fail
                  go_roundw
                  case rel => exact ⟨k + 1, S', by omega, by go_num, HNXT, Lib.hid (by
                    have h := HF.out.1
                    rw [← HFIN.out] at h
                    rw [HLEN.out]
                    rw [show j + 1 + (M - j) = M + 1 by omega] at h; exact rowM_base h HB.out.size), HB.out.trans (HF.out.2.mono HB.out.size)⟩
                  case measure => simp [intOf]; omega
                · refine wpOz_run rfl rfl (wpz_value (d := 62) (v := .slice (some ⟨(W.alloc (.cells #[] 29)).heap.size, 0, none⟩) 1 1) (w' := (W.alloc (.cells #[] 29)).alloc (.cells #[.string key, .string p] 29)) rfl (by go_simp) ?_)
                  simp only [Act.put, List.setIfInBounds_toArray, List.set_cons_zero, List.set_cons_succ]
                  have HS0 := HA.new key p
                  refine ⟨HS0.below, ?_⟩
                  clear HA
                  generalize (W.alloc (.cells #[] 29)).heap.size = B at *
                  refine wpHz_one (i := 4) (by kernel_rfl) ?_
                  refine wpOz_run rfl rfl (wpz_append_rowX (.tmp 53) (.tmp 56) 23 (d := 57) rfl rfl wo.heap.size 29 i0 (.agg #[.string ⟨#[]⟩, .string ⟨#[]⟩]) 2 32 Tryz.underlying23 hi hz0 hz1 hz2 rfl (by decide) _ 0 [] rfl HS0.row (some ⟨g, 0, none⟩) j cp (cellsZ (LT.take j)) rfl HNL.out.1 (HNB.out _ HS0.below) (fun h => by cases h) HNL.out.2.1 (by unfold maxLen; omega) (by omega) HS0.below.size ?_)
                  intro v1 W1 hown1 hgr1 ho1
                  simp only [Act.put, List.setIfInBounds_toArray, List.set_cons_zero, List.set_cons_succ]
                  rw [Nat.zero_add, List.nil_append] at hown1
                  have HS := HS0.grown hown1 hgr1 ho1
                  clear hown1 hgr1 ho1
                  refine ⟨HS.below, ?_⟩
                  clear HS0
                  refine wpHz_one (i := 10) (by kernel_rfl) ?_
                  refine wpOz_run rfl rfl (wpz_append_rowX (.tmp 57) (.tmp 62) 23 (d := 63) rfl rfl wo.heap.size 29 i0 (.agg #[.string ⟨#[]⟩, .string ⟨#[]⟩]) 2 32 Tryz.underlying23 hi hz0 hz1 hz2 rfl (by decide) _ j (cellsZ (LT.take j)) rfl HS.row (some ⟨B, 0, none⟩) 1 1 [Value.string key, Value.string p] rfl rfl (fun ad had => by cases had; exact World.news_of_block HS.blk) (fun h => by cases h) (by intro u hu; simp at hu; rcases hu with rfl | rfl <;> rfl) (by unfold maxLen; omega) (by omega) HS.below.size ?_)
                  intro v2 W2 hown2 hgr2 _
                  simp only [Act.put, List.setIfInBounds_toArray, List.set_cons_zero, List.set_cons_succ]
                  have HR2 := HS.row1.grown hown2 hgr2
                  clear hown2 hgr2 HS
                  refine ⟨HR2.below, ?_⟩
                  refine wpHz_one (i := 14) (by kernel_rfl) ?_
                  refine wpOz_run rfl rfl (wpz_append_rowX (.tmp 63) (.tmp 66) 23 (d := 67) rfl rfl wo.heap.size 29 i0 (.agg #[.string ⟨#[]⟩, .string ⟨#[]⟩]) 2 32 Tryz.underlying23 hi hz0 hz1 hz2 rfl (by decide) _ (j + 1) (cellsZ (LT.take j) ++ [Value.string key, Value.string p]) rfl HR2.row (if cp = j then some ⟨g, 0, none⟩ else some ⟨g, j * 2, none⟩) (M - j) (cp - j) (cellsZ (LT.drop j)) rfl HNL.out.2.2.1 (HNF.out _ HR2.below) (fun h => by split at h <;> cases h) HNL.out.2.2.2 (by unfold maxLen; omega) (by omega) HR2.below.size ?_)
                  intro v3 W3 hown3 hgr3 _
                  simp only [Act.put, List.setIfInBounds_toArray, List.set_cons_zero, List.set_cons_succ]
                  have HR3 := HR2.grown hown3 hgr3
                  clear hown3 hgr3 HR2
                  refine ⟨HR3.below, ?_⟩
                  refine wpHz_take (i := 15) (d := 4) (v := v3) rfl rfl (by kernel_rfl) (by kernel_rfl) (by kernel_rfl) (fun _ _ _ h => h) rfl (fun W _ => by go_simp) HR3.below ?_
                  simp only [Act.put, List.setIfInBounds_toArray, List.set_cons_zero, List.set_cons_succ]
                  refine wpAnyH_done (by kernel_rfl) ?_ _
                  have HF := Lib.hid (And.intro HR3.row HR3.below)
                  clear HR3
                  go_wp2_with fail
                  go_roundw
                  case rel => exact ⟨k + 1, S', by omega, by go_num, HNXT, Lib.hid (by
                    have h := HF.out.1
                    rw [← HFIN.out] at h
                    rw [HLEN.out]
                    rw [show j + 1 + (M - j) = M + 1 by omega] at h; exact rowM_base h HB.out.size), HB.out.trans (HF.out.2.mono HB.out.size)⟩
                  case measure => simp [intOf]; omega
              · refine wpOz_run rfl rfl (wpz_value (d := 62) (v := .slice (some ⟨W.heap.size, 0, none⟩) 1 1) (w' := W.alloc (.cells #[.string key, .string p] 29)) rfl (by go_simp) ?_)
                simp only [Act.put, List.setIfInBounds_toArray, List.set_cons_zero, List.set_cons_succ]
                have HB := InsB.new key p HD
                refine ⟨HB.below, ?_⟩
                refine wpHz_one (i := 0) (by kernel_rfl) ?_
                refine wpOz_run rfl rfl (wpz_value (d := 53) (v := .slice (some ⟨(W.alloc (.cells #[.string key, .string p] 29)).heap.size, 0, none⟩) 0 0) (w' := (W.alloc (.cells #[.string key, .string p] 29)).alloc (.cells #[] 29)) rfl (by go_simp) ?_)
                simp only [Act.put, List.setIfInBounds_toArray, List.set_cons_zero, List.set_cons_succ]
                have HS0 := HB.lit
                refine ⟨HS0.below, ?_⟩
                clear HB
                refine wpHz_one (i := 4) (by kernel_rfl) ?_
                refine wpOz_run rfl rfl (wpz_append_rowX (.tmp 53) (.tmp 56) 23 (d := 57) rfl rfl wo.heap.size 29 i0 (.agg #[.string ⟨#[]⟩, .string ⟨#[]⟩]) 2 32 Tryz.underlying23 hi hz0 hz1 hz2 rfl (by decide) _ 0 [] rfl HS0.row (some ⟨g, 0, none⟩) j cp (cellsZ (LT.take j)) rfl HNL.out.1 (HNB.out _ HS0.below) (fun h => by cases h) HNL.out.2.1 (by unfold maxLen; omega) (by omega) HS0.below.size ?_)
                intro v1 W1 hown1 hgr1 ho1
                simp only [Act.put, List.setIfInBounds_toArray, List.set_cons_zero, List.set_cons_succ]
                rw [Nat.zero_add, List.nil_append] at hown1
                have HS := HS0.grown hown1 hgr1 ho1
                clear hown1 hgr1 ho1
                refine ⟨HS.below, ?_⟩
                clear HS0
                generalize W.heap.size = B at *
                refine wpHz_one (i := 10) (by kernel_rfl) ?_
                refine wpOz_run rfl rfl (wpz_append_rowX (.tmp 57) (.tmp 62) 23 (d := 63) rfl rfl wo.heap.size 29 i0 (.agg #[.string ⟨#[]⟩, .string ⟨#[]⟩]) 2 32 Tryz.underlying23 hi hz0 hz1 hz2 rfl (by decide) _ j (cellsZ (LT.take j)) rfl HS.row (some ⟨B, 0, none⟩) 1 1 [Value.string key, Value.string p] rfl rfl (fun ad had => by cases had; exact World.news_of_block HS.blk) (fun h => by cases h) (by intro u hu; simp at hu; rcases hu with rfl | rfl <;> rfl) (by unfold maxLen; omega) (by omega) HS.below.size ?_)
                intro v2 W2 hown2 hgr2 _
                simp only [Act.put, List.setIfInBounds_toArray, List.set_cons_zero, List.set_cons_succ]
                have HR2 := HS.row1.grown hown2 hgr2
                clear hown2 hgr2 HS
                refine ⟨HR2.below, ?_⟩
                refine wpHz_one (i := 14) (by kernel_rfl) ?_
                refine wpOz_run rfl rfl (wpz_append_rowX (.tmp 63) (.tmp 66) 23 (d := 67) rfl rfl wo.heap.size 29 i0 (.agg #[.string ⟨#[]⟩, .string ⟨#[]⟩]) 2 32 Tryz.underlying23 hi hz0 hz1 hz2 rfl (by decide) _ (j + 1) (cellsZ (LT.take j) ++ [Value.string key, Value.string p]) rfl HR2.row (if cp = j then some ⟨g, 0, none⟩ else some ⟨g, j * 2, none⟩) (M - j) (cp - j) (cellsZ (LT.drop j)) rfl HNL.out.2.2.1 (HNF.out _ HR2.below) (fun h => by split at h <;> cases h) HNL.out.2.2.2 (by unfold maxLen; omega) (by omega) HR2.below.size ?_)
                intro v3 W3 hown3 hgr3 _
                simp only [Act.put, List.setIfInBounds_toArray, List.set_cons_zero, List.set_cons_succ]
                have HR3 := HR2.grown hown3 hgr3
                clear hown3 hgr3 HR2
                refine ⟨HR3.below, ?_⟩
                refine wpHz_take (i := 15) (d := 4) (v := v3) rfl rfl (by kernel_rfl) (by kernel_rfl) (by kernel_rfl) (fun _ _ _ h => h) rfl (fun W _ => by go_simp) HR3.below ?_
                simp only [Act.put, List.setIfInBounds_toArray, List.set_cons_zero, List.set_cons_succ]
                refine wpAnyH_done (by kernel_rfl) ?_ _
                have HF := Lib.hid (And.intro HR3.row HR3.below)
                clear HR3
                go_wp2_with fail
                go_roundw
                case rel => exact ⟨k + 1, S', by omega, by go_num, HNXT, Lib.hid (by
                  have h := HF.out.1
                  rw [← HFIN.out] at h
                  rw [HLEN.out]
                  rw [show j + 1 + (M - j) = M + 1 by omega] at h; exact rowM_base h HB.out.size), HB.out.trans (HF.out.2.mono HB.out.size)⟩
                case measure => simp [intOf]; omega
    · obtain rfl : k = N := by omega
      have HE := Lib.hid (HEND.out S HRUN.out)
      have HB := Lib.hid hb
      obtain ⟨ao2, cp, rfl, hform⟩ := rowM_shape HROW.out
      have HFM := Lib.hid hform
      obtain ⟨wo, hwo⟩ : ∃ wo, wo = wr := ⟨_, rfl⟩
      rw [← hwo] at HB HROW HFM ⊢
      have HNC := Lib.hid (show ∀ W, Below wo.heap.size wo W → ∀ j x, (tZ S)[j]? = some x → ∀ g, ao2 = some ⟨g, 0, none⟩ → W.cell? ⟨g, j * 2, none⟩ = some (.string x.1) ∧ W.cell? ⟨g, j * 2 + 1, none⟩ = some (.string x.2) from fun W hW j x hx g hg => by
        subst hg
        have hl : j < M := by rw [← HM.out.2]; exact (List.getElem?_eq_some_iff.1 hx).1
        obtain ⟨g', e1, _, e3⟩ := HFM.out (by omega)
        cases e1
        have h1 := HROW.out.cells (g := g) rfl _ _ (cellsZ_get _ j x hx).1
        have h2 := HROW.out.cells (g := g) rfl _ _ (cellsZ_get _ j x hx).2
        rw [Addr.add_lit, Nat.zero_add] at h1 h2
        exact ⟨(hW.cell (p := ⟨g, j * 2, none⟩) e3).trans h1, (hW.cell (p := ⟨g, j * 2 + 1, none⟩) e3).trans h2⟩)
      have HTK := Lib.hid (fun j (x : QI) (hx : S[j]? = some x) => outQ_take S j x hx)
      have HLS := Lib.hid (show (outQ S).length ≤ M from by rw [← HM.out.1]; exact List.length_filter_le _ _)
      have HLT := Lib.hid (fun j => show (outQ (S.take j)).length ≤ j from Nat.le_trans (List.length_filter_le _ _) (by rw [List.length_take]; exact Nat.min_le_left _ _))
      clear hb HBAD HEND HI HRUN HMR HOK HCI hwo hform hk hlt
      go_wp2_with fail
      go_loopw [9, 10] (fun dv iv wq => ∃ j : Nat, j ≤ M ∧ iv = .int .i64 (j : Int) ∧ Hid (wq.ownsRow wo.heap.size 29 2 dv (outQ (S.take j)).length (cellsZ (tZ (outQ (S.take j))))) ∧ Below wo.heap.size wo wq) (fun _ iv _ => M - (intOf iv).toNat)
      case atStart => exact ⟨0, Nat.zero_le _, rfl, Lib.hid (World.ownsRow_nil _ _ _ _), Below.refl _ _⟩
      case round =>
        obtain ⟨j, hj, rfl, HRW, hb⟩ := hrel
        by_cases hlt : j < M
        · obtain ⟨x, hx⟩ : ∃ x, S[j]? = some x := ⟨S[j]'(by rw [HM.out.1]; exact hlt), List.getElem?_eq_getElem _⟩
          have htx : (tZ S)[j]? = some (x.1, qstr x.2) := by unfold tZ; rw [List.getElem?_map, hx]; rfl
          obtain ⟨g, rfl, _, hgl⟩ := HFM.out (by omega)
          obtain ⟨c0, c1⟩ := HNC.out wr hb j _ htx g rfl
          have htk := HTK.out j x hx
          have hz := isZeroZ x.2
          obtain ⟨x1, q⟩ := x
          have HBR := Lib.hid hb
          obtain ⟨xo, xc, rfl, _⟩ := rowM_shape HRW.out
          clear hb hx htx
          by_cases hq : q = 0
          · rw [decide_eq_true hq] at hz
            rw [if_pos hq, List.append_nil] at htk
            have HTJ := Lib.hid htk
            clear htk hq
            generalize qstr q = sq at *
            go_wp2_with fail
            go_roundw
            case rel => exact ⟨j + 1, by omega, by go_num, Lib.hid (by rw [HTJ.out]; exact HRW.out), HBR.out⟩
            case measure => simp [intOf]; omega
          · rw [decide_eq_false hq] at hz
            rw [if_neg hq] at htk
            have HTJ := Lib.hid (show cellsZ (tZ (outQ (S.take (j + 1)))) = cellsZ (tZ (outQ (S.take j))) ++ [.string x1, .string (qstr q)] ∧ (outQ (S.take (j + 1))).length = (outQ (S.take j)).length + 1 from by
              rw [htk]
              constructor
              · unfold tZ; rw [List.map_append, cellsZ_app]; rfl
              · rw [List.length_append]; rfl)
            have HLJ := HLT.out j
            clear htk hq
            generalize qstr q = sq at *
            generalize (outQ (S.take j)).length = n at *
            go_wp2_with (at_builtin; refine wpList_append_own _ rfl _ _ 23 rfl wo.heap.size 29 i0 (.agg #[.string ⟨#[]⟩, .string ⟨#[]⟩]) 2 32 Tryz.underlying23 hi hz0 hz1 hz2 rfl (by decide) _ _ _ rfl (HRW.out.alloc _) ⟨wr.heap.size, 0, none⟩ 1 1 [.string x1, .string sq] rfl rfl (World.news_of_block (heap_alloc_new _ _)) (fun u hu => by simp at hu; rcases hu with rfl | rfl <;> rfl) ?c3 ?c4 ?c5 ?_)
            case c3 => unfold maxLen; omega
            case c4 => omega
            case c5 => have := HBR.out.size; simp; omega
            intro v' w6 hown' hgrow _
            have hlt5 := HRW.out.lt
            have HF := Lib.hid (And.intro hown' ((HBR.out.alloc HBR.out.size _).grown hgrow (by have := HBR.out.size; simp; omega) (fun q hq => (hlt5 q hq).1)))
            clear hown' hgrow hlt5
            go_wp2_with fail
            go_roundw
            case rel => exact ⟨j + 1, by omega, by go_num, Lib.hid (by rw [HTJ.out.1, HTJ.out.2]; exact HF.out.1), HF.out.2⟩
            case measure => simp [intOf]; omega
        · obtain rfl : j = M := by omega
          have HTA := Lib.hid (show S.take j = S from List.take_of_length_le (by rw [HM.out.1]; exact Nat.le_refl _))
          have HBR := Lib.hid hb
          clear hb HNC HTK HLT
          go_wp2_with fail
          go_ret2
          exact ⟨fun S2 h => ⟨_, rfl, by rw [HE.out] at h; cases h; have h2 := HRW.out; rw [HTA.out] at h2; exact rowM_base h2 HB.out.size⟩, fun h => (by rw [HE.out] at h; cases h), HB.out.trans (HBR.out.mono HB.out.size)⟩

end Go.Proofs.YtofanopnibbaeaaGreatDoor
