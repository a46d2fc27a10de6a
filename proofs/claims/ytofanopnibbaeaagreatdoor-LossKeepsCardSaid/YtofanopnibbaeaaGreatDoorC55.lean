/-
  The theorem proved at the end: the statement LossKeeps's tied card holds for this commit's program: whatever the arguments, LossKeeps returns true.
-/
import Derived.Test.YtofanopnibbaeaaGreatDoorLK
import Derived.Test.YtofanopnibbaeaaGreatDoorC20
namespace Go.Proofs.YtofanopnibbaeaaGreatDoor
open Go Go.ChangeMaps Go.ChangeShapes Go.WideShapes Go.ChangeAt Go.RowKit NV

theorem lr_laid : laidOutB Tryz.prog = true := by kernel_rfl

set_option maxRecDepth 100000 in
theorem law_lifted (os : Os) (started : os.Started) (H : Type) (enc : TypeId × Value → H) :
    ReturnsInHanded {} Tryz.checked os 13 .any (fun w args => (Rows.lossKeepsSpec.pre enc Tryz.prog Tryz.f13 [] false w args ∧ laidMetH Tryz.prog laid3 w) ∧ sizedMet enc Tryz.prog Tryz.f13 (OpenSpec.ofChange Rows.lossKeepsSpec) false w args)
      (Rows.lossKeepsSpec.post enc Tryz.prog Tryz.f13 false true false false) := by
  refine handed_both started (by kernel_rfl) Tryz.func13
    (ChangeSpec.witness_shaped (enc := enc) (C := Tryz.checked) (os := os) (X := fun w _ => laidMetH Tryz.prog laid3 w) false (World.doorLaid Tryz.prog 4000 os) #[.int .i64 0, .string ⟨#[]⟩] 8 rfl (World.shaped_of_RefB (by kernel_rfl) (by kernel_rfl)) (by kernel_rfl) (by kernel_rfl) (by kernel_rfl) (door_met os _)) ?_
  intro W base args ds gs before hval0 hW hsz hL hML
  have hval : ∀ (j : Nat) t v, Tryz.f13.params[j]? = some t → args[j]? = some v → Value.okWide Tryz.prog W .any base t v := hval0
  have hW' := hW
  obtain ⟨p, q, hA0, hV, rfl, hfz, hnd⟩ := hW
  have hA : DataW.TrodAll enc Tryz.prog W 0 (fun _ => true) true Tryz.f13.params.toList args.toList ds p := hA0
  have hsz1 : (DataW.weightsEach Tryz.prog (Tryz.f13.params.toList ++ Rows.lossKeepsSpec.plain.varTypes Tryz.prog) (ds ++ gs)).all (· ≤ reachBytes) = true := hsz
  rw [Tryz.params13] at hA hval hsz1
  obtain ⟨v0, v1, d0, d1, p0, p1, rfl, rfl, rfl, h0, h1⟩ := trodAll_two hA
  obtain ⟨rfl, rfl⟩ := trodVars_none hV
  obtain ⟨x0, rfl, rfl, rfl, x0w⟩ := open_int Tryz.underlying3 (hval 0 3 v0 rfl rfl) h0
  obtain ⟨x1, rfl, rfl, rfl, x1w⟩ := open_string Tryz.underlying27 (hval 1 27 v1 rfl rfl) h1
  clear hA0 hval0
  refine (lkeeps_any (small_of (sized_string hsz1 (j := 1) rfl rfl)) (int_range x0w).1 (int_range x0w).2 (tab_of_laid hL) hML).mono fun e W' ⟨he, hw⟩ => ?_
  subst he
  refine ⟨_, rfl, _, _, _, [], [], [], hW', trodAll_mk1 (shut_bool Tryz.underlying4 true), ?_, rfl, hw.frame _, fun h => by cases h⟩
  exact trodAll_mk2 (shut_int Tryz.underlying3 x0w) (shut_string Tryz.underlying27 x1w)

theorem lr_named : Tryz.prog.funcNamed "privhouse/privhouselaw09.LossKeeps" = some 13 := by kernel_rfl
theorem lr_wf : (Rows.lossKeepsRow).wfByText (OpenSpec.ofChange Rows.lossKeepsSpec) = true := by kernel_rfl
theorem lr_main : Tryz.pinned.checked.prog.mainIs = some ((true, "76eea364d4eda0382ad5c926dbafe34f75e0b5d0e994ac3fb95d8635817ba4d0").1, (true, "76eea364d4eda0382ad5c926dbafe34f75e0b5d0e994ac3fb95d8635817ba4d0").2.toList) := by kernel_rfl
theorem lr_looks : true = Tryz.pinned.checked.prog.looks [] := by kernel_rfl
theorem lr_goes : false = (Rows.lossKeepsRow).goesBy Tryz.pinned.checked.prog := by kernel_rfl
theorem band_t {a b : Bool} (ha : a = true) (hb : b = true) : (a && b) = true := by rw [ha, hb]; rfl
set_option maxHeartbeats 25600000 in
theorem lr_joined : joinedFacts Tryz.pinned.checked.prog 13 Tryz.f13 Rows.lossKeepsSpec Rows.lossKeepsRow = true := by
  unfold joinedFacts
  repeat' (with_reducible refine band_t ?_ ?_)
  all_goals as_aux_lemma => kernel_rfl
theorem lr_inst : (Tryz.f13).isInstance Tryz.pinned.checked.prog (Rows.lossKeepsRow).origin (Rows.lossKeepsRow).targs := of_decide_eq_true (by kernel_rfl)
theorem lr_wrap : (Tryz.f13).isWrapper Tryz.pinned.checked.prog (Rows.lossKeepsRow).wrapper (Rows.lossKeepsRow).mainSum := by
  unfold Func.isWrapper; first | (rw [if_pos (by decide +kernel)]; kernel_rfl) | (rw [if_neg (by decide +kernel)]; exact ⟨rfl, rfl⟩)

theorem law_row : Rows.LossKeepsSaid :=
  OpenClaim.holds_of_wide 13 Tryz.f13 rfl rfl rfl rfl rfl rfl rfl ⟨rfl, rfl, rfl, rfl, rfl⟩ rfl rfl rfl rfl rfl lr_named Tryz.func13 lr_joined lr_inst lr_wrap
    (fun os started H enc _ => law_lifted os started H enc)

theorem law_proved : Rows.LossKeepsCardSaid :=
  Claim7.holds_tied_plain_at .later [] [.data, .data, .data] true (true, "76eea364d4eda0382ad5c926dbafe34f75e0b5d0e994ac3fb95d8635817ba4d0") true
    law_row (fun _ h => by cases h) lr_wf (fun _ h => by cases h) lossKeeps_row_tie rfl ⟨rfl, rfl⟩ lr_main rfl
    (fun f fn hf hfn => by
      obtain rfl : f = 13 := Option.some.inj (lr_named.symm.trans hf) |>.symm
      obtain rfl : fn = Tryz.f13 := (Option.some.inj (Tryz.func13.symm.trans hfn)).symm
      exact ⟨lr_looks, fun j t ht => by
        rw [Tryz.params13] at ht
        have hm : t ∈ [3, 27] := by simpa using Array.mem_of_getElem? ht
        have hall : ([3, 27].all fun u => !Tryz.prog.wantsStandIn u) = true := by kernel_rfl
        exact (show Tryz.prog.wantsStandIn t = false by simpa using List.all_eq_true.1 hall t hm)⟩)
    lr_goes
end Go.Proofs.YtofanopnibbaeaaGreatDoor
