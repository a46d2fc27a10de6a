/-
  The theorem proved at the end: the statement PickNames's tied card holds for this commit's program: PickNames returns true.
-/
import Derived.Test.YtgnmhijffppkoaaGreatDoorE25
import Derived.Test.YtgnmhijffppkoaaGreatDoorC20
namespace Go.Proofs.YtgnmhijffppkoaaGreatDoor
open Go Go.ChangeMaps Go.ChangeShapes Go.WideShapes Go.ChangeAt Go.RowKit NV

set_option maxRecDepth 100000 in
theorem law_lifted (os : Os) (started : os.Started) (H : Type) (enc : TypeId × Value → H) :
    ReturnsInHanded {} Tryz.checked os 5 .any (fun w args => (Rows.pickNamesSpec.pre enc Tryz.prog Tryz.f5 [] false w args ∧ laidMetH Tryz.prog laid3 w) ∧ sizedMet enc Tryz.prog Tryz.f5 (OpenSpec.ofChange Rows.pickNamesSpec) false w args)
      (Rows.pickNamesSpec.post enc Tryz.prog Tryz.f5 false true false false) := by
  refine handed_both started (by kernel_rfl) Tryz.func5
    (ChangeSpec.witness_shaped (enc := enc) (C := Tryz.checked) (os := os) (X := fun w _ => laidMetH Tryz.prog laid3 w) false (World.doorLaid Tryz.prog 4000 os) #[] 8 rfl (World.shaped_of_RefB (by kernel_rfl) (by kernel_rfl)) (by kernel_rfl) (by kernel_rfl) (by kernel_rfl) (door_met os _)) ?_
  intro W base args ds gs before hval0 hW _ hL hML
  have hval : ∀ (j : Nat) t v, Tryz.f5.params[j]? = some t → args[j]? = some v → Value.okWide Tryz.prog W .any base t v := hval0
  have hW' := hW
  obtain ⟨p, q, hA0, hV, rfl, hfz, hnd⟩ := hW
  have hA : DataW.TrodAll enc Tryz.prog W 0 (fun _ => true) true Tryz.f5.params.toList args.toList ds p := hA0
  rw [Tryz.params5] at hA hval
  obtain ⟨rfl, rfl, rfl⟩ := trodAll_none hA
  obtain ⟨rfl, rfl⟩ := trodVars_none hV
  clear hA0 hval0
  refine (pickNames_any W (tab_of_laid hL)).mono fun e W' ⟨he, hw⟩ => ?_
  subst he
  refine ⟨_, rfl, _, _, _, [], [], [], hW', trodAll_mk1 (shut_bool Tryz.underlying4 true), ?_, rfl, hw.frame _, fun h => by cases h⟩
  exact trodAll_mk0

theorem lr_named : Tryz.prog.funcNamed "privhouse/privhouselaw05.PickNames" = some 5 := by kernel_rfl
theorem lr_wf : (Rows.pickNamesRow).wfByText (OpenSpec.ofChange Rows.pickNamesSpec) = true := by kernel_rfl
theorem lr_main : Tryz.pinned.checked.prog.mainIs = some ((true, "bbb478371783f521d1bab0772faa26915c71edac001eaad0f6c2ef7d415d1817").1, (true, "bbb478371783f521d1bab0772faa26915c71edac001eaad0f6c2ef7d415d1817").2.toList) := by kernel_rfl
theorem lr_looks : true = Tryz.pinned.checked.prog.looks [] := by kernel_rfl
theorem lr_goes : false = (Rows.pickNamesRow).goesBy Tryz.pinned.checked.prog := by kernel_rfl
theorem lr_joined : joinedFacts Tryz.pinned.checked.prog 5 Tryz.f5 Rows.pickNamesSpec Rows.pickNamesRow = true := by kernel_rfl
theorem lr_inst : (Tryz.f5).isInstance Tryz.pinned.checked.prog (Rows.pickNamesRow).origin (Rows.pickNamesRow).targs := of_decide_eq_true (by kernel_rfl)
theorem lr_wrap : (Tryz.f5).isWrapper Tryz.pinned.checked.prog (Rows.pickNamesRow).wrapper (Rows.pickNamesRow).mainSum := by
  unfold Func.isWrapper; first | (rw [if_pos (by decide +kernel)]; kernel_rfl) | (rw [if_neg (by decide +kernel)]; exact ⟨rfl, rfl⟩)

theorem law_row : Rows.PickNamesSaid :=
  OpenClaim.holds_of_wide 5 Tryz.f5 rfl rfl rfl rfl rfl rfl rfl ⟨rfl, rfl, rfl, rfl, rfl⟩ rfl rfl rfl rfl rfl lr_named Tryz.func5 lr_joined lr_inst lr_wrap
    (fun os started H enc _ => law_lifted os started H enc)

theorem law_proved : Rows.PickNamesCardSaid :=
  Claim7.holds_tied_plain_at .later [] [.data, .data, .data] true (true, "bbb478371783f521d1bab0772faa26915c71edac001eaad0f6c2ef7d415d1817") true
    law_row (fun _ h => by cases h) lr_wf (fun _ h => by cases h) pickNames_row_tie rfl ⟨rfl, rfl⟩ lr_main rfl
    (fun f fn hf hfn => by
      obtain rfl : f = 5 := Option.some.inj (lr_named.symm.trans hf) |>.symm
      obtain rfl : fn = Tryz.f5 := (Option.some.inj (Tryz.func5.symm.trans hfn)).symm
      exact ⟨lr_looks, fun j t ht => by
        rw [Tryz.params5] at ht
        simp at ht⟩)
    lr_goes
end Go.Proofs.YtgnmhijffppkoaaGreatDoor
