/-
  The theorem proved at the end: the statement LossNames's tied card holds for this commit's program: whatever the arguments, LossNames returns true.
-/
import Derived.Test.YtofanopnibbaeaaGreatDoorLN
import Derived.Test.YtofanopnibbaeaaGreatDoorC20
namespace Go.Proofs.YtofanopnibbaeaaGreatDoor
open Go Go.ChangeMaps Go.ChangeShapes Go.WideShapes Go.ChangeAt Go.RowKit NV

theorem lr_laid : laidOutB Tryz.prog = true := by kernel_rfl

set_option maxRecDepth 100000 in
theorem law_lifted (os : Os) (started : os.Started) (H : Type) (enc : TypeId × Value → H) :
    ReturnsInHanded {} Tryz.checked os 7 .any (fun w args => (Rows.lossNamesSpec.pre enc Tryz.prog Tryz.f7 [] false w args ∧ laidMetH Tryz.prog laid3 w) ∧ sizedMet enc Tryz.prog Tryz.f7 (OpenSpec.ofChange Rows.lossNamesSpec) false w args)
      (Rows.lossNamesSpec.post enc Tryz.prog Tryz.f7 false true false false) := by
  refine handed_both started (by kernel_rfl) Tryz.func7
    (ChangeSpec.witness_shaped (enc := enc) (C := Tryz.checked) (os := os) (X := fun w _ => laidMetH Tryz.prog laid3 w) false (World.doorLaid Tryz.prog 4000 os) #[] 8 rfl (World.shaped_of_RefB (by kernel_rfl) (by kernel_rfl)) (by kernel_rfl) (by kernel_rfl) (by kernel_rfl) (door_met os _)) ?_
  intro W base args ds gs before hval0 hW _ hL hML
  have hval : ∀ (j : Nat) t v, Tryz.f7.params[j]? = some t → args[j]? = some v → Value.okWide Tryz.prog W .any base t v := hval0
  have hW' := hW
  obtain ⟨p, q, hA0, hV, rfl, hfz, hnd⟩ := hW
  have hA : DataW.TrodAll enc Tryz.prog W 0 (fun _ => true) true Tryz.f7.params.toList args.toList ds p := hA0
  rw [Tryz.params7] at hA hval
  obtain ⟨rfl, rfl, rfl⟩ := trodAll_none hA
  obtain ⟨rfl, rfl⟩ := trodVars_none hV
  clear hA0 hval0
  refine (lnames_any W (tab_of_laid hL) hML).mono fun e W' ⟨he, hw⟩ => ?_
  subst he
  refine ⟨_, rfl, _, _, _, [], [], [], hW', trodAll_mk1 (shut_bool Tryz.underlying4 true), ?_, rfl, hw.frame _, fun h => by cases h⟩
  exact trodAll_mk0

theorem lr_named : Tryz.prog.funcNamed "privhouse/privhouselaw09.LossNames" = some 7 := by kernel_rfl
theorem lr_wf : (Rows.lossNamesRow).wfByText (OpenSpec.ofChange Rows.lossNamesSpec) = true := by kernel_rfl
theorem lr_main : Tryz.pinned.checked.prog.mainIs = some ((true, "76eea364d4eda0382ad5c926dbafe34f75e0b5d0e994ac3fb95d8635817ba4d0").1, (true, "76eea364d4eda0382ad5c926dbafe34f75e0b5d0e994ac3fb95d8635817ba4d0").2.toList) := by kernel_rfl
theorem lr_looks : true = Tryz.pinned.checked.prog.looks [] := by kernel_rfl
theorem lr_goes : false = (Rows.lossNamesRow).goesBy Tryz.pinned.checked.prog := by kernel_rfl
theorem band_t {a b : Bool} (ha : a = true) (hb : b = true) : (a && b) = true := by rw [ha, hb]; rfl
set_option maxHeartbeats 25600000 in
theorem lr_joined : joinedFacts Tryz.pinned.checked.prog 7 Tryz.f7 Rows.lossNamesSpec Rows.lossNamesRow = true := by
  unfold joinedFacts
  repeat' (with_reducible refine band_t ?_ ?_)
  all_goals as_aux_lemma => kernel_rfl
theorem lr_inst : (Tryz.f7).isInstance Tryz.pinned.checked.prog (Rows.lossNamesRow).origin (Rows.lossNamesRow).targs := of_decide_eq_true (by kernel_rfl)
theorem lr_wrap : (Tryz.f7).isWrapper Tryz.pinned.checked.prog (Rows.lossNamesRow).wrapper (Rows.lossNamesRow).mainSum := by
  unfold Func.isWrapper; first | (rw [if_pos (by decide +kernel)]; kernel_rfl) | (rw [if_neg (by decide +kernel)]; exact ⟨rfl, rfl⟩)

theorem law_row : Rows.LossNamesSaid :=
  OpenClaim.holds_of_wide 7 Tryz.f7 rfl rfl rfl rfl rfl rfl rfl ⟨rfl, rfl, rfl, rfl, rfl⟩ rfl rfl rfl rfl rfl lr_named Tryz.func7 lr_joined lr_inst lr_wrap
    (fun os started H enc _ => law_lifted os started H enc)

theorem law_proved : Rows.LossNamesCardSaid :=
  Claim7.holds_tied_plain_at .later [] [.data, .data, .data] true (true, "76eea364d4eda0382ad5c926dbafe34f75e0b5d0e994ac3fb95d8635817ba4d0") true
    law_row (fun _ h => by cases h) lr_wf (fun _ h => by cases h) lossNames_row_tie rfl ⟨rfl, rfl⟩ lr_main rfl
    (fun f fn hf hfn => by
      obtain rfl : f = 7 := Option.some.inj (lr_named.symm.trans hf) |>.symm
      obtain rfl : fn = Tryz.f7 := (Option.some.inj (Tryz.func7.symm.trans hfn)).symm
      exact ⟨lr_looks, fun j t ht => by
        rw [Tryz.params7] at ht
        simp at ht⟩)
    lr_goes
end Go.Proofs.YtofanopnibbaeaaGreatDoor
