/-
  The theorem proved at the end: the statement BitsNames's tied card holds for this commit's program: BitsNames returns true.
-/
import Derived.Test.YtgeohcpmoleocaaGreatDoorB24
import Derived.Test.YtgeohcpmoleocaaGreatDoorC29
namespace Go.Proofs.YtgeohcpmoleocaaGreatDoor
open Go Go.ChangeMaps Go.ChangeShapes Go.WideShapes Go.ChangeAt Go.RowKit NV

set_option maxRecDepth 100000 in
theorem law_lifted (os : Os) (started : os.Started) (H : Type) (enc : TypeId × Value → H) :
    ReturnsInHanded {} Tryz.checked os 4 .any (fun w args => (Rows.bitsNamesSpec.pre enc Tryz.prog Tryz.f4 [] false w args ∧ laidMetH Tryz.prog laid5 w) ∧ sizedMet enc Tryz.prog Tryz.f4 (OpenSpec.ofChange Rows.bitsNamesSpec) false w args)
      (Rows.bitsNamesSpec.post enc Tryz.prog Tryz.f4 false true false false) := by
  refine handed_both5 started (by kernel_rfl) Tryz.func4
    (ChangeSpec.witness_shaped (enc := enc) (C := Tryz.checked) (os := os) (X := fun w _ => laidMetH Tryz.prog laid5 w) false (World.doorLaid Tryz.prog 4000 os) #[] 8 rfl (World.shaped_of_RefB (by kernel_rfl) (by kernel_rfl)) (by kernel_rfl) (by kernel_rfl) (by kernel_rfl) (door_met5 os _)) ?_
  intro W base args ds gs before hval0 hW _ hL _
  have hval : ∀ (j : Nat) t v, Tryz.f4.params[j]? = some t → args[j]? = some v → Value.okWide Tryz.prog W .any base t v := hval0
  have hW' := hW
  obtain ⟨p, q, hA0, hV, rfl, hfz, hnd⟩ := hW
  have hA : DataW.TrodAll enc Tryz.prog W 0 (fun _ => true) true Tryz.f4.params.toList args.toList ds p := hA0
  rw [Tryz.params4] at hA hval
  obtain ⟨rfl, rfl, rfl⟩ := trodAll_none hA
  obtain ⟨rfl, rfl⟩ := trodVars_none hV
  clear hA0 hval0
  refine (bitsNames_any W (tab_of_laid5 hL)).mono fun e W' ⟨he, hw⟩ => ?_
  subst he
  refine ⟨_, rfl, _, _, _, [], [], [], hW', trodAll_mk1 (shut_bool Tryz.underlying4 true), ?_, rfl, hw.frame _, fun h => by cases h⟩
  exact trodAll_mk0

theorem lr_named : Tryz.prog.funcNamed "privhouse/privhouselaw03.BitsNames" = some 4 := by kernel_rfl
theorem lr_wf : (Rows.bitsNamesRow).wfByText (OpenSpec.ofChange Rows.bitsNamesSpec) = true := by kernel_rfl
theorem lr_main : Tryz.pinned.checked.prog.mainIs = some ((true, "2e109445097e54cdfa14dc9a174719f5ee2562608578e8d888ccdd95fb564e18").1, (true, "2e109445097e54cdfa14dc9a174719f5ee2562608578e8d888ccdd95fb564e18").2.toList) := by kernel_rfl
theorem lr_looks : true = Tryz.pinned.checked.prog.looks [] := by kernel_rfl
theorem lr_goes : false = (Rows.bitsNamesRow).goesBy Tryz.pinned.checked.prog := by kernel_rfl
theorem lr_joined : joinedFacts Tryz.pinned.checked.prog 4 Tryz.f4 Rows.bitsNamesSpec Rows.bitsNamesRow = true := by kernel_rfl
theorem lr_inst : (Tryz.f4).isInstance Tryz.pinned.checked.prog (Rows.bitsNamesRow).origin (Rows.bitsNamesRow).targs := of_decide_eq_true (by kernel_rfl)
theorem lr_wrap : (Tryz.f4).isWrapper Tryz.pinned.checked.prog (Rows.bitsNamesRow).wrapper (Rows.bitsNamesRow).mainSum := by
  unfold Func.isWrapper; first | (rw [if_pos (by decide +kernel)]; kernel_rfl) | (rw [if_neg (by decide +kernel)]; exact ⟨rfl, rfl⟩)

theorem law_row : Rows.BitsNamesSaid :=
  OpenClaim.holds_of_wide 4 Tryz.f4 rfl rfl rfl rfl rfl rfl rfl ⟨rfl, rfl, rfl, rfl, rfl⟩ rfl rfl rfl rfl rfl lr_named Tryz.func4 lr_joined lr_inst lr_wrap
    (fun os started H enc _ => law_lifted os started H enc)

theorem law_proved : Rows.BitsNamesCardSaid :=
  Claim7.holds_tied_plain_at .later [] [.data, .data, .data, .sentinel, .sentinel] true (true, "2e109445097e54cdfa14dc9a174719f5ee2562608578e8d888ccdd95fb564e18") true
    law_row (fun _ h => by cases h) lr_wf (fun _ h => by cases h) bitsNames_row_tie rfl ⟨rfl, rfl⟩ lr_main rfl
    (fun f fn hf hfn => by
      obtain rfl : f = 4 := Option.some.inj (lr_named.symm.trans hf) |>.symm
      obtain rfl : fn = Tryz.f4 := (Option.some.inj (Tryz.func4.symm.trans hfn)).symm
      exact ⟨lr_looks, fun j t ht => by
        rw [Tryz.params4] at ht
        simp at ht⟩)
    lr_goes
end Go.Proofs.YtgeohcpmoleocaaGreatDoor
