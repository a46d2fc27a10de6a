/-
  The theorem proved at the end: the statement SchemaKnown's tied card holds for this commit's program: whatever the arguments, SchemaKnown returns true.
-/
import Derived.Test.YtgehldadfaonbaaDoorKG
import Derived.Test.YtgehldadfaonbaaDoorYC
import Derived.Test.YtgehldadfaonbaaDoorYW
namespace Go.Proofs.YtgehldadfaonbaaDoor
open Go Go.ChangeMaps Go.ChangeShapes Go.WideShapes Go.ChangeAt Go.RowKit

set_option maxRecDepth 100000 in
theorem law_lifted (os : Os) (started : os.Started) (H : Type) (enc : TypeId × Value → H) :
    ReturnsInHanded {} Tryd.checked os 7 .any (fun w args => (Rows.schemaKnownSpec.pre enc Tryd.prog Tryd.f7 [] false w args ∧ laidMetH Tryd.prog laid6 w) ∧ sizedMet enc Tryd.prog Tryd.f7 (OpenSpec.ofChange Rows.schemaKnownSpec) false w args)
      (Rows.schemaKnownSpec.post enc Tryd.prog Tryd.f7 false true false false) := by
  refine handed_all started (by kernel_rfl) Tryd.func7
    (ChangeSpec.witness_shaped (enc := enc) (C := Tryd.checked) (os := os) (X := fun w _ => laidMetH Tryd.prog laid6 w) false (World.doorLaid Tryd.prog 4000 os) #[] 8 rfl (World.shaped_of_RefB (by kernel_rfl) (by kernel_rfl)) (by kernel_rfl) (by kernel_rfl) (by kernel_rfl) (door_met6 os _)) ?_
  intro W base args ds gs before hval0 hW _ hL _
  have hval : ∀ (j : Nat) t v, Tryd.f7.params[j]? = some t → args[j]? = some v → Value.okWide Tryd.prog W .any base t v := hval0
  have hW' := hW
  obtain ⟨p, q, hA0, hV, rfl, hfz, hnd⟩ := hW
  have hA : DataW.TrodAll enc Tryd.prog W 0 (fun _ => true) true Tryd.f7.params.toList args.toList ds p := hA0
  rw [Tryd.params7] at hA hval
  obtain ⟨rfl, rfl, rfl⟩ := trodAll_none hA
  obtain ⟨rfl, rfl⟩ := trodVars_none hV
  clear hA0 hval0
  refine (known_any W (wl_of6 hL)).mono fun e W' ⟨he, hw⟩ => ?_
  subst he
  refine ⟨_, rfl, _, _, _, [], [], [], hW', trodAll_mk1 (shut_bool Tryd.underlying4 true), ?_, rfl, hw.frame _, fun h => by cases h⟩
  exact trodAll_mk0

theorem lr_named : Tryd.prog.funcNamed "privhouse/privhouselaw11.SchemaKnown" = some 7 := by kernel_rfl
theorem lr_wf : (Rows.schemaKnownRow).wfByText (OpenSpec.ofChange Rows.schemaKnownSpec) = true := by kernel_rfl
theorem lr_main : Tryd.pinned.checked.prog.mainIs = some ((true, "a622fa0bb9c27611b3dc33e26ee0fe350aa0ad67e8cc6373719303f731c4db8c").1, (true, "a622fa0bb9c27611b3dc33e26ee0fe350aa0ad67e8cc6373719303f731c4db8c").2.toList) := by kernel_rfl
theorem lr_looks : true = Tryd.pinned.checked.prog.looks [] := by kernel_rfl
theorem lr_goes : false = (Rows.schemaKnownRow).goesBy Tryd.pinned.checked.prog := by kernel_rfl
theorem lr_joined : joinedFacts Tryd.pinned.checked.prog 7 Tryd.f7 Rows.schemaKnownSpec Rows.schemaKnownRow = true := by kernel_rfl
theorem lr_inst : (Tryd.f7).isInstance Tryd.pinned.checked.prog (Rows.schemaKnownRow).origin (Rows.schemaKnownRow).targs := of_decide_eq_true (by kernel_rfl)
theorem lr_wrap : (Tryd.f7).isWrapper Tryd.pinned.checked.prog (Rows.schemaKnownRow).wrapper (Rows.schemaKnownRow).mainSum := by
  unfold Func.isWrapper; first | (rw [if_pos (by decide +kernel)]; kernel_rfl) | (rw [if_neg (by decide +kernel)]; exact ⟨rfl, rfl⟩)

theorem law_row : Rows.SchemaKnownSaid :=
  OpenClaim.holds_of_wide 7 Tryd.f7 rfl rfl rfl rfl rfl rfl rfl ⟨rfl, rfl, rfl, rfl, rfl⟩ rfl rfl rfl rfl rfl lr_named Tryd.func7 lr_joined lr_inst lr_wrap
    (fun os started H enc _ => law_lifted os started H enc)

theorem law_proved : Rows.SchemaKnownCardSaid :=
  Claim7.holds_tied_plain_at .later [] [.data, .data, .data, .sentinel, .sentinel, .data] true (true, "a622fa0bb9c27611b3dc33e26ee0fe350aa0ad67e8cc6373719303f731c4db8c") true
    law_row (fun _ h => by cases h) lr_wf (fun _ h => by cases h) schemaKnown_row_tie rfl ⟨rfl, rfl⟩ lr_main rfl
    (fun f fn hf hfn => by
      obtain rfl : f = 7 := Option.some.inj (lr_named.symm.trans hf) |>.symm
      obtain rfl : fn = Tryd.f7 := (Option.some.inj (Tryd.func7.symm.trans hfn)).symm
      exact ⟨lr_looks, fun j t ht => by
        rw [Tryd.params7] at ht
        simp at ht⟩)
    lr_goes
#print axioms law_proved

end Go.Proofs.YtgehldadfaonbaaDoor
