/-
  The theorem proved at the end: the statement SchemaNames's tied card holds for this commit's program: whatever the arguments, SchemaNames returns true.
-/
import Derived.Test.YtgehldadfaonbaaDoorSX
import Derived.Test.YtgehldadfaonbaaDoorYC
namespace Go.Proofs.YtgehldadfaonbaaDoor
open Go Go.ChangeMaps Go.ChangeShapes Go.WideShapes Go.ChangeAt Go.RowKit

set_option maxRecDepth 100000 in
theorem law_lifted (os : Os) (started : os.Started) (H : Type) (enc : TypeId × Value → H) :
    ReturnsInHanded {} Tryd.checked os 5 .any (fun w args => (Rows.schemaNamesSpec.pre enc Tryd.prog Tryd.f5 [] false w args ∧ laidMetH Tryd.prog laid4 w) ∧ sizedMet enc Tryd.prog Tryd.f5 (OpenSpec.ofChange Rows.schemaNamesSpec) false w args)
      (Rows.schemaNamesSpec.post enc Tryd.prog Tryd.f5 false true false false) := by
  refine handed_all started (by kernel_rfl) Tryd.func5
    (ChangeSpec.witness_shaped (enc := enc) (C := Tryd.checked) (os := os) (X := fun w _ => laidMetH Tryd.prog laid4 w) false (World.doorLaid Tryd.prog 4000 os) #[.string ⟨#[]⟩] 8 rfl (World.shaped_of_RefB (by kernel_rfl) (by kernel_rfl)) (by kernel_rfl) (by kernel_rfl) (by kernel_rfl) (door_met4 os _)) ?_
  intro W base args ds gs before hval0 hW hsz hL hSh
  have hval : ∀ (j : Nat) t v, Tryd.f5.params[j]? = some t → args[j]? = some v → Value.okWide Tryd.prog W .any base t v := hval0
  have hW' := hW
  obtain ⟨p, q, hA0, hV, rfl, hfz, hnd⟩ := hW
  have hA : DataW.TrodAll enc Tryd.prog W 0 (fun _ => true) true Tryd.f5.params.toList args.toList ds p := hA0
  have hsz1 : (DataW.weightsEach Tryd.prog (Tryd.f5.params.toList ++ Rows.schemaNamesSpec.plain.varTypes Tryd.prog) (ds ++ gs)).all (· ≤ reachBytes) = true := hsz
  rw [Tryd.params5] at hA hval hsz1
  obtain ⟨v0, d0, rfl, rfl, h0⟩ := trodAll_one hA
  obtain ⟨rfl, rfl⟩ := trodVars_none hV
  obtain ⟨x0, rfl, rfl, rfl, x0w⟩ := open_string Tryd.underlying9 (hval 0 9 v0 rfl rfl) h0
  clear hA0 hval0
  refine (names_any x0 W (res_of4 hL)).mono fun e W' ⟨he, hw⟩ => ?_
  subst he
  refine ⟨_, rfl, _, _, _, [], [], [], hW', trodAll_mk1 (shut_bool Tryd.underlying4 true), ?_, rfl, hw.frame _, fun h => by cases h⟩
  exact trodAll_mk1 (shut_string Tryd.underlying9 x0w)

theorem lr_named : Tryd.prog.funcNamed "privhouse/privhouselaw11.SchemaNames" = some 5 := by kernel_rfl
theorem lr_wf : (Rows.schemaNamesRow).wfByText (OpenSpec.ofChange Rows.schemaNamesSpec) = true := by kernel_rfl
theorem lr_main : Tryd.pinned.checked.prog.mainIs = some ((true, "a622fa0bb9c27611b3dc33e26ee0fe350aa0ad67e8cc6373719303f731c4db8c").1, (true, "a622fa0bb9c27611b3dc33e26ee0fe350aa0ad67e8cc6373719303f731c4db8c").2.toList) := by kernel_rfl
theorem lr_looks : true = Tryd.pinned.checked.prog.looks [] := by kernel_rfl
theorem lr_goes : false = (Rows.schemaNamesRow).goesBy Tryd.pinned.checked.prog := by kernel_rfl
theorem lr_joined : joinedFacts Tryd.pinned.checked.prog 5 Tryd.f5 Rows.schemaNamesSpec Rows.schemaNamesRow = true := by kernel_rfl
theorem lr_inst : (Tryd.f5).isInstance Tryd.pinned.checked.prog (Rows.schemaNamesRow).origin (Rows.schemaNamesRow).targs := of_decide_eq_true (by kernel_rfl)
theorem lr_wrap : (Tryd.f5).isWrapper Tryd.pinned.checked.prog (Rows.schemaNamesRow).wrapper (Rows.schemaNamesRow).mainSum := by
  unfold Func.isWrapper; first | (rw [if_pos (by decide +kernel)]; kernel_rfl) | (rw [if_neg (by decide +kernel)]; exact ⟨rfl, rfl⟩)

theorem law_row : Rows.SchemaNamesSaid :=
  OpenClaim.holds_of_wide 5 Tryd.f5 rfl rfl rfl rfl rfl rfl rfl ⟨rfl, rfl, rfl, rfl, rfl⟩ rfl rfl rfl rfl rfl lr_named Tryd.func5 lr_joined lr_inst lr_wrap
    (fun os started H enc _ => law_lifted os started H enc)

theorem law_proved : Rows.SchemaNamesCardSaid :=
  Claim7.holds_tied_plain_at .later [] [.data, .data, .data, .data] true (true, "a622fa0bb9c27611b3dc33e26ee0fe350aa0ad67e8cc6373719303f731c4db8c") true
    law_row (fun _ h => by cases h) lr_wf (fun _ h => by cases h) schemaNames_row_tie rfl ⟨rfl, rfl⟩ lr_main rfl
    (fun f fn hf hfn => by
      obtain rfl : f = 5 := Option.some.inj (lr_named.symm.trans hf) |>.symm
      obtain rfl : fn = Tryd.f5 := (Option.some.inj (Tryd.func5.symm.trans hfn)).symm
      exact ⟨lr_looks, fun j t ht => by
        rw [Tryd.params5] at ht
        have hm : t ∈ [9] := by simpa using Array.mem_of_getElem? ht
        have hall : ([9].all fun u => !Tryd.prog.wantsStandIn u) = true := by kernel_rfl
        exact (show Tryd.prog.wantsStandIn t = false by simpa using List.all_eq_true.1 hall t hm)⟩)
    lr_goes
#print axioms law_proved

end Go.Proofs.YtgehldadfaonbaaDoor
