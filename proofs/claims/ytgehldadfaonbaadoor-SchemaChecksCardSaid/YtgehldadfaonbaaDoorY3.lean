/-
  The theorem proved at the end: the statement SchemaChecks's tied card holds for this commit's program: whatever the arguments, SchemaChecks returns true.
-/
import Derived.Test.YtgehldadfaonbaaDoorCF
import Derived.Test.YtgehldadfaonbaaDoorYC
import Derived.Test.YtgehldadfaonbaaDoorYS
namespace Go.Proofs.YtgehldadfaonbaaDoor
open Go Go.ChangeMaps Go.ChangeShapes Go.WideShapes Go.ChangeAt Go.RowKit

set_option maxRecDepth 100000 in
theorem law_lifted (os : Os) (started : os.Started) (H : Type) (enc : TypeId × Value → H) :
    ReturnsInHanded {} Tryd.checked os 3 .any (fun w args => (Rows.schemaChecksSpec.pre enc Tryd.prog Tryd.f3 [] false w args ∧ laidMetH Tryd.prog laid4 w) ∧ sizedMet enc Tryd.prog Tryd.f3 (OpenSpec.ofChange Rows.schemaChecksSpec) false w args)
      (Rows.schemaChecksSpec.post enc Tryd.prog Tryd.f3 false true false false) := by
  refine handed_all started (by kernel_rfl) Tryd.func3
    (ChangeSpec.witness_shaped (enc := enc) (C := Tryd.checked) (os := os) (X := fun w _ => laidMetH Tryd.prog laid4 w) false (World.doorLaid Tryd.prog 4000 os) #[.agg #[.string ⟨#[]⟩, .bool false, .int .i64 0, .slice none 0 0]] 8 rfl (World.shaped_of_RefB (by kernel_rfl) (by kernel_rfl)) (by kernel_rfl) (by kernel_rfl) (by kernel_rfl) (door_met4 os _)) ?_
  intro W base args ds gs before hval0 hW hsz hL hSh
  have hval : ∀ (j : Nat) t v, Tryd.f3.params[j]? = some t → args[j]? = some v → Value.okWide Tryd.prog W .any base t v := hval0
  have hW' := hW
  obtain ⟨p, q, hA0, hV, rfl, hfz, hnd⟩ := hW
  have hA : DataW.TrodAll enc Tryd.prog W 0 (fun _ => true) true Tryd.f3.params.toList args.toList ds p := hA0
  have hsz1 : (DataW.weightsEach Tryd.prog (Tryd.f3.params.toList ++ Rows.schemaChecksSpec.plain.varTypes Tryd.prog) (ds ++ gs)).all (· ≤ reachBytes) = true := hsz
  rw [Tryd.params3] at hA hval hsz1
  obtain ⟨v0, d0, rfl, rfl, h0⟩ := trodAll_one hA
  obtain ⟨rfl, rfl⟩ := trodVars_none hV
  have h0k := h0
  have h0v := (hval 0 24 v0 rfl rfl)
  obtain ⟨x0, rfl, x0o, x0c⟩ := open_sch h0v h0k
  clear hA0 hval0
  have hlt : ∀ x ∈ p, x.block < W.heap.size := fun x hx => hW'.lt x (by simpa using hx)
  refine (checks_law (res_of4 hL) x0o x0c).mono fun e W' ⟨he, hw⟩ => ?_
  subst he
  refine ⟨_, rfl, _, _, _, [], p, [], hW', trodAll_mk1 (shut_bool Tryd.underlying4 true), ?_, rfl, hw.frame _, fun h => by cases h⟩
  exact trodAll_mk1 (Below.trod lr_laid (by kernel_rfl) (of_decide_eq_true (by kernel_rfl)) h0k hw (fun x hx => hlt x hx))

theorem lr_named : Tryd.prog.funcNamed "privhouse/privhouselaw11.SchemaChecks" = some 3 := by kernel_rfl
theorem lr_wf : (Rows.schemaChecksRow).wfByText (OpenSpec.ofChange Rows.schemaChecksSpec) = true := by kernel_rfl
theorem lr_main : Tryd.pinned.checked.prog.mainIs = some ((true, "a622fa0bb9c27611b3dc33e26ee0fe350aa0ad67e8cc6373719303f731c4db8c").1, (true, "a622fa0bb9c27611b3dc33e26ee0fe350aa0ad67e8cc6373719303f731c4db8c").2.toList) := by kernel_rfl
theorem lr_looks : true = Tryd.pinned.checked.prog.looks [] := by kernel_rfl
theorem lr_goes : false = (Rows.schemaChecksRow).goesBy Tryd.pinned.checked.prog := by kernel_rfl
theorem lr_joined : joinedFacts Tryd.pinned.checked.prog 3 Tryd.f3 Rows.schemaChecksSpec Rows.schemaChecksRow = true := by kernel_rfl
theorem lr_inst : (Tryd.f3).isInstance Tryd.pinned.checked.prog (Rows.schemaChecksRow).origin (Rows.schemaChecksRow).targs := of_decide_eq_true (by kernel_rfl)
theorem lr_wrap : (Tryd.f3).isWrapper Tryd.pinned.checked.prog (Rows.schemaChecksRow).wrapper (Rows.schemaChecksRow).mainSum := by
  unfold Func.isWrapper; first | (rw [if_pos (by decide +kernel)]; kernel_rfl) | (rw [if_neg (by decide +kernel)]; exact ⟨rfl, rfl⟩)

theorem law_row : Rows.SchemaChecksSaid :=
  OpenClaim.holds_of_wide 3 Tryd.f3 rfl rfl rfl rfl rfl rfl rfl ⟨rfl, rfl, rfl, rfl, rfl⟩ rfl rfl rfl rfl rfl lr_named Tryd.func3 lr_joined lr_inst lr_wrap
    (fun os started H enc _ => law_lifted os started H enc)

theorem law_proved : Rows.SchemaChecksCardSaid :=
  Claim7.holds_tied_plain_at .later [] [.data, .data, .data, .data] true (true, "a622fa0bb9c27611b3dc33e26ee0fe350aa0ad67e8cc6373719303f731c4db8c") true
    law_row (fun _ h => by cases h) lr_wf (fun _ h => by cases h) schemaChecks_row_tie rfl ⟨rfl, rfl⟩ lr_main rfl
    (fun f fn hf hfn => by
      obtain rfl : f = 3 := Option.some.inj (lr_named.symm.trans hf) |>.symm
      obtain rfl : fn = Tryd.f3 := (Option.some.inj (Tryd.func3.symm.trans hfn)).symm
      exact ⟨lr_looks, fun j t ht => by
        rw [Tryd.params3] at ht
        have hm : t ∈ [24] := by simpa using Array.mem_of_getElem? ht
        have hall : ([24].all fun u => !Tryd.prog.wantsStandIn u) = true := by kernel_rfl
        exact (show Tryd.prog.wantsStandIn t = false by simpa using List.all_eq_true.1 hall t hm)⟩)
    lr_goes
#print axioms law_proved

end Go.Proofs.YtgehldadfaonbaaDoor
