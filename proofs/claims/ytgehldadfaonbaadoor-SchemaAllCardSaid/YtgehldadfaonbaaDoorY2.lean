/-
  The theorem proved at the end: the statement SchemaAll's tied card holds for this commit's program: whatever the arguments, SchemaAll returns true.
-/
import Derived.Test.YtgehldadfaonbaaDoorAF
import Derived.Test.YtgehldadfaonbaaDoorYC
import Derived.Test.YtgehldadfaonbaaDoorYS
namespace Go.Proofs.YtgehldadfaonbaaDoor
open Go Go.ChangeMaps Go.ChangeShapes Go.WideShapes Go.ChangeAt Go.RowKit

set_option maxRecDepth 100000 in
theorem law_lifted (os : Os) (started : os.Started) (H : Type) (enc : TypeId × Value → H) :
    ReturnsInHanded {} Tryd.checked os 4 .any (fun w args => (Rows.schemaAllSpec.pre enc Tryd.prog Tryd.f4 [] false w args ∧ laidMetH Tryd.prog laid4 w) ∧ sizedMet enc Tryd.prog Tryd.f4 (OpenSpec.ofChange Rows.schemaAllSpec) false w args)
      (Rows.schemaAllSpec.post enc Tryd.prog Tryd.f4 false true false false) := by
  refine handed_all started (by kernel_rfl) Tryd.func4
    (ChangeSpec.witness_shaped (enc := enc) (C := Tryd.checked) (os := os) (X := fun w _ => laidMetH Tryd.prog laid4 w) false (World.doorLaid Tryd.prog 4000 os) #[.slice none 0 0, .string ⟨#[]⟩] 8 rfl (World.shaped_of_RefB (by kernel_rfl) (by kernel_rfl)) (by kernel_rfl) (by kernel_rfl) (by kernel_rfl) (door_met4 os _)) ?_
  intro W base args ds gs before hval0 hW hsz hL hSh
  have hval : ∀ (j : Nat) t v, Tryd.f4.params[j]? = some t → args[j]? = some v → Value.okWide Tryd.prog W .any base t v := hval0
  have hW' := hW
  obtain ⟨p, q, hA0, hV, rfl, hfz, hnd⟩ := hW
  have hA : DataW.TrodAll enc Tryd.prog W 0 (fun _ => true) true Tryd.f4.params.toList args.toList ds p := hA0
  have hsz1 : (DataW.weightsEach Tryd.prog (Tryd.f4.params.toList ++ Rows.schemaAllSpec.plain.varTypes Tryd.prog) (ds ++ gs)).all (· ≤ reachBytes) = true := hsz
  rw [Tryd.params4] at hA hval hsz1
  obtain ⟨v0, v1, d0, d1, p0, p1, rfl, rfl, rfl, h0, h1⟩ := trodAll_two hA
  obtain ⟨rfl, rfl⟩ := trodVars_none hV
  have h0k := h0
  have h0v := (hval 0 32 v0 rfl rfl)
  obtain ⟨x0a, x0n, x0, rfl, x0s, x0o, x0r, x0c⟩ := open_schs h0v h0k
  obtain ⟨x1, rfl, rfl, rfl, x1w⟩ := open_string Tryd.underlying9 (hval 1 9 v1 rfl rfl) h1
  clear hA0 hval0
  have hlt : ∀ x ∈ p0, x.block < W.heap.size := fun x hx => hW'.lt x (by simpa using hx)
  refine (all_law x1 (res_of4 hL) x0s x0o x0r).mono fun e W' ⟨he, hw⟩ => ?_
  subst he
  refine ⟨_, rfl, _, _, _, [], p0, [], hW', trodAll_mk1 (shut_bool Tryd.underlying4 true), ?_, rfl, hw.frame _, fun h => by cases h⟩
  have hall := trodAll_mk2 (Below.trod lr_laid (by kernel_rfl) (of_decide_eq_true (by kernel_rfl)) h0k hw (fun x hx => hlt x hx)) (shut_string Tryd.underlying9 x1w)
  rw [show p0 ++ ([] : List MemPlace) = p0 from by simp] at hall
  exact hall

theorem lr_named : Tryd.prog.funcNamed "privhouse/privhouselaw11.SchemaAll" = some 4 := by kernel_rfl
theorem lr_wf : (Rows.schemaAllRow).wfByText (OpenSpec.ofChange Rows.schemaAllSpec) = true := by kernel_rfl
theorem lr_main : Tryd.pinned.checked.prog.mainIs = some ((true, "a622fa0bb9c27611b3dc33e26ee0fe350aa0ad67e8cc6373719303f731c4db8c").1, (true, "a622fa0bb9c27611b3dc33e26ee0fe350aa0ad67e8cc6373719303f731c4db8c").2.toList) := by kernel_rfl
theorem lr_looks : true = Tryd.pinned.checked.prog.looks [] := by kernel_rfl
theorem lr_goes : false = (Rows.schemaAllRow).goesBy Tryd.pinned.checked.prog := by kernel_rfl
theorem lr_joined : joinedFacts Tryd.pinned.checked.prog 4 Tryd.f4 Rows.schemaAllSpec Rows.schemaAllRow = true := by kernel_rfl
theorem lr_inst : (Tryd.f4).isInstance Tryd.pinned.checked.prog (Rows.schemaAllRow).origin (Rows.schemaAllRow).targs := of_decide_eq_true (by kernel_rfl)
theorem lr_wrap : (Tryd.f4).isWrapper Tryd.pinned.checked.prog (Rows.schemaAllRow).wrapper (Rows.schemaAllRow).mainSum := by
  unfold Func.isWrapper; first | (rw [if_pos (by decide +kernel)]; kernel_rfl) | (rw [if_neg (by decide +kernel)]; exact ⟨rfl, rfl⟩)

theorem law_row : Rows.SchemaAllSaid :=
  OpenClaim.holds_of_wide 4 Tryd.f4 rfl rfl rfl rfl rfl rfl rfl ⟨rfl, rfl, rfl, rfl, rfl⟩ rfl rfl rfl rfl rfl lr_named Tryd.func4 lr_joined lr_inst lr_wrap
    (fun os started H enc _ => law_lifted os started H enc)

theorem law_proved : Rows.SchemaAllCardSaid :=
  Claim7.holds_tied_plain_at .later [] [.data, .data, .data, .data] true (true, "a622fa0bb9c27611b3dc33e26ee0fe350aa0ad67e8cc6373719303f731c4db8c") true
    law_row (fun _ h => by cases h) lr_wf (fun _ h => by cases h) schemaAll_row_tie rfl ⟨rfl, rfl⟩ lr_main rfl
    (fun f fn hf hfn => by
      obtain rfl : f = 4 := Option.some.inj (lr_named.symm.trans hf) |>.symm
      obtain rfl : fn = Tryd.f4 := (Option.some.inj (Tryd.func4.symm.trans hfn)).symm
      exact ⟨lr_looks, fun j t ht => by
        rw [Tryd.params4] at ht
        have hm : t ∈ [32, 9] := by simpa using Array.mem_of_getElem? ht
        have hall : ([32, 9].all fun u => !Tryd.prog.wantsStandIn u) = true := by kernel_rfl
        exact (show Tryd.prog.wantsStandIn t = false by simpa using List.all_eq_true.1 hall t hm)⟩)
    lr_goes
#print axioms law_proved

end Go.Proofs.YtgehldadfaonbaaDoor
