/-
  The theorem proved at the end: the statement SchemaInverse's tied card holds for this commit's program: whatever the arguments, SchemaInverse returns true.
-/
import Derived.Test.YtgehldadfaonbaaDoorKI
import Derived.Test.YtgehldadfaonbaaDoorYC
import Derived.Test.YtgehldadfaonbaaDoorYW
import Derived.Test.YtgehldadfaonbaaDoorYS
namespace Go.Proofs.YtgehldadfaonbaaDoor
open Go Go.ChangeMaps Go.ChangeShapes Go.WideShapes Go.ChangeAt Go.RowKit

set_option maxRecDepth 100000 in
theorem law_lifted (os : Os) (started : os.Started) (H : Type) (enc : TypeId × Value → H) :
    ReturnsInHanded {} Tryd.checked os 8 .any (fun w args => (Rows.schemaInverseSpec.pre enc Tryd.prog Tryd.f8 [] false w args ∧ laidMetH Tryd.prog laid6 w) ∧ sizedMet enc Tryd.prog Tryd.f8 (OpenSpec.ofChange Rows.schemaInverseSpec) false w args)
      (Rows.schemaInverseSpec.post enc Tryd.prog Tryd.f8 false true false false) := by
  refine handed_all started (by kernel_rfl) Tryd.func8
    (ChangeSpec.witness_shaped (enc := enc) (C := Tryd.checked) (os := os) (X := fun w _ => laidMetH Tryd.prog laid6 w) false (World.doorLaid Tryd.prog 4000 os) #[.agg #[.string ⟨#[]⟩, .int .i64 0, .int .i64 0, .slice none 0 0], .int .i64 0, .string ⟨#[]⟩] 8 rfl (World.shaped_of_RefB (by kernel_rfl) (by kernel_rfl)) (by kernel_rfl) (by kernel_rfl) (by kernel_rfl) (door_met6 os _)) ?_
  intro W base args ds gs before hval0 hW hsz hL hSh
  have hval : ∀ (j : Nat) t v, Tryd.f8.params[j]? = some t → args[j]? = some v → Value.okWide Tryd.prog W .any base t v := hval0
  have hW' := hW
  obtain ⟨p, q, hA0, hV, rfl, hfz, hnd⟩ := hW
  have hA : DataW.TrodAll enc Tryd.prog W 0 (fun _ => true) true Tryd.f8.params.toList args.toList ds p := hA0
  have hsz1 : (DataW.weightsEach Tryd.prog (Tryd.f8.params.toList ++ Rows.schemaInverseSpec.plain.varTypes Tryd.prog) (ds ++ gs)).all (· ≤ reachBytes) = true := hsz
  rw [Tryd.params8] at hA hval hsz1
  obtain ⟨v0, v1, v2, d0, d1, d2, p0, p1, p2, rfl, rfl, rfl, h0, h1, h2⟩ := trodAll_three hA
  obtain ⟨rfl, rfl⟩ := trodVars_none hV
  have h0k := h0
  have h0v := (hval 0 44 v0 rfl rfl)
  obtain ⟨x0, rfl, x0o, x0c⟩ := open_col h0v h0k
  obtain ⟨x1, rfl, rfl, rfl, x1w⟩ := open_int Tryd.underlying3 (hval 1 3 v1 rfl rfl) h1
  obtain ⟨x2, rfl, rfl, rfl, x2w⟩ := open_string Tryd.underlying9 (hval 2 9 v2 rfl rfl) h2
  clear hA0 hval0
  have hlt : ∀ x ∈ p0, x.block < W.heap.size := fun x hx => hW'.lt x (by simpa using hx)
  refine (inverse_any x1 x2 (wl_of6 hL) x0o (int_range x1w).1 (int_range x1w).2 (small_of (sized_string hsz1 (j := 2) rfl rfl))).mono fun e W' ⟨he, hw⟩ => ?_
  subst he
  refine ⟨_, rfl, _, _, _, [], p0, [], hW', trodAll_mk1 (shut_bool Tryd.underlying4 true), ?_, rfl, hw.frame _, fun h => by cases h⟩
  have hall := trodAll_mk3 (Below.trod lr_laid (by kernel_rfl) (of_decide_eq_true (by kernel_rfl)) h0k hw (fun x hx => hlt x hx)) (shut_int Tryd.underlying3 x1w) (shut_string Tryd.underlying9 x2w)
  rw [show p0 ++ (([] : List MemPlace) ++ ([] : List MemPlace)) = p0 from by simp] at hall
  exact hall

theorem lr_named : Tryd.prog.funcNamed "privhouse/privhouselaw11.SchemaInverse" = some 8 := by kernel_rfl
theorem lr_wf : (Rows.schemaInverseRow).wfByText (OpenSpec.ofChange Rows.schemaInverseSpec) = true := by kernel_rfl
theorem lr_main : Tryd.pinned.checked.prog.mainIs = some ((true, "a622fa0bb9c27611b3dc33e26ee0fe350aa0ad67e8cc6373719303f731c4db8c").1, (true, "a622fa0bb9c27611b3dc33e26ee0fe350aa0ad67e8cc6373719303f731c4db8c").2.toList) := by kernel_rfl
theorem lr_looks : true = Tryd.pinned.checked.prog.looks [] := by kernel_rfl
theorem lr_goes : false = (Rows.schemaInverseRow).goesBy Tryd.pinned.checked.prog := by kernel_rfl
theorem lr_joined : joinedFacts Tryd.pinned.checked.prog 8 Tryd.f8 Rows.schemaInverseSpec Rows.schemaInverseRow = true := by kernel_rfl
theorem lr_inst : (Tryd.f8).isInstance Tryd.pinned.checked.prog (Rows.schemaInverseRow).origin (Rows.schemaInverseRow).targs := of_decide_eq_true (by kernel_rfl)
theorem lr_wrap : (Tryd.f8).isWrapper Tryd.pinned.checked.prog (Rows.schemaInverseRow).wrapper (Rows.schemaInverseRow).mainSum := by
  unfold Func.isWrapper; first | (rw [if_pos (by decide +kernel)]; kernel_rfl) | (rw [if_neg (by decide +kernel)]; exact ⟨rfl, rfl⟩)

theorem law_row : Rows.SchemaInverseSaid :=
  OpenClaim.holds_of_wide 8 Tryd.f8 rfl rfl rfl rfl rfl rfl rfl ⟨rfl, rfl, rfl, rfl, rfl⟩ rfl rfl rfl rfl rfl lr_named Tryd.func8 lr_joined lr_inst lr_wrap
    (fun os started H enc _ => law_lifted os started H enc)

theorem law_proved : Rows.SchemaInverseCardSaid :=
  Claim7.holds_tied_plain_at .later [] [.data, .data, .data, .sentinel, .sentinel, .data] true (true, "a622fa0bb9c27611b3dc33e26ee0fe350aa0ad67e8cc6373719303f731c4db8c") true
    law_row (fun _ h => by cases h) lr_wf (fun _ h => by cases h) schemaInverse_row_tie rfl ⟨rfl, rfl⟩ lr_main rfl
    (fun f fn hf hfn => by
      obtain rfl : f = 8 := Option.some.inj (lr_named.symm.trans hf) |>.symm
      obtain rfl : fn = Tryd.f8 := (Option.some.inj (Tryd.func8.symm.trans hfn)).symm
      exact ⟨lr_looks, fun j t ht => by
        rw [Tryd.params8] at ht
        have hm : t ∈ [44, 3, 9] := by simpa using Array.mem_of_getElem? ht
        have hall : ([44, 3, 9].all fun u => !Tryd.prog.wantsStandIn u) = true := by kernel_rfl
        exact (show Tryd.prog.wantsStandIn t = false by simpa using List.all_eq_true.1 hall t hm)⟩)
    lr_goes
#print axioms law_proved

end Go.Proofs.YtgehldadfaonbaaDoor
