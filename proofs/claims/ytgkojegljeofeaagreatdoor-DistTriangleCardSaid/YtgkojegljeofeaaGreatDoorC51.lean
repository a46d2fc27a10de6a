/-
  The theorem proved at the end: the statement DistTriangle's tied card holds for this commit's program: whatever the arguments, DistTriangle returns true.
-/
import Derived.Test.YtgkojegljeofeaaGreatDoorZ24
import Derived.Test.YtgkojegljeofeaaGreatDoorZ30
import Derived.Test.YtgkojegljeofeaaGreatDoorC20
namespace Go.Proofs.YtgkojegljeofeaaGreatDoor
open Go Go.ChangeMaps Go.ChangeShapes Go.WideShapes Go.ChangeAt Go.RowKit NV

theorem lr_laid : laidOutB Tryz.prog = true := by kernel_rfl

set_option maxRecDepth 100000 in
theorem law_lifted (os : Os) (started : os.Started) (H : Type) (enc : TypeId × Value → H) :
    ReturnsInHanded {} Tryz.checked os 11 .any (fun w args => (Rows.distTriangleSpec.pre enc Tryz.prog Tryz.f11 [] false w args ∧ laidMetH Tryz.prog laid3 w) ∧ sizedMet enc Tryz.prog Tryz.f11 (OpenSpec.ofChange Rows.distTriangleSpec) false w args)
      (Rows.distTriangleSpec.post enc Tryz.prog Tryz.f11 false true false false) := by
  refine handed_both started (by kernel_rfl) Tryz.func11
    (ChangeSpec.witness_shaped (enc := enc) (C := Tryz.checked) (os := os) (X := fun w _ => laidMetH Tryz.prog laid3 w) false (World.doorLaid Tryz.prog 4000 os) #[.slice none 0 0, .slice none 0 0, .slice none 0 0] 8 rfl (World.shaped_of_RefB (by kernel_rfl) (by kernel_rfl)) (by kernel_rfl) (by kernel_rfl) (by kernel_rfl) (door_met os _)) ?_
  intro W base args ds gs before hval0 hW hsz hL hML
  have hval : ∀ (j : Nat) t v, Tryz.f11.params[j]? = some t → args[j]? = some v → Value.okWide Tryz.prog W .any base t v := hval0
  have hW' := hW
  obtain ⟨p, q, hA0, hV, rfl, hfz, hnd⟩ := hW
  have hA : DataW.TrodAll enc Tryz.prog W 0 (fun _ => true) true Tryz.f11.params.toList args.toList ds p := hA0
  have hsz1 : (DataW.weightsEach Tryz.prog (Tryz.f11.params.toList ++ Rows.distTriangleSpec.plain.varTypes Tryz.prog) (ds ++ gs)).all (· ≤ reachBytes) = true := hsz
  rw [Tryz.params11] at hA hval hsz1
  obtain ⟨v0, v1, v2, d0, d1, d2, p0, p1, p2, rfl, rfl, rfl, h0, h1, h2⟩ := trodAll_three hA
  obtain ⟨rfl, rfl⟩ := trodVars_none hV
  have h0k := h0
  obtain ⟨x0a, x0l, x0c, rfl⟩ := okWide_slice Tryz.underlying23 (hval 0 23 v0 rfl rfl)
  obtain ⟨x0f, x0m, x0n, x0s⟩ := open_masses h0
  have h1k := h1
  obtain ⟨x1a, x1l, x1c, rfl⟩ := okWide_slice Tryz.underlying23 (hval 1 23 v1 rfl rfl)
  obtain ⟨x1f, x1m, x1n, x1s⟩ := open_masses h1
  have h2k := h2
  obtain ⟨x2a, x2l, x2c, rfl⟩ := okWide_slice Tryz.underlying23 (hval 2 23 v2 rfl rfl)
  obtain ⟨x2f, x2m, x2n, x2s⟩ := open_masses h2
  clear hA0 hval0
  have hlt : ∀ x ∈ p0 ++ p1 ++ p2, x.block < W.heap.size := fun x hx => hW'.lt x (by simpa using hx)
  refine (tri_any ⟨x0m, x0n, x0s⟩ ⟨x1m, x1n, x1s⟩ ⟨x2m, x2n, x2s⟩ (tab_of_laid hL) hML).mono fun e W' ⟨he, hw⟩ => ?_
  subst he
  refine ⟨_, rfl, _, _, _, [], p0 ++ p1 ++ p2, [], hW', trodAll_mk1 (shut_bool Tryz.underlying4 true), ?_, rfl, hw.frame _, fun h => by cases h⟩
  have hall := trodAll_mk3 (Below.trod lr_laid (by kernel_rfl) (of_decide_eq_true (by kernel_rfl)) h0k hw (fun x hx => hlt x (List.mem_append_left _ (List.mem_append_left _ hx)))) (Below.trod lr_laid (by kernel_rfl) (of_decide_eq_true (by kernel_rfl)) h1k hw (fun x hx => hlt x (List.mem_append_left _ (List.mem_append_right _ hx)))) (Below.trod lr_laid (by kernel_rfl) (of_decide_eq_true (by kernel_rfl)) h2k hw (fun x hx => hlt x (List.mem_append_right _ hx)))
  rw [show p0 ++ (p1 ++ p2) = p0 ++ p1 ++ p2 from by simp] at hall
  exact hall

theorem lr_named : Tryz.prog.funcNamed "privhouse/privhouselaw08.DistTriangle" = some 11 := by kernel_rfl
theorem lr_wf : (Rows.distTriangleRow).wfByText (OpenSpec.ofChange Rows.distTriangleSpec) = true := by kernel_rfl
theorem lr_main : Tryz.pinned.checked.prog.mainIs = some ((true, "af61b61c58acee9369401eb8b52cacae93a74e90acc07b01f67c1d51ffa93fba").1, (true, "af61b61c58acee9369401eb8b52cacae93a74e90acc07b01f67c1d51ffa93fba").2.toList) := by kernel_rfl
theorem lr_looks : false = Tryz.pinned.checked.prog.looks [] := by kernel_rfl
theorem lr_goes : false = (Rows.distTriangleRow).goesBy Tryz.pinned.checked.prog := by kernel_rfl
theorem lr_joined : joinedFacts Tryz.pinned.checked.prog 11 Tryz.f11 Rows.distTriangleSpec Rows.distTriangleRow = true := by kernel_rfl
theorem lr_inst : (Tryz.f11).isInstance Tryz.pinned.checked.prog (Rows.distTriangleRow).origin (Rows.distTriangleRow).targs := of_decide_eq_true (by kernel_rfl)
theorem lr_wrap : (Tryz.f11).isWrapper Tryz.pinned.checked.prog (Rows.distTriangleRow).wrapper (Rows.distTriangleRow).mainSum := by
  unfold Func.isWrapper; first | (rw [if_pos (by decide +kernel)]; kernel_rfl) | (rw [if_neg (by decide +kernel)]; exact ⟨rfl, rfl⟩)

theorem law_row : Rows.DistTriangleSaid :=
  OpenClaim.holds_of_wide 11 Tryz.f11 rfl rfl rfl rfl rfl rfl rfl ⟨rfl, rfl, rfl, rfl, rfl⟩ rfl rfl rfl rfl rfl lr_named Tryz.func11 lr_joined lr_inst lr_wrap
    (fun os started H enc _ => law_lifted os started H enc)

theorem law_proved : Rows.DistTriangleCardSaid :=
  Claim7.holds_tied_plain_at .later [] [.data, .data, .data] true (true, "af61b61c58acee9369401eb8b52cacae93a74e90acc07b01f67c1d51ffa93fba") false
    law_row (fun _ h => by cases h) lr_wf (fun _ h => by cases h) distTriangle_row_tie rfl ⟨rfl, rfl⟩ lr_main rfl
    (fun f fn hf hfn => by
      obtain rfl : f = 11 := Option.some.inj (lr_named.symm.trans hf) |>.symm
      obtain rfl : fn = Tryz.f11 := (Option.some.inj (Tryz.func11.symm.trans hfn)).symm
      exact ⟨lr_looks, fun j t ht => by
        rw [Tryz.params11] at ht
        have hm : t ∈ [23, 23, 23] := by simpa using Array.mem_of_getElem? ht
        have hall : ([23, 23, 23].all fun u => !Tryz.prog.wantsStandIn u) = true := by kernel_rfl
        exact (show Tryz.prog.wantsStandIn t = false by simpa using List.all_eq_true.1 hall t hm)⟩)
    lr_goes
end Go.Proofs.YtgkojegljeofeaaGreatDoor
