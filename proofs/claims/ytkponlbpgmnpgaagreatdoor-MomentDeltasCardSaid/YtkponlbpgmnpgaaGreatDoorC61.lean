/-
  The theorem proved at the end: the statement MomentDeltas's tied card holds for this commit's program: whatever the arguments, MomentDeltas returns true.
-/
import Derived.Test.YtkponlbpgmnpgaaGreatDoorH13
import Derived.Test.YtkponlbpgmnpgaaGreatDoorZ30
import Derived.Test.YtkponlbpgmnpgaaGreatDoorC20
namespace Go.Proofs.YtkponlbpgmnpgaaGreatDoor
open Go Go.ChangeMaps Go.ChangeShapes Go.WideShapes Go.ChangeAt Go.RowKit NV
theorem lr_laid : laidOutB Tryz.prog = true := by kernel_rfl
set_option maxRecDepth 100000 in
theorem law_lifted (os : Os) (started : os.Started) (H : Type) (enc : TypeId × Value → H) :
  ReturnsInHanded {} Tryz.checked os 11 .any (fun w args => (Rows.momentDeltasSpec.pre enc Tryz.prog Tryz.f11 [] false w args ∧ laidMetH Tryz.prog laid3 w) ∧ sizedMet enc Tryz.prog Tryz.f11 (OpenSpec.ofChange Rows.momentDeltasSpec) false w args)
   (Rows.momentDeltasSpec.post enc Tryz.prog Tryz.f11 false true false false) := by
 refine handed_both started (by kernel_rfl) Tryz.func11
  (ChangeSpec.witness_shaped (enc := enc) (C := Tryz.checked) (os := os) (X := fun w _ => laidMetH Tryz.prog laid3 w) false (World.doorLaid Tryz.prog 4000 os) #[.slice none 0 0, .slice none 0 0, .string ⟨#[]⟩, .int .i64 0] 8 rfl (World.shaped_of_RefB (by kernel_rfl) (by kernel_rfl)) (by kernel_rfl) (by kernel_rfl) (by kernel_rfl) (door_met os _)) ?_
 intro W base args ds gs before hval0 hW hsz hL hML
 have hval : ∀ (j : Nat) t v, Tryz.f11.params[j]? = some t → args[j]? = some v → Value.okWide Tryz.prog W .any base t v := hval0
 have hW' := hW
 obtain ⟨p, q, hA0, hV, rfl, hfz, hnd⟩ := hW
 have hA : DataW.TrodAll enc Tryz.prog W 0 (fun _ => true) true Tryz.f11.params.toList args.toList ds p := hA0
 have hsz1 : (DataW.weightsEach Tryz.prog (Tryz.f11.params.toList ++ Rows.momentDeltasSpec.plain.varTypes Tryz.prog) (ds ++ gs)).all (· ≤ reachBytes) = true := hsz
 rw [Tryz.params11] at hA hval hsz1
 obtain ⟨v0, v1, v2, v3, d0, d1, d2, d3, p0, p1, p2, p3, rfl, rfl, rfl, h0, h1, h2, h3⟩ := trodAll_four hA
 obtain ⟨rfl, rfl⟩ := trodVars_none hV
 have h0k := h0
 obtain ⟨x0a, x0l, x0c, rfl⟩ := okWide_slice Tryz.underlying37 (hval 0 37 v0 rfl rfl)
 obtain ⟨x0f, x0m, x0n, x0s⟩ := open_masses h0
 have h1k := h1
 obtain ⟨x1a, x1l, x1c, rfl⟩ := okWide_slice Tryz.underlying37 (hval 1 37 v1 rfl rfl)
 obtain ⟨x1f, x1m, x1n, x1s⟩ := open_masses h1
 obtain ⟨x2, rfl, rfl, rfl, x2w⟩ := open_string Tryz.underlying22 (hval 2 22 v2 rfl rfl) h2
 obtain ⟨x3, rfl, rfl, rfl, x3w⟩ := open_int Tryz.underlying3 (hval 3 3 v3 rfl rfl) h3
 clear hA0 hval0
 have hlt : ∀ x ∈ p0 ++ p1, x.block < W.heap.size := fun x hx => hW'.lt x (by simpa using hx)
 refine (deltas_any ⟨x0m, x0n, x0s⟩ ⟨x1m, x1n, x1s⟩ (small_of (sized_string hsz1 (j := 2) rfl rfl)) (int_range x3w).1 (int_range x3w).2 (tab_of_laid hL) hML).mono fun e W' ⟨he, hw⟩ => ?_
 subst he
 refine ⟨_, rfl, _, _, _, [], p0 ++ p1, [], hW', trodAll_mk1 (shut_bool Tryz.underlying4 true), ?_, rfl, hw.frame _, fun h => by cases h⟩
 have hall := trodAll_mk4 (Below.trod lr_laid (by kernel_rfl) (of_decide_eq_true (by kernel_rfl)) h0k hw (fun x hx => hlt x (List.mem_append_left _ hx))) (Below.trod lr_laid (by kernel_rfl) (of_decide_eq_true (by kernel_rfl)) h1k hw (fun x hx => hlt x (List.mem_append_right _ hx))) (shut_string Tryz.underlying22 x2w) (shut_int Tryz.underlying3 x3w)
 rw [show p0 ++ (p1 ++ (([] : List MemPlace) ++ ([] : List MemPlace))) = p0 ++ p1 from by simp] at hall
 exact hall
theorem lr_named : Tryz.prog.funcNamed "privhouse/privhouselaw10.MomentDeltas" = some 11 := by kernel_rfl
theorem lr_wf : (Rows.momentDeltasRow).wfByText (OpenSpec.ofChange Rows.momentDeltasSpec) = true := by kernel_rfl
theorem lr_main : Tryz.pinned.checked.prog.mainIs = some ((true, "6dfa5268e05f8b3727006f59ffbba5b97d8dff33fb9fbadf899d305d5220ee0e").1, (true, "6dfa5268e05f8b3727006f59ffbba5b97d8dff33fb9fbadf899d305d5220ee0e").2.toList) := by kernel_rfl
theorem lr_looks : true = Tryz.pinned.checked.prog.looks [] := by kernel_rfl
theorem lr_goes : false = (Rows.momentDeltasRow).goesBy Tryz.pinned.checked.prog := by kernel_rfl
theorem band_t {a b : Bool} (ha : a = true) (hb : b = true) : (a && b) = true := by rw [ha, hb]; rfl
set_option maxHeartbeats 25600000 in
theorem lr_joined : joinedFacts Tryz.pinned.checked.prog 11 Tryz.f11 Rows.momentDeltasSpec Rows.momentDeltasRow = true := by
 unfold joinedFacts
 repeat' (with_reducible refine band_t ?_ ?_)
 all_goals as_aux_lemma => kernel_rfl
theorem lr_inst : (Tryz.f11).isInstance Tryz.pinned.checked.prog (Rows.momentDeltasRow).origin (Rows.momentDeltasRow).targs := of_decide_eq_true (by kernel_rfl)
theorem lr_wrap : (Tryz.f11).isWrapper Tryz.pinned.checked.prog (Rows.momentDeltasRow).wrapper (Rows.momentDeltasRow).mainSum := by
 unfold Func.isWrapper; first | (rw [if_pos (by decide +kernel)]; kernel_rfl) | (rw [if_neg (by decide +kernel)]; exact ⟨rfl, rfl⟩)
theorem law_row : Rows.MomentDeltasSaid :=
 OpenClaim.holds_of_wide 11 Tryz.f11 rfl rfl rfl rfl rfl rfl rfl ⟨rfl, rfl, rfl, rfl, rfl⟩ rfl rfl rfl rfl rfl lr_named Tryz.func11 lr_joined lr_inst lr_wrap
  (fun os started H enc _ => law_lifted os started H enc)
theorem law_proved : Rows.MomentDeltasCardSaid :=
 Claim7.holds_tied_plain_at .later [] [.data, .data, .data] true (true, "6dfa5268e05f8b3727006f59ffbba5b97d8dff33fb9fbadf899d305d5220ee0e") true
  law_row (fun _ h => by cases h) lr_wf (fun _ h => by cases h) momentDeltas_row_tie rfl ⟨rfl, rfl⟩ lr_main rfl
  (fun f fn hf hfn => by
   obtain rfl : f = 11 := Option.some.inj (lr_named.symm.trans hf) |>.symm
   obtain rfl : fn = Tryz.f11 := (Option.some.inj (Tryz.func11.symm.trans hfn)).symm
   exact ⟨lr_looks, fun j t ht => by
    rw [Tryz.params11] at ht
    have hm : t ∈ [37, 37, 22, 3] := by simpa using Array.mem_of_getElem? ht
    have hall : ([37, 37, 22, 3].all fun u => !Tryz.prog.wantsStandIn u) = true := by kernel_rfl
    exact (show Tryz.prog.wantsStandIn t = false by simpa using List.all_eq_true.1 hall t hm)⟩)
  lr_goes
#print axioms law_proved
end Go.Proofs.YtkponlbpgmnpgaaGreatDoor
