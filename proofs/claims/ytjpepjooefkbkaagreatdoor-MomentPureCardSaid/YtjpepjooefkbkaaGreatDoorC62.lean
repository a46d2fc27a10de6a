/-
  The theorem proved at the end: the statement MomentPure's tied card holds for this commit's program: whatever the arguments, MomentPure returns true.
-/
import Derived.Test.YtjpepjooefkbkaaGreatDoorH19
import Derived.Test.YtjpepjooefkbkaaGreatDoorZ30
import Derived.Test.YtjpepjooefkbkaaGreatDoorC20
namespace Go.Proofs.YtjpepjooefkbkaaGreatDoor
open Go Go.ChangeMaps Go.ChangeShapes Go.WideShapes Go.ChangeAt Go.RowKit NV
theorem lr_laid : laidOutB Tryz.prog = true := by kernel_rfl
set_option maxRecDepth 100000 in
theorem law_lifted (os : Os) (started : os.Started) (H : Type) (enc : TypeId × Value → H) :
  ReturnsInHanded {} Tryz.checked os 3 .any (fun w args => (Rows.momentPureSpec.pre enc Tryz.prog Tryz.f3 [] false w args ∧ laidMetH Tryz.prog laid3 w) ∧ sizedMet enc Tryz.prog Tryz.f3 (OpenSpec.ofChange Rows.momentPureSpec) false w args)
   (Rows.momentPureSpec.post enc Tryz.prog Tryz.f3 false true false false) := by
 refine handed_both started (by kernel_rfl) Tryz.func3
  (ChangeSpec.witness_shaped (enc := enc) (C := Tryz.checked) (os := os) (X := fun w _ => laidMetH Tryz.prog laid3 w) false (World.doorLaid Tryz.prog 4000 os) #[.slice none 0 0, .slice none 0 0, .string ⟨#[]⟩] 8 rfl (World.shaped_of_RefB (by kernel_rfl) (by kernel_rfl)) (by kernel_rfl) (by kernel_rfl) (by kernel_rfl) (door_met os _)) ?_
 intro W base args ds gs before hval0 hW hsz hL hML
 have hval : ∀ (j : Nat) t v, Tryz.f3.params[j]? = some t → args[j]? = some v → Value.okWide Tryz.prog W .any base t v := hval0
 have hW' := hW
 obtain ⟨p, q, hA0, hV, rfl, hfz, hnd⟩ := hW
 have hA : DataW.TrodAll enc Tryz.prog W 0 (fun _ => true) true Tryz.f3.params.toList args.toList ds p := hA0
 have hsz1 : (DataW.weightsEach Tryz.prog (Tryz.f3.params.toList ++ Rows.momentPureSpec.plain.varTypes Tryz.prog) (ds ++ gs)).all (· ≤ reachBytes) = true := hsz
 rw [Tryz.params3] at hA hval hsz1
 obtain ⟨v0, v1, v2, d0, d1, d2, p0, p1, p2, rfl, rfl, rfl, h0, h1, h2⟩ := trodAll_three hA
 obtain ⟨rfl, rfl⟩ := trodVars_none hV
 have h0k := h0
 obtain ⟨x0a, x0l, x0c, rfl⟩ := okWide_slice Tryz.underlying22 (hval 0 22 v0 rfl rfl)
 obtain ⟨x0f, x0m, x0n, x0s⟩ := open_masses h0
 have h1k := h1
 obtain ⟨x1a, x1l, x1c, rfl⟩ := okWide_slice Tryz.underlying22 (hval 1 22 v1 rfl rfl)
 obtain ⟨x1f, x1m, x1n, x1s⟩ := open_masses h1
 obtain ⟨x2, rfl, rfl, rfl, x2w⟩ := open_string Tryz.underlying23 (hval 2 23 v2 rfl rfl) h2
 clear hA0 hval0
 have hlt : ∀ x ∈ p0 ++ p1, x.block < W.heap.size := fun x hx => hW'.lt x (by simpa using hx)
 refine (pure_any ⟨x0m, x0n, x0s⟩ ⟨x1m, x1n, x1s⟩ (small_of (sized_string hsz1 (j := 2) rfl rfl)) (tab_of_laid hL) hML).mono fun e W' ⟨he, hw⟩ => ?_
 subst he
 refine ⟨_, rfl, _, _, _, [], p0 ++ p1, [], hW', trodAll_mk1 (shut_bool Tryz.underlying4 true), ?_, rfl, hw.frame _, fun h => by cases h⟩
 have hall := trodAll_mk3 (Below.trod lr_laid (by kernel_rfl) (of_decide_eq_true (by kernel_rfl)) h0k hw (fun x hx => hlt x (List.mem_append_left _ hx))) (Below.trod lr_laid (by kernel_rfl) (of_decide_eq_true (by kernel_rfl)) h1k hw (fun x hx => hlt x (List.mem_append_right _ hx))) (shut_string Tryz.underlying23 x2w)
 rw [show p0 ++ (p1 ++ ([] : List MemPlace)) = p0 ++ p1 from by simp] at hall
 exact hall
theorem lr_named : Tryz.prog.funcNamed "privhouse/privhouselaw10.MomentPure" = some 3 := by kernel_rfl
theorem lr_wf : (Rows.momentPureRow).wfByText (OpenSpec.ofChange Rows.momentPureSpec) = true := by kernel_rfl
theorem lr_main : Tryz.pinned.checked.prog.mainIs = some ((true, "b781a16771d1d5af9cf01af722522c5e7ab5694f4f139dbc391379c3c7093a06").1, (true, "b781a16771d1d5af9cf01af722522c5e7ab5694f4f139dbc391379c3c7093a06").2.toList) := by kernel_rfl
theorem lr_looks : true = Tryz.pinned.checked.prog.looks [] := by kernel_rfl
theorem lr_goes : false = (Rows.momentPureRow).goesBy Tryz.pinned.checked.prog := by kernel_rfl
theorem band_t {a b : Bool} (ha : a = true) (hb : b = true) : (a && b) = true := by rw [ha, hb]; rfl
set_option maxHeartbeats 25600000 in
theorem lr_joined : joinedFacts Tryz.pinned.checked.prog 3 Tryz.f3 Rows.momentPureSpec Rows.momentPureRow = true := by
 unfold joinedFacts
 repeat' (with_reducible refine band_t ?_ ?_)
 all_goals as_aux_lemma => kernel_rfl
theorem lr_inst : (Tryz.f3).isInstance Tryz.pinned.checked.prog (Rows.momentPureRow).origin (Rows.momentPureRow).targs := of_decide_eq_true (by kernel_rfl)
theorem lr_wrap : (Tryz.f3).isWrapper Tryz.pinned.checked.prog (Rows.momentPureRow).wrapper (Rows.momentPureRow).mainSum := by
 unfold Func.isWrapper; first | (rw [if_pos (by decide +kernel)]; kernel_rfl) | (rw [if_neg (by decide +kernel)]; exact ⟨rfl, rfl⟩)
theorem law_row : Rows.MomentPureSaid :=
 OpenClaim.holds_of_wide 3 Tryz.f3 rfl rfl rfl rfl rfl rfl rfl ⟨rfl, rfl, rfl, rfl, rfl⟩ rfl rfl rfl rfl rfl lr_named Tryz.func3 lr_joined lr_inst lr_wrap
  (fun os started H enc _ => law_lifted os started H enc)
theorem law_proved : Rows.MomentPureCardSaid :=
 Claim7.holds_tied_plain_at .later [] [.data, .data, .data] true (true, "b781a16771d1d5af9cf01af722522c5e7ab5694f4f139dbc391379c3c7093a06") true
  law_row (fun _ h => by cases h) lr_wf (fun _ h => by cases h) momentPure_row_tie rfl ⟨rfl, rfl⟩ lr_main rfl
  (fun f fn hf hfn => by
   obtain rfl : f = 3 := Option.some.inj (lr_named.symm.trans hf) |>.symm
   obtain rfl : fn = Tryz.f3 := (Option.some.inj (Tryz.func3.symm.trans hfn)).symm
   exact ⟨lr_looks, fun j t ht => by
    rw [Tryz.params3] at ht
    have hm : t ∈ [22, 22, 23] := by simpa using Array.mem_of_getElem? ht
    have hall : ([22, 22, 23].all fun u => !Tryz.prog.wantsStandIn u) = true := by kernel_rfl
    exact (show Tryz.prog.wantsStandIn t = false by simpa using List.all_eq_true.1 hall t hm)⟩)
  lr_goes
end Go.Proofs.YtjpepjooefkbkaaGreatDoor
