/-
  The theorem proved at the end: the statement PickScaled's tied card holds for this commit's program: whatever the arguments, PickScaled returns true.
-/
import Derived.Test.YtgnmhijffppkoaaGreatDoorE20
import Derived.Test.YtgnmhijffppkoaaGreatDoorEN
import Derived.Test.YtgnmhijffppkoaaGreatDoorC20
namespace Go.Proofs.YtgnmhijffppkoaaGreatDoor
open Go Go.ChangeMaps Go.ChangeShapes Go.WideShapes Go.ChangeAt Go.RowKit NV

/-- PickScaled for any weights, texts and ints. -/
theorem law_any (q0 : Option Addr) (ql qc : Nat) (qf : Nat → ByteArray) (s t : ByteArray) (m n : Int) (w : World) (_hm0 : -9223372036854775808 ≤ m) (_hm1 : m ≤ 9223372036854775807) (hn0 : -9223372036854775808 ≤ n) (hn1 : n ≤ 9223372036854775807) (htab : Tab w) (_hm : ML w) (hq : PRow w q0 ql qf ∧ ql ≤ qc ∧ qc ≤ maxLen ∧ ∀ j, (qf j).size ≤ maxLen) (_hs : s.size ≤ 140737488351232) (_ht : t.size ≤ 140737488351232) :
    Calls Tryz.prog 9 #[.slice q0 ql qc, .string s, .string t, .int .i64 m, .int .i64 n] w fun e w' => e = .returned (.bool true) ∧ Below w.heap.size w w' := pscaled_any hq.1 (by have h1 := hq.2.1; have h2 := hq.2.2.1; unfold maxLen at h2; omega) htab hn0 hn1

theorem lr_laid : laidOutB Tryz.prog = true := by kernel_rfl

set_option maxRecDepth 100000 in
theorem law_lifted (os : Os) (started : os.Started) (H : Type) (enc : TypeId × Value → H) :
    ReturnsInHanded {} Tryz.checked os 9 .any (fun w args => (Rows.pickScaledSpec.pre enc Tryz.prog Tryz.f9 [] false w args ∧ laidMetH Tryz.prog laid3 w) ∧ sizedMet enc Tryz.prog Tryz.f9 (OpenSpec.ofChange Rows.pickScaledSpec) false w args)
      (Rows.pickScaledSpec.post enc Tryz.prog Tryz.f9 false true false false) := by
  refine handed_both started (by kernel_rfl) Tryz.func9
    (ChangeSpec.witness_shaped (enc := enc) (C := Tryz.checked) (os := os) (X := fun w _ => laidMetH Tryz.prog laid3 w) false (World.doorLaid Tryz.prog 4000 os) #[.slice none 0 0, .string ⟨#[]⟩, .string ⟨#[]⟩, .int .i64 0, .int .i64 0] 8 rfl (World.shaped_of_RefB (by kernel_rfl) (by kernel_rfl)) (by kernel_rfl) (by kernel_rfl) (by kernel_rfl) (door_met os _)) ?_
  intro W base args ds gs before hval0 hW hsz hL hML
  have hval : ∀ (j : Nat) t v, Tryz.f9.params[j]? = some t → args[j]? = some v → Value.okWide Tryz.prog W .any base t v := hval0
  have hW' := hW
  obtain ⟨p, q, hA0, hV, rfl, hfz, hnd⟩ := hW
  have hA : DataW.TrodAll enc Tryz.prog W 0 (fun _ => true) true Tryz.f9.params.toList args.toList ds p := hA0
  have hsz1 : (DataW.weightsEach Tryz.prog (Tryz.f9.params.toList ++ Rows.pickScaledSpec.plain.varTypes Tryz.prog) (ds ++ gs)).all (· ≤ reachBytes) = true := hsz
  rw [Tryz.params9] at hA hval hsz1
  obtain ⟨v0, v1, v2, v3, v4, d0, d1, d2, d3, d4, p0, p1, p2, p3, p4, rfl, rfl, rfl, h0, h1, h2, h3, h4⟩ := trodAll_five hA
  obtain ⟨rfl, rfl⟩ := trodVars_none hV
  have h0k := h0
  obtain ⟨q0, ql, qc, rfl⟩ := okWide_slice Tryz.underlying56 (hval 0 56 v0 rfl rfl)
  obtain ⟨qf, wq⟩ := open_nums h0
  obtain ⟨s, rfl, rfl, rfl, ws⟩ := open_string Tryz.underlying23 (hval 1 23 v1 rfl rfl) h1
  obtain ⟨t, rfl, rfl, rfl, wt⟩ := open_string Tryz.underlying22 (hval 2 22 v2 rfl rfl) h2
  obtain ⟨m, rfl, rfl, rfl, wm⟩ := open_int Tryz.underlying3 (hval 3 3 v3 rfl rfl) h3
  obtain ⟨n, rfl, rfl, rfl, wn⟩ := open_int Tryz.underlying3 (hval 4 3 v4 rfl rfl) h4
  clear hA0 hval0
  have hlt : ∀ x ∈ p0, x.block < W.heap.size := fun x hx => hW'.lt x (by simpa using hx)
  refine (law_any q0 ql qc qf s t m n W (int_range wm).1 (int_range wm).2 (int_range wn).1 (int_range wn).2 (tab_of_laid hL) hML wq (small_of (sized_string hsz1 (j := 1) rfl rfl)) (small_of (sized_string hsz1 (j := 2) rfl rfl))).mono fun e W' ⟨he, hw⟩ => ?_
  subst he
  refine ⟨_, rfl, _, _, _, [], p0, [], hW', trodAll_mk1 (shut_bool Tryz.underlying4 true), ?_, rfl, hw.frame _, fun h => by cases h⟩
  have ht := trodAll_mk5 (Below.trod lr_laid (by kernel_rfl) (of_decide_eq_true (by kernel_rfl)) h0k hw (fun x hx => hlt x hx)) (shut_string Tryz.underlying23 ws) (shut_string Tryz.underlying22 wt) (shut_int Tryz.underlying3 wm) (shut_int Tryz.underlying3 wn)
  rw [show p0 ++ ([] ++ ([] ++ ([] ++ ([] : List MemPlace)))) = p0 from List.append_nil p0] at ht
  exact ht

theorem lr_named : Tryz.prog.funcNamed "privhouse/privhouselaw05.PickScaled" = some 9 := by kernel_rfl
theorem lr_wf : (Rows.pickScaledRow).wfByText (OpenSpec.ofChange Rows.pickScaledSpec) = true := by kernel_rfl
theorem lr_main : Tryz.pinned.checked.prog.mainIs = some ((true, "bbb478371783f521d1bab0772faa26915c71edac001eaad0f6c2ef7d415d1817").1, (true, "bbb478371783f521d1bab0772faa26915c71edac001eaad0f6c2ef7d415d1817").2.toList) := by kernel_rfl
theorem lr_looks : true = Tryz.pinned.checked.prog.looks [] := by kernel_rfl
theorem lr_goes : false = (Rows.pickScaledRow).goesBy Tryz.pinned.checked.prog := by kernel_rfl
theorem lr_joined : joinedFacts Tryz.pinned.checked.prog 9 Tryz.f9 Rows.pickScaledSpec Rows.pickScaledRow = true := by kernel_rfl
theorem lr_inst : (Tryz.f9).isInstance Tryz.pinned.checked.prog (Rows.pickScaledRow).origin (Rows.pickScaledRow).targs := of_decide_eq_true (by kernel_rfl)
theorem lr_wrap : (Tryz.f9).isWrapper Tryz.pinned.checked.prog (Rows.pickScaledRow).wrapper (Rows.pickScaledRow).mainSum := by
  unfold Func.isWrapper; first | (rw [if_pos (by decide +kernel)]; kernel_rfl) | (rw [if_neg (by decide +kernel)]; exact ⟨rfl, rfl⟩)

theorem law_row : Rows.PickScaledSaid :=
  OpenClaim.holds_of_wide 9 Tryz.f9 rfl rfl rfl rfl rfl rfl rfl ⟨rfl, rfl, rfl, rfl, rfl⟩ rfl rfl rfl rfl rfl lr_named Tryz.func9 lr_joined lr_inst lr_wrap
    (fun os started H enc _ => law_lifted os started H enc)

theorem law_proved : Rows.PickScaledCardSaid :=
  Claim7.holds_tied_plain_at .later [] [.data, .data, .data] true (true, "bbb478371783f521d1bab0772faa26915c71edac001eaad0f6c2ef7d415d1817") true
    law_row (fun _ h => by cases h) lr_wf (fun _ h => by cases h) pickScaled_row_tie rfl ⟨rfl, rfl⟩ lr_main rfl
    (fun f fn hf hfn => by
      obtain rfl : f = 9 := Option.some.inj (lr_named.symm.trans hf) |>.symm
      obtain rfl : fn = Tryz.f9 := (Option.some.inj (Tryz.func9.symm.trans hfn)).symm
      exact ⟨lr_looks, fun j t ht => by
        rw [Tryz.params9] at ht
        have hm : t ∈ [56, 23, 22, 3, 3] := by simpa using Array.mem_of_getElem? ht
        have hall : ([56, 23, 22, 3, 3].all fun u => !Tryz.prog.wantsStandIn u) = true := by kernel_rfl
        exact (show Tryz.prog.wantsStandIn t = false by simpa using List.all_eq_true.1 hall t hm)⟩)
    lr_goes
end Go.Proofs.YtgnmhijffppkoaaGreatDoor
