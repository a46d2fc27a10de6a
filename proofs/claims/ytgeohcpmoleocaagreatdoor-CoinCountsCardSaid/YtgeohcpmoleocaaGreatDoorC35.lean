/-
  The theorem proved at the end: the statement CoinCounts's tied card holds for this commit's program: whatever the arguments, CoinCounts returns true.
-/
import Derived.Test.YtgeohcpmoleocaaGreatDoorK16
import Derived.Test.YtgeohcpmoleocaaGreatDoorC20
namespace Go.Proofs.YtgeohcpmoleocaaGreatDoor
open Go Go.ChangeMaps Go.ChangeShapes Go.WideShapes Go.ChangeAt Go.RowKit NV

/-- CoinCounts for any text and int. -/
theorem law_any (s : ByteArray) (m : Int) (w : World) (_hm0 : -9223372036854775808 ≤ m) (_hm1 : m ≤ 9223372036854775807) (htab : Tab w) (hm : ML w) (_hs : s.size ≤ 140737488351232) :
    Calls Tryz.prog 12 #[.string s, .int .i64 m] w fun e w' => e = .returned (.bool true) ∧ Below w.heap.size w w' := counts_any s m w htab hm

set_option maxRecDepth 100000 in
theorem law_lifted (os : Os) (started : os.Started) (H : Type) (enc : TypeId × Value → H) :
    ReturnsInHanded {} Tryz.checked os 12 .any (fun w args => (Rows.coinCountsSpec.pre enc Tryz.prog Tryz.f12 [] false w args ∧ laidMetH Tryz.prog laid3 w) ∧ sizedMet enc Tryz.prog Tryz.f12 (OpenSpec.ofChange Rows.coinCountsSpec) false w args)
      (Rows.coinCountsSpec.post enc Tryz.prog Tryz.f12 false true false false) := by
  refine handed_both started (by kernel_rfl) Tryz.func12
    (ChangeSpec.witness_shaped (enc := enc) (C := Tryz.checked) (os := os) (X := fun w _ => laidMetH Tryz.prog laid3 w) false (World.doorLaid Tryz.prog 4000 os) #[.string ⟨#[]⟩, .int .i64 0] 8 rfl (World.shaped_of_RefB (by kernel_rfl) (by kernel_rfl)) (by kernel_rfl) (by kernel_rfl) (by kernel_rfl) (door_met os _)) ?_
  intro W base args ds gs before hval0 hW hsz hL hML
  have hval : ∀ (j : Nat) t v, Tryz.f12.params[j]? = some t → args[j]? = some v → Value.okWide Tryz.prog W .any base t v := hval0
  have hW' := hW
  obtain ⟨p, q, hA0, hV, rfl, hfz, hnd⟩ := hW
  have hA : DataW.TrodAll enc Tryz.prog W 0 (fun _ => true) true Tryz.f12.params.toList args.toList ds p := hA0
  have hsz1 : (DataW.weightsEach Tryz.prog (Tryz.f12.params.toList ++ Rows.coinCountsSpec.plain.varTypes Tryz.prog) (ds ++ gs)).all (· ≤ reachBytes) = true := hsz
  rw [Tryz.params12] at hA hval hsz1
  obtain ⟨v0, v1, d0, d1, p0, p1, rfl, rfl, rfl, h0, h1⟩ := trodAll_two hA
  obtain ⟨rfl, rfl⟩ := trodVars_none hV
  obtain ⟨s, rfl, rfl, rfl, ws⟩ := open_string Tryz.underlying22 (hval 0 22 v0 rfl rfl) h0
  obtain ⟨m, rfl, rfl, rfl, wm⟩ := open_int Tryz.underlying3 (hval 1 3 v1 rfl rfl) h1
  clear hA0 hval0
  refine (law_any s m W (int_range wm).1 (int_range wm).2 (tab_of_laid hL) hML (small_of (sized_string hsz1 (j := 0) rfl rfl))).mono fun e W' ⟨he, hw⟩ => ?_
  subst he
  refine ⟨_, rfl, _, _, _, [], [], [], hW', trodAll_mk1 (shut_bool Tryz.underlying4 true), ?_, rfl, hw.frame _, fun h => by cases h⟩
  exact trodAll_mk2 (shut_string Tryz.underlying22 ws) (shut_int Tryz.underlying3 wm)

theorem lr_named : Tryz.prog.funcNamed "privhouse/privhouselaw04.CoinCounts" = some 12 := by kernel_rfl
theorem lr_wf : (Rows.coinCountsRow).wfByText (OpenSpec.ofChange Rows.coinCountsSpec) = true := by kernel_rfl
theorem lr_main : Tryz.pinned.checked.prog.mainIs = some ((true, "2e109445097e54cdfa14dc9a174719f5ee2562608578e8d888ccdd95fb564e18").1, (true, "2e109445097e54cdfa14dc9a174719f5ee2562608578e8d888ccdd95fb564e18").2.toList) := by kernel_rfl
theorem lr_looks : true = Tryz.pinned.checked.prog.looks [] := by kernel_rfl
theorem lr_goes : false = (Rows.coinCountsRow).goesBy Tryz.pinned.checked.prog := by kernel_rfl
theorem lr_joined : joinedFacts Tryz.pinned.checked.prog 12 Tryz.f12 Rows.coinCountsSpec Rows.coinCountsRow = true := by kernel_rfl
theorem lr_inst : (Tryz.f12).isInstance Tryz.pinned.checked.prog (Rows.coinCountsRow).origin (Rows.coinCountsRow).targs := of_decide_eq_true (by kernel_rfl)
theorem lr_wrap : (Tryz.f12).isWrapper Tryz.pinned.checked.prog (Rows.coinCountsRow).wrapper (Rows.coinCountsRow).mainSum := by
  unfold Func.isWrapper; first | (rw [if_pos (by decide +kernel)]; kernel_rfl) | (rw [if_neg (by decide +kernel)]; exact ⟨rfl, rfl⟩)

theorem law_row : Rows.CoinCountsSaid :=
  OpenClaim.holds_of_wide 12 Tryz.f12 rfl rfl rfl rfl rfl rfl rfl ⟨rfl, rfl, rfl, rfl, rfl⟩ rfl rfl rfl rfl rfl lr_named Tryz.func12 lr_joined lr_inst lr_wrap
    (fun os started H enc _ => law_lifted os started H enc)

theorem law_proved : Rows.CoinCountsCardSaid :=
  Claim7.holds_tied_plain_at .later [] [.data, .data, .data] true (true, "2e109445097e54cdfa14dc9a174719f5ee2562608578e8d888ccdd95fb564e18") true
    law_row (fun _ h => by cases h) lr_wf (fun _ h => by cases h) coinCounts_row_tie rfl ⟨rfl, rfl⟩ lr_main rfl
    (fun f fn hf hfn => by
      obtain rfl : f = 12 := Option.some.inj (lr_named.symm.trans hf) |>.symm
      obtain rfl : fn = Tryz.f12 := (Option.some.inj (Tryz.func12.symm.trans hfn)).symm
      exact ⟨lr_looks, fun j t ht => by
        rw [Tryz.params12] at ht
        have hm : t ∈ [22, 3] := by simpa using Array.mem_of_getElem? ht
        have hall : ([22, 3].all fun u => !Tryz.prog.wantsStandIn u) = true := by kernel_rfl
        exact (show Tryz.prog.wantsStandIn t = false by simpa using List.all_eq_true.1 hall t hm)⟩)
    lr_goes
end Go.Proofs.YtgeohcpmoleocaaGreatDoor
