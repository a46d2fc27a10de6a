/-
  The theorem proved at the end: the statement BellCounts's tied card holds for this commit's program: whatever the arguments, BellCounts returns true.
-/
import Derived.Test.YteojekiocecdnaaGreatDoorJC
import Derived.Test.YteojekiocecdnaaGreatDoorC29
import Derived.Stop.LaidErr
import Derived.LaidLaws
namespace Go.Proofs.YteojekiocecdnaaGreatDoor
open Go Go.ChangeMaps Go.ChangeShapes Go.WideShapes Go.ChangeAt Go.RowKit NV

theorem lr_starE : "*" ++ "errors.errorString" = "*errors.errorString" := by decide
theorem lr_rowE (u : TypeId) (h : Tryz.prog.typeName? 3 u = some "*errors.errorString") : u = 336 :=
  typeName_ptr_named (nm := "errors.errorString") (by rw [lr_starE]; kernel_rfl) (by kernel_rfl) (by decide) u (by rw [lr_starE]; exact h)
theorem sv_of_laid5 {W : World} (h : laidMetH Tryz.prog laid5 W) : SV W := by
  rw [MakeChecks.laidMetH_plain _ _ _ (by kernel_rfl)] at h
  have hg : Tryz.prog.globalNamed "strconv.ErrSyntax" = some 2 := by kernel_rfl
  obtain ⟨a0, s0, hv0, _, _, _⟩ := laid_sentinel h.tail.tail.tail.tail hg (by kernel_rfl) Tryz.underlying235 lr_rowE Tryz.underlying336 Tryz.underlying338 rfl rfl Tryz.underlying9 (by kernel_rfl) (by kernel_rfl)
  have hc := World.var?_cell hg hv0 0
  refine ⟨_, hc, .inr ⟨_, _, rfl⟩, ?_⟩
  exact World.block_lt_of_cell? W _ (show W.cell? _ = some _ from hc)

/-- BellCounts for any text and ints. -/
theorem law_any (s : ByteArray) (m n : Int) (w : World) (_hm0 : -9223372036854775808 ≤ m) (_hm1 : m ≤ 9223372036854775807) (_hn0 : -9223372036854775808 ≤ n) (_hn1 : n ≤ 9223372036854775807) (htab : Tab w) (hm : ML w) (hsv : SV w) (_hs : s.size ≤ 140737488351232) :
    Calls Tryz.prog 7 #[.string s, .int .i64 m, .int .i64 n] w fun e w' => e = .returned (.bool true) ∧ Below w.heap.size w w' := bcounts_any s m n w htab hm hsv

set_option maxRecDepth 100000 in
theorem law_lifted (os : Os) (started : os.Started) (H : Type) (enc : TypeId × Value → H) :
    ReturnsInHanded {} Tryz.checked os 7 .any (fun w args => (Rows.bellCountsSpec.pre enc Tryz.prog Tryz.f7 [] false w args ∧ laidMetH Tryz.prog laid5 w) ∧ sizedMet enc Tryz.prog Tryz.f7 (OpenSpec.ofChange Rows.bellCountsSpec) false w args)
      (Rows.bellCountsSpec.post enc Tryz.prog Tryz.f7 false true false false) := by
  refine handed_both5 started (by kernel_rfl) Tryz.func7
    (ChangeSpec.witness_shaped (enc := enc) (C := Tryz.checked) (os := os) (X := fun w _ => laidMetH Tryz.prog laid5 w) false (World.doorLaid Tryz.prog 4000 os) #[.string ⟨#[]⟩, .int .i64 0, .int .i64 0] 8 rfl (World.shaped_of_RefB (by kernel_rfl) (by kernel_rfl)) (by kernel_rfl) (by kernel_rfl) (by kernel_rfl) (door_met5 os _)) ?_
  intro W base args ds gs before hval0 hW hsz hL hML
  have hval : ∀ (j : Nat) t v, Tryz.f7.params[j]? = some t → args[j]? = some v → Value.okWide Tryz.prog W .any base t v := hval0
  have hW' := hW
  obtain ⟨p, q, hA0, hV, rfl, hfz, hnd⟩ := hW
  have hA : DataW.TrodAll enc Tryz.prog W 0 (fun _ => true) true Tryz.f7.params.toList args.toList ds p := hA0
  have hsz1 : (DataW.weightsEach Tryz.prog (Tryz.f7.params.toList ++ Rows.bellCountsSpec.plain.varTypes Tryz.prog) (ds ++ gs)).all (· ≤ reachBytes) = true := hsz
  rw [Tryz.params7] at hA hval hsz1
  obtain ⟨v0, v1, v2, d0, d1, d2, p0, p1, p2, rfl, rfl, rfl, h0, h1, h2⟩ := trodAll_three hA
  obtain ⟨rfl, rfl⟩ := trodVars_none hV
  obtain ⟨s, rfl, rfl, rfl, ws⟩ := open_string Tryz.underlying22 (hval 0 22 v0 rfl rfl) h0
  obtain ⟨m, rfl, rfl, rfl, wm⟩ := open_int Tryz.underlying3 (hval 1 3 v1 rfl rfl) h1
  obtain ⟨n, rfl, rfl, rfl, wn⟩ := open_int Tryz.underlying3 (hval 2 3 v2 rfl rfl) h2
  clear hA0 hval0
  refine (law_any s m n W (int_range wm).1 (int_range wm).2 (int_range wn).1 (int_range wn).2 (tab_of_laid5 hL) hML (sv_of_laid5 hL) (small_of (sized_string hsz1 (j := 0) rfl rfl))).mono fun e W' ⟨he, hw⟩ => ?_
  subst he
  refine ⟨_, rfl, _, _, _, [], [], [], hW', trodAll_mk1 (shut_bool Tryz.underlying4 true), ?_, rfl, hw.frame _, fun h => by cases h⟩
  exact trodAll_mk3 (shut_string Tryz.underlying22 ws) (shut_int Tryz.underlying3 wm) (shut_int Tryz.underlying3 wn)

theorem lr_named : Tryz.prog.funcNamed "privhouse/privhouselaw07.BellCounts" = some 7 := by kernel_rfl
theorem lr_wf : (Rows.bellCountsRow).wfByText (OpenSpec.ofChange Rows.bellCountsSpec) = true := by kernel_rfl
theorem lr_main : Tryz.pinned.checked.prog.mainIs = some ((true, "9237d755f6f7cd0dddd08799b133eb13ee1b390978ac631a399343b2cdbf2e21").1, (true, "9237d755f6f7cd0dddd08799b133eb13ee1b390978ac631a399343b2cdbf2e21").2.toList) := by kernel_rfl
theorem lr_looks : true = Tryz.pinned.checked.prog.looks [] := by kernel_rfl
theorem lr_goes : false = (Rows.bellCountsRow).goesBy Tryz.pinned.checked.prog := by kernel_rfl
theorem lr_joined : joinedFacts Tryz.pinned.checked.prog 7 Tryz.f7 Rows.bellCountsSpec Rows.bellCountsRow = true := by kernel_rfl
theorem lr_inst : (Tryz.f7).isInstance Tryz.pinned.checked.prog (Rows.bellCountsRow).origin (Rows.bellCountsRow).targs := of_decide_eq_true (by kernel_rfl)
theorem lr_wrap : (Tryz.f7).isWrapper Tryz.pinned.checked.prog (Rows.bellCountsRow).wrapper (Rows.bellCountsRow).mainSum := by
  unfold Func.isWrapper; first | (rw [if_pos (by decide +kernel)]; kernel_rfl) | (rw [if_neg (by decide +kernel)]; exact ⟨rfl, rfl⟩)

theorem law_row : Rows.BellCountsSaid :=
  OpenClaim.holds_of_wide 7 Tryz.f7 rfl rfl rfl rfl rfl rfl rfl ⟨rfl, rfl, rfl, rfl, rfl⟩ rfl rfl rfl rfl rfl lr_named Tryz.func7 lr_joined lr_inst lr_wrap
    (fun os started H enc _ => law_lifted os started H enc)

theorem law_proved : Rows.BellCountsCardSaid :=
  Claim7.holds_tied_plain_at .later [] [.data, .data, .data, .sentinel, .sentinel] true (true, "9237d755f6f7cd0dddd08799b133eb13ee1b390978ac631a399343b2cdbf2e21") true
    law_row (fun _ h => by cases h) lr_wf (fun _ h => by cases h) bellCounts_row_tie rfl ⟨rfl, rfl⟩ lr_main rfl
    (fun f fn hf hfn => by
      obtain rfl : f = 7 := Option.some.inj (lr_named.symm.trans hf) |>.symm
      obtain rfl : fn = Tryz.f7 := (Option.some.inj (Tryz.func7.symm.trans hfn)).symm
      exact ⟨lr_looks, fun j t ht => by
        rw [Tryz.params7] at ht
        have hm : t ∈ [22, 3, 3] := by simpa using Array.mem_of_getElem? ht
        have hall : ([22, 3, 3].all fun u => !Tryz.prog.wantsStandIn u) = true := by kernel_rfl
        exact (show Tryz.prog.wantsStandIn t = false by simpa using List.all_eq_true.1 hall t hm)⟩)
    lr_goes
end Go.Proofs.YteojekiocecdnaaGreatDoor
