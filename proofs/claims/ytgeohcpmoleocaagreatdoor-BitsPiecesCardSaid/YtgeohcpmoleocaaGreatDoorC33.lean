/-
  The theorem proved at the end: the statement BitsPieces's tied card holds for this commit's program: whatever the arguments, BitsPieces returns true.
-/
import Derived.Test.YtgeohcpmoleocaaGreatDoorB22
import Derived.Test.YtgeohcpmoleocaaGreatDoorC20
namespace Go.Proofs.YtgeohcpmoleocaaGreatDoor
open Go Go.ChangeMaps Go.ChangeShapes Go.WideShapes Go.ChangeAt Go.RowKit NV

/-- BitsPieces for any text, int and bytes. -/
theorem law_any (s : ByteArray) (m : Int) (y0 : Option Addr) (yl yc : Nat) (yf : Nat → UInt8) (w : World) (_hm0 : -9223372036854775808 ≤ m) (_hm1 : m ≤ 9223372036854775807) (htab : Tab w) (_hm : ML w) (hy : BRow w y0 yl yf ∧ yl ≤ yc ∧ yc ≤ maxLen) (_hs : s.size ≤ 140737488351232) :
    Calls Tryz.prog 9 #[.string s, .int .i64 m, .slice y0 yl yc] w fun e w' => e = .returned (.bool true) ∧ Below w.heap.size w w' := pieces_any_law s m hy.2.1 hy.2.2 w hy.1 htab

theorem lr_laid : laidOutB Tryz.prog = true := by kernel_rfl

set_option maxRecDepth 100000 in
theorem law_lifted (os : Os) (started : os.Started) (H : Type) (enc : TypeId × Value → H) :
    ReturnsInHanded {} Tryz.checked os 9 .any (fun w args => (Rows.bitsPiecesSpec.pre enc Tryz.prog Tryz.f9 [] false w args ∧ laidMetH Tryz.prog laid3 w) ∧ sizedMet enc Tryz.prog Tryz.f9 (OpenSpec.ofChange Rows.bitsPiecesSpec) false w args)
      (Rows.bitsPiecesSpec.post enc Tryz.prog Tryz.f9 false true false false) := by
  refine handed_both started (by kernel_rfl) Tryz.func9
    (ChangeSpec.witness_shaped (enc := enc) (C := Tryz.checked) (os := os) (X := fun w _ => laidMetH Tryz.prog laid3 w) false (World.doorLaid Tryz.prog 4000 os) #[.string ⟨#[]⟩, .int .i64 0, .slice none 0 0] 8 rfl (World.shaped_of_RefB (by kernel_rfl) (by kernel_rfl)) (by kernel_rfl) (by kernel_rfl) (by kernel_rfl) (door_met os _)) ?_
  intro W base args ds gs before hval0 hW hsz hL hML
  have hval : ∀ (j : Nat) t v, Tryz.f9.params[j]? = some t → args[j]? = some v → Value.okWide Tryz.prog W .any base t v := hval0
  have hW' := hW
  obtain ⟨p, q, hA0, hV, rfl, hfz, hnd⟩ := hW
  have hA : DataW.TrodAll enc Tryz.prog W 0 (fun _ => true) true Tryz.f9.params.toList args.toList ds p := hA0
  have hsz1 : (DataW.weightsEach Tryz.prog (Tryz.f9.params.toList ++ Rows.bitsPiecesSpec.plain.varTypes Tryz.prog) (ds ++ gs)).all (· ≤ reachBytes) = true := hsz
  rw [Tryz.params9] at hA hval hsz1
  obtain ⟨v0, v1, v2, d0, d1, d2, p0, p1, p2, rfl, rfl, rfl, h0, h1, h2⟩ := trodAll_three hA
  obtain ⟨rfl, rfl⟩ := trodVars_none hV
  obtain ⟨s, rfl, rfl, rfl, ws⟩ := open_string Tryz.underlying38 (hval 0 38 v0 rfl rfl) h0
  obtain ⟨m, rfl, rfl, rfl, wm⟩ := open_int Tryz.underlying3 (hval 1 3 v1 rfl rfl) h1
  have h2k := h2
  obtain ⟨y0, yl, yc, rfl⟩ := okWide_slice Tryz.underlying45 (hval 2 45 v2 rfl rfl)
  obtain ⟨yf, wy⟩ := open_bytes h2
  clear hA0 hval0
  have hlt : ∀ x ∈ p2, x.block < W.heap.size := fun x hx => hW'.lt x (by simpa using hx)
  refine (law_any s m y0 yl yc yf W (int_range wm).1 (int_range wm).2 (tab_of_laid hL) hML wy (small_of (sized_string hsz1 (j := 0) rfl rfl))).mono fun e W' ⟨he, hw⟩ => ?_
  subst he
  refine ⟨_, rfl, _, _, _, [], p2, [], hW', trodAll_mk1 (shut_bool Tryz.underlying4 true), ?_, rfl, hw.frame _, fun h => by cases h⟩
  exact trodAll_mk3 (shut_string Tryz.underlying38 ws) (shut_int Tryz.underlying3 wm) (Below.trod lr_laid (by kernel_rfl) (of_decide_eq_true (by kernel_rfl)) h2k hw (fun x hx => hlt x hx))

theorem lr_named : Tryz.prog.funcNamed "privhouse/privhouselaw03.BitsPieces" = some 9 := by kernel_rfl
theorem lr_wf : (Rows.bitsPiecesRow).wfByText (OpenSpec.ofChange Rows.bitsPiecesSpec) = true := by kernel_rfl
theorem lr_main : Tryz.pinned.checked.prog.mainIs = some ((true, "2e109445097e54cdfa14dc9a174719f5ee2562608578e8d888ccdd95fb564e18").1, (true, "2e109445097e54cdfa14dc9a174719f5ee2562608578e8d888ccdd95fb564e18").2.toList) := by kernel_rfl
theorem lr_looks : true = Tryz.pinned.checked.prog.looks [] := by kernel_rfl
theorem lr_goes : false = (Rows.bitsPiecesRow).goesBy Tryz.pinned.checked.prog := by kernel_rfl
theorem lr_joined : joinedFacts Tryz.pinned.checked.prog 9 Tryz.f9 Rows.bitsPiecesSpec Rows.bitsPiecesRow = true := by kernel_rfl
theorem lr_inst : (Tryz.f9).isInstance Tryz.pinned.checked.prog (Rows.bitsPiecesRow).origin (Rows.bitsPiecesRow).targs := of_decide_eq_true (by kernel_rfl)
theorem lr_wrap : (Tryz.f9).isWrapper Tryz.pinned.checked.prog (Rows.bitsPiecesRow).wrapper (Rows.bitsPiecesRow).mainSum := by
  unfold Func.isWrapper; first | (rw [if_pos (by decide +kernel)]; kernel_rfl) | (rw [if_neg (by decide +kernel)]; exact ⟨rfl, rfl⟩)

theorem law_row : Rows.BitsPiecesSaid :=
  OpenClaim.holds_of_wide 9 Tryz.f9 rfl rfl rfl rfl rfl rfl rfl ⟨rfl, rfl, rfl, rfl, rfl⟩ rfl rfl rfl rfl rfl lr_named Tryz.func9 lr_joined lr_inst lr_wrap
    (fun os started H enc _ => law_lifted os started H enc)

theorem law_proved : Rows.BitsPiecesCardSaid :=
  Claim7.holds_tied_plain_at .later [] [.data, .data, .data] true (true, "2e109445097e54cdfa14dc9a174719f5ee2562608578e8d888ccdd95fb564e18") true
    law_row (fun _ h => by cases h) lr_wf (fun _ h => by cases h) bitsPieces_row_tie rfl ⟨rfl, rfl⟩ lr_main rfl
    (fun f fn hf hfn => by
      obtain rfl : f = 9 := Option.some.inj (lr_named.symm.trans hf) |>.symm
      obtain rfl : fn = Tryz.f9 := (Option.some.inj (Tryz.func9.symm.trans hfn)).symm
      exact ⟨lr_looks, fun j t ht => by
        rw [Tryz.params9] at ht
        have hm : t ∈ [38, 3, 45] := by simpa using Array.mem_of_getElem? ht
        have hall : ([38, 3, 45].all fun u => !Tryz.prog.wantsStandIn u) = true := by kernel_rfl
        exact (show Tryz.prog.wantsStandIn t = false by simpa using List.all_eq_true.1 hall t hm)⟩)
    lr_goes
end Go.Proofs.YtgeohcpmoleocaaGreatDoor
