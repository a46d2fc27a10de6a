/-
  The theorem proved at the end: the statement LossOrder's tied card holds for this commit's program: whatever the arguments, LossOrder returns true.
-/
import Derived.Test.YtofanopnibbaeaaGreatDoorLO
import Derived.Test.YtofanopnibbaeaaGreatDoorC20
namespace Go.Proofs.YtofanopnibbaeaaGreatDoor
open Go Go.ChangeMaps Go.ChangeShapes Go.WideShapes Go.ChangeAt Go.RowKit NV

variable {H : Type} {enc : TypeId × Value → H} {W : World} {base : Nat}
theorem cellsNL : Tryz.prog.cellsOf 27 = 1 := by kernel_rfl
theorem cellsLL : Tryz.prog.cellsOf 62 = 2 := by kernel_rfl
set_option maxRecDepth 100000 in
theorem open_pair {r : Reach} {b0 : Nat} {sp : Nat → Bool} {held : Bool} {v : Value} {d : DataW H} {ps : List MemPlace} (hval : Value.okWide Tryz.prog W r b0 62 v) (hd : DataW.Trod enc Tryz.prog W base sp held 62 v d ps) :
    ∃ a b : ByteArray, v = .agg #[.string a, .string b] ∧ d = .agg [.lit (.string a.data.toList), .lit (.string b.data.toList)] ∧ ps = [] ∧ a.size ≤ maxLen ∧ b.size ≤ maxLen := by
  obtain ⟨cs, rfl, hsz⟩ := okWide_struct Tryz.underlying62 hval
  rw [cellsLL] at hsz
  obtain ⟨l⟩ := cs
  match l, hsz with
  | [c0, c1], _ =>
  obtain ⟨fuel, hf⟩ := hd
  obtain ⟨y0, y1, m, hx, _, hy0, hy1⟩ := trod_struct2 Tryz.underlying62 hf
  obtain ⟨a, e0, rfl, wa⟩ := DataW.trod_string Tryz.underlying27 hy0
  obtain ⟨b, e1, rfl, wb⟩ := DataW.trod_string Tryz.underlying27 hy1
  simp [Value.cells, cellsNL] at e0 e1
  subst e0 e1
  simp only [Prod.mk.injEq] at hx
  obtain ⟨rfl, rfl⟩ := hx
  exact ⟨a, b, rfl, rfl, rfl, wa, wb⟩
set_option maxRecDepth 100000 in
theorem shut_pair {sp : Nat → Bool} {held : Bool} {a b : ByteArray} (wa : a.size ≤ maxLen) (wb : b.size ≤ maxLen) : DataW.Trod enc Tryz.prog W base sp held 62 (.agg #[.string a, .string b]) (.agg [.lit (.string a.data.toList), .lit (.string b.data.toList)]) [] := ⟨2, by
    have f0 : DataW.trod enc Tryz.prog W base sp held 1 27 [.string a] = some (.lit (.string a.data.toList), []) := by simp [DataW.trod, Tryz.underlying27, wa]
    have f1 : DataW.trod enc Tryz.prog W base sp held 1 27 [.string b] = some (.lit (.string b.data.toList), []) := by simp [DataW.trod, Tryz.underlying27, wb]
    have := trod_struct2_mk (enc := enc) (w := W) (base := base) (spare := sp) (held := held) (n := 1) (cs := [.string a, .string b]) Tryz.underlying62 (by simp [cellsLL]) (by simpa [cellsNL] using f0) (by simpa [cellsNL] using f1)
    simpa [Value.cells] using this⟩
set_option maxRecDepth 100000 in
theorem sized_pair {ts : List TypeId} {ds : List (DataW H)} (h : (DataW.weightsEach Tryz.prog ts ds).all (· ≤ reachBytes) = true) {j : Nat} {x y : List UInt8} (ht : ts[j]? = some 62) (hd : ds[j]? = some (.agg [.lit (.string x), .lit (.string y)])) : x.length ≤ reachBytes ∧ y.length ≤ reachBytes := by
  have h1 := List.all_eq_true.1 h _ (DataW.weights_mem_each ht hd x.length (by simp [DataW.weights, DataW.weightsEach, Tryz.underlying62]))
  have h2 := List.all_eq_true.1 h _ (DataW.weights_mem_each ht hd y.length (by simp [DataW.weights, DataW.weightsEach, Tryz.underlying62]))
  exact ⟨by simpa using h1, by simpa using h2⟩

theorem lr_laid : laidOutB Tryz.prog = true := by kernel_rfl

set_option maxRecDepth 100000 in
theorem law_lifted (os : Os) (started : os.Started) (H : Type) (enc : TypeId × Value → H) :
    ReturnsInHanded {} Tryz.checked os 14 .any (fun w args => (Rows.lossOrderSpec.pre enc Tryz.prog Tryz.f14 [] false w args ∧ laidMetH Tryz.prog laid3 w) ∧ sizedMet enc Tryz.prog Tryz.f14 (OpenSpec.ofChange Rows.lossOrderSpec) false w args)
      (Rows.lossOrderSpec.post enc Tryz.prog Tryz.f14 false true false false) := by
  refine handed_both started (by kernel_rfl) Tryz.func14
    (ChangeSpec.witness_shaped (enc := enc) (C := Tryz.checked) (os := os) (X := fun w _ => laidMetH Tryz.prog laid3 w) false (World.doorLaid Tryz.prog 4000 os) #[.agg #[.string ⟨#[]⟩, .string ⟨#[]⟩], .agg #[.string ⟨#[]⟩, .string ⟨#[]⟩], .agg #[.string ⟨#[]⟩, .string ⟨#[]⟩]] 8 rfl (World.shaped_of_RefB (by kernel_rfl) (by kernel_rfl)) (by kernel_rfl) (by kernel_rfl) (by kernel_rfl) (door_met os _)) ?_
  intro W base args ds gs before hval0 hW hsz hL hML
  have hval : ∀ (j : Nat) t v, Tryz.f14.params[j]? = some t → args[j]? = some v → Value.okWide Tryz.prog W .any base t v := hval0
  have hW' := hW
  obtain ⟨p, q, hA0, hV, rfl, hfz, hnd⟩ := hW
  have hA : DataW.TrodAll enc Tryz.prog W 0 (fun _ => true) true Tryz.f14.params.toList args.toList ds p := hA0
  have hsz1 : (DataW.weightsEach Tryz.prog (Tryz.f14.params.toList ++ Rows.lossOrderSpec.plain.varTypes Tryz.prog) (ds ++ gs)).all (· ≤ reachBytes) = true := hsz
  rw [Tryz.params14] at hA hval hsz1
  obtain ⟨v0, v1, v2, d0, d1, d2, p0, p1, p2, rfl, rfl, rfl, h0, h1, h2⟩ := trodAll_three hA
  obtain ⟨rfl, rfl⟩ := trodVars_none hV
  obtain ⟨x0a, x0b, rfl, rfl, rfl, x0w, x0v⟩ := open_pair (hval 0 62 v0 rfl rfl) h0
  obtain ⟨x1a, x1b, rfl, rfl, rfl, x1w, x1v⟩ := open_pair (hval 1 62 v1 rfl rfl) h1
  obtain ⟨x2a, x2b, rfl, rfl, rfl, x2w, x2v⟩ := open_pair (hval 2 62 v2 rfl rfl) h2
  clear hA0 hval0
  refine (lorder_any (small_of (sized_pair hsz1 (j := 0) rfl rfl).1) (small_of (sized_pair hsz1 (j := 0) rfl rfl).2) (small_of (sized_pair hsz1 (j := 1) rfl rfl).1) (small_of (sized_pair hsz1 (j := 1) rfl rfl).2) (small_of (sized_pair hsz1 (j := 2) rfl rfl).1) (small_of (sized_pair hsz1 (j := 2) rfl rfl).2) (tab_of_laid hL) hML).mono fun e W' ⟨he, hw⟩ => ?_
  subst he
  refine ⟨_, rfl, _, _, _, [], [], [], hW', trodAll_mk1 (shut_bool Tryz.underlying4 true), ?_, rfl, hw.frame _, fun h => by cases h⟩
  exact trodAll_mk3 (shut_pair x0w x0v) (shut_pair x1w x1v) (shut_pair x2w x2v)

theorem lr_named : Tryz.prog.funcNamed "privhouse/privhouselaw09.LossOrder" = some 14 := by kernel_rfl
theorem lr_wf : (Rows.lossOrderRow).wfByText (OpenSpec.ofChange Rows.lossOrderSpec) = true := by kernel_rfl
theorem lr_main : Tryz.pinned.checked.prog.mainIs = some ((true, "76eea364d4eda0382ad5c926dbafe34f75e0b5d0e994ac3fb95d8635817ba4d0").1, (true, "76eea364d4eda0382ad5c926dbafe34f75e0b5d0e994ac3fb95d8635817ba4d0").2.toList) := by kernel_rfl
theorem lr_looks : true = Tryz.pinned.checked.prog.looks [] := by kernel_rfl
theorem lr_goes : false = (Rows.lossOrderRow).goesBy Tryz.pinned.checked.prog := by kernel_rfl
theorem band_t {a b : Bool} (ha : a = true) (hb : b = true) : (a && b) = true := by rw [ha, hb]; rfl
set_option maxHeartbeats 25600000 in
theorem lr_joined : joinedFacts Tryz.pinned.checked.prog 14 Tryz.f14 Rows.lossOrderSpec Rows.lossOrderRow = true := by
  unfold joinedFacts
  repeat' (with_reducible refine band_t ?_ ?_)
  all_goals as_aux_lemma => kernel_rfl
theorem lr_inst : (Tryz.f14).isInstance Tryz.pinned.checked.prog (Rows.lossOrderRow).origin (Rows.lossOrderRow).targs := of_decide_eq_true (by kernel_rfl)
theorem lr_wrap : (Tryz.f14).isWrapper Tryz.pinned.checked.prog (Rows.lossOrderRow).wrapper (Rows.lossOrderRow).mainSum := by
  unfold Func.isWrapper; first | (rw [if_pos (by decide +kernel)]; kernel_rfl) | (rw [if_neg (by decide +kernel)]; exact ⟨rfl, rfl⟩)

theorem law_row : Rows.LossOrderSaid :=
  OpenClaim.holds_of_wide 14 Tryz.f14 rfl rfl rfl rfl rfl rfl rfl ⟨rfl, rfl, rfl, rfl, rfl⟩ rfl rfl rfl rfl rfl lr_named Tryz.func14 lr_joined lr_inst lr_wrap
    (fun os started H enc _ => law_lifted os started H enc)

theorem law_proved : Rows.LossOrderCardSaid :=
  Claim7.holds_tied_plain_at .later [] [.data, .data, .data] true (true, "76eea364d4eda0382ad5c926dbafe34f75e0b5d0e994ac3fb95d8635817ba4d0") true
    law_row (fun _ h => by cases h) lr_wf (fun _ h => by cases h) lossOrder_row_tie rfl ⟨rfl, rfl⟩ lr_main rfl
    (fun f fn hf hfn => by
      obtain rfl : f = 14 := Option.some.inj (lr_named.symm.trans hf) |>.symm
      obtain rfl : fn = Tryz.f14 := (Option.some.inj (Tryz.func14.symm.trans hfn)).symm
      exact ⟨lr_looks, fun j t ht => by
        rw [Tryz.params14] at ht
        have hm : t ∈ [62, 62, 62] := by simpa using Array.mem_of_getElem? ht
        have hall : ([62, 62, 62].all fun u => !Tryz.prog.wantsStandIn u) = true := by kernel_rfl
        exact (show Tryz.prog.wantsStandIn t = false by simpa using List.all_eq_true.1 hall t hm)⟩)
    lr_goes
end Go.Proofs.YtofanopnibbaeaaGreatDoor
