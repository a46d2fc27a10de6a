/-
  The theorem proved at the end: the statement RatTexts's tied card holds for this commit's program: whatever the arguments, RatTexts returns true.
-/
import Derived.Test.YtadkijaofmcgfaaGreatDoorR24
import Derived.Test.YtadkijaofmcgfaaGreatDoorC20
namespace Go.Proofs.YtadkijaofmcgfaaGreatDoor
open Go Go.ChangeMaps Go.ChangeShapes Go.WideShapes Go.ChangeAt Go.RowKit NV

/-- RatTexts for any two texts. -/
theorem law_any (s t : ByteArray) (w : World) (htab : Tab w) (hm : ML w) (hs : s.size ≤ 140737488351232) (ht : t.size ≤ 140737488351232) :
    Calls Tryz.prog 8 #[.string s, .string t] w fun e w' => e = .returned (.bool true) ∧ Below w.heap.size w w' := by
  cases hv : allV2 1000 [s] with
  | false => exact texts_no1 s t w htab hm hs ht hv
  | true =>
    by_cases hk : t.size ≤ 1000
    · by_cases hc : chk t.data.toList = 0
      · cases hz : (t.toList == [48]) with
        | true => exact texts_no4 s t w htab hm hs ht hv hk hc hz
        | false =>
          obtain ⟨a, rfl, _, hA⟩ := valid2_parts (by omega) hv (show s ∈ [s] by simp)
          obtain ⟨e1, _⟩ := dec_of_chk hc
          obtain ⟨k, rfl⟩ : ∃ k, t = dstr k := ⟨_, dstr_of e1.symm⟩
          have hk0 : k ≠ 0 := by
            intro e
            subst e
            rw [dstr_is 0 48 (by decide)] at hz
            simp at hz
          obtain ⟨D, hD⟩ : ∃ D : Nat, D = 1000 := ⟨_, rfl⟩
          have hk1 : k < 10 ^ D := (dec_len_le (by omega)).1 (by rw [← dstr_size]; omega)
          rw [hD] at hk1
          cases hng : ng a with
          | true => exact texts_neg a k w htab hm hv hA hk1 hk0 hng
          | false => exact texts_pos a k w htab hm hv hA hk1 hk0 hng
      · exact texts_no3 s t w htab hm hs ht hv hk hc
    · exact texts_no2 s t w htab hm hs ht hv (by omega)

set_option maxRecDepth 100000 in
theorem law_lifted (os : Os) (started : os.Started) (H : Type) (enc : TypeId × Value → H) :
    ReturnsInHanded {} Tryz.checked os 8 .any (fun w args => (Rows.ratTextsSpec.pre enc Tryz.prog Tryz.f8 [] false w args ∧ laidMetH Tryz.prog laid3 w) ∧ sizedMet enc Tryz.prog Tryz.f8 (OpenSpec.ofChange Rows.ratTextsSpec) false w args)
      (Rows.ratTextsSpec.post enc Tryz.prog Tryz.f8 false true false false) := by
  refine handed_both started (by kernel_rfl) Tryz.func8
    (ChangeSpec.witness_shaped (enc := enc) (C := Tryz.checked) (os := os) (X := fun w _ => laidMetH Tryz.prog laid3 w) false (World.doorLaid Tryz.prog 4000 os) #[.string ⟨#[]⟩, .string ⟨#[]⟩] 8 rfl (World.shaped_of_RefB (by kernel_rfl) (by kernel_rfl)) (by kernel_rfl) (by kernel_rfl) (by kernel_rfl) (door_met os _)) ?_
  intro W base args ds gs before hval0 hW hsz hL hML
  have hval : ∀ (j : Nat) t v, Tryz.f8.params[j]? = some t → args[j]? = some v → Value.okWide Tryz.prog W .any base t v := hval0
  have hW' := hW
  obtain ⟨p, q, hA0, hV, rfl, hfz, hnd⟩ := hW
  have hA : DataW.TrodAll enc Tryz.prog W 0 (fun _ => true) true Tryz.f8.params.toList args.toList ds p := hA0
  have hsz1 : (DataW.weightsEach Tryz.prog (Tryz.f8.params.toList ++ Rows.ratTextsSpec.plain.varTypes Tryz.prog) (ds ++ gs)).all (· ≤ reachBytes) = true := hsz
  rw [Tryz.params8] at hA hval hsz1
  obtain ⟨v0, v1, d0, d1, p0, p1, rfl, rfl, rfl, h0, h1⟩ := trodAll_two hA
  obtain ⟨rfl, rfl⟩ := trodVars_none hV
  obtain ⟨s, rfl, rfl, rfl, ws⟩ := open_string Tryz.underlying23 (hval 0 23 v0 rfl rfl) h0
  obtain ⟨t, rfl, rfl, rfl, wt⟩ := open_string Tryz.underlying23 (hval 1 23 v1 rfl rfl) h1
  clear hA0 hval0
  refine (law_any s t W (tab_of_laid hL) hML (small_of (sized_string hsz1 (j := 0) rfl rfl)) (small_of (sized_string hsz1 (j := 1) rfl rfl))).mono fun e W' ⟨he, hw⟩ => ?_
  subst he
  refine ⟨_, rfl, _, _, _, [], [], [], hW', trodAll_mk1 (shut_bool Tryz.underlying4 true), ?_, rfl, hw.frame _, fun h => by cases h⟩
  exact trodAll_mk2 (shut_string Tryz.underlying23 ws) (shut_string Tryz.underlying23 wt)

theorem law_row : Rows.RatTextsSaid :=
  OpenClaim.holds_of_wide 8 Tryz.f8 rfl rfl rfl rfl rfl rfl rfl ⟨rfl, rfl, rfl, rfl, rfl⟩ rfl rfl rfl rfl rfl (by kernel_rfl) Tryz.func8 (by kernel_rfl)
    (of_decide_eq_true (by kernel_rfl)) (by unfold Func.isWrapper; first | (rw [if_pos (by decide +kernel)]; kernel_rfl) | (rw [if_neg (by decide +kernel)]; exact ⟨rfl, rfl⟩))
    (fun os started H enc _ => law_lifted os started H enc)

theorem law_proved : Rows.RatTextsCardSaid :=
  Claim7.holds_tied_plain_at .later [] [.data, .data, .data] true _ false
    law_row (fun _ h => by cases h) (by kernel_rfl) (fun _ h => by cases h) ratTexts_row_tie rfl ⟨rfl, rfl⟩ (by kernel_rfl) rfl
    (fun f fn hf hfn => by
      obtain rfl : f = 8 := Option.some.inj ((show Tryz.prog.funcNamed "privhouse/privhouselaw02.RatTexts" = some 8 by kernel_rfl).symm.trans hf) |>.symm
      obtain rfl : fn = Tryz.f8 := (Option.some.inj (Tryz.func8.symm.trans hfn)).symm
      exact ⟨by kernel_rfl, fun j t ht => by
        rw [Tryz.params8] at ht
        have hm : t ∈ [23, 23] := by simpa using Array.mem_of_getElem? ht
        have hall : ([23, 23].all fun u => !Tryz.prog.wantsStandIn u) = true := by kernel_rfl
        exact (show Tryz.prog.wantsStandIn t = false by simpa using List.all_eq_true.1 hall t hm)⟩)
    (by kernel_rfl)
#print axioms law_proved

end Go.Proofs.YtadkijaofmcgfaaGreatDoor
