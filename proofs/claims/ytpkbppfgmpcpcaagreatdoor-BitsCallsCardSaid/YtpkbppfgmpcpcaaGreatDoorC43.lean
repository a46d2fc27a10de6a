/-
  The theorem proved at the end: the statement BitsCalls's tied card holds for this commit's program: whatever the arguments, BitsCalls returns true.
-/
import Derived.Test.YtpkbppfgmpcpcaaGreatDoorB30
import Derived.Test.YtpkbppfgmpcpcaaGreatDoorB22
import Derived.Test.YtpkbppfgmpcpcaaGreatDoorEM
import Derived.Test.YtpkbppfgmpcpcaaGreatDoorC29
namespace Go.Proofs.YtpkbppfgmpcpcaaGreatDoor
open Go Go.ChangeMaps Go.ChangeShapes Go.WideShapes Go.ChangeAt Go.RowKit NV

/-- BitsCalls for any texts, int, bytes and texts of bits. -/
theorem law_any (s t : ByteArray) (m : Int) (y0 : Option Addr) (yl yc : Nat) (yf : Nat → UInt8) (l0 : Option Addr) (ll lc : Nat) (lf : Nat → ByteArray) (w : World) (_hm0 : -9223372036854775808 ≤ m) (_hm1 : m ≤ 9223372036854775807) (htab : Tab w) (_hm : ML w) (hy : BRow w y0 yl yf ∧ yl ≤ yc ∧ yc ≤ maxLen) (hl : TRow w l0 ll lf ∧ ll ≤ lc ∧ lc ≤ maxLen ∧ ∀ j, (lf j).size ≤ maxLen) (_hs : s.size ≤ 140737488351232) (_ht : t.size ≤ 140737488351232) :
    Calls Tryz.prog 3 #[.string s, .string t, .int .i64 m, .slice y0 yl yc, .slice l0 ll lc] w fun e w' => e = .returned (.bool true) ∧ Below w.heap.size w w' := bcalls_any hy.1 ⟨hy.2.1, hy.2.2⟩ hl.1 ⟨hl.2.1, hl.2.2.1⟩ htab

theorem lr_laid : laidOutB Tryz.prog = true := by kernel_rfl

set_option maxRecDepth 100000 in
theorem law_lifted (os : Os) (started : os.Started) (H : Type) (enc : TypeId × Value → H) :
    ReturnsInHanded {} Tryz.checked os 3 .any (fun w args => (Rows.bitsCallsSpec.pre enc Tryz.prog Tryz.f3 [] false w args ∧ laidMetH Tryz.prog laid5 w) ∧ sizedMet enc Tryz.prog Tryz.f3 (OpenSpec.ofChange Rows.bitsCallsSpec) false w args)
      (Rows.bitsCallsSpec.post enc Tryz.prog Tryz.f3 false true false false) := by
  refine handed_both5 started (by kernel_rfl) Tryz.func3
    (ChangeSpec.witness_shaped (enc := enc) (C := Tryz.checked) (os := os) (X := fun w _ => laidMetH Tryz.prog laid5 w) false (World.doorLaid Tryz.prog 4000 os) #[.string ⟨#[]⟩, .string ⟨#[]⟩, .int .i64 0, .slice none 0 0, .slice none 0 0] 8 rfl (World.shaped_of_RefB (by kernel_rfl) (by kernel_rfl)) (by kernel_rfl) (by kernel_rfl) (by kernel_rfl) (door_met5 os _)) ?_
  intro W base args ds gs before hval0 hW hsz hL hML
  have hval : ∀ (j : Nat) t v, Tryz.f3.params[j]? = some t → args[j]? = some v → Value.okWide Tryz.prog W .any base t v := hval0
  have hW' := hW
  obtain ⟨p, q, hA0, hV, rfl, hfz, hnd⟩ := hW
  have hA : DataW.TrodAll enc Tryz.prog W 0 (fun _ => true) true Tryz.f3.params.toList args.toList ds p := hA0
  have hsz1 : (DataW.weightsEach Tryz.prog (Tryz.f3.params.toList ++ Rows.bitsCallsSpec.plain.varTypes Tryz.prog) (ds ++ gs)).all (· ≤ reachBytes) = true := hsz
  rw [Tryz.params3] at hA hval hsz1
  obtain ⟨v0, v1, v2, v3, v4, d0, d1, d2, d3, d4, p0, p1, p2, p3, p4, rfl, rfl, rfl, h0, h1, h2, h3, h4⟩ := trodAll_five hA
  obtain ⟨rfl, rfl⟩ := trodVars_none hV
  obtain ⟨s, rfl, rfl, rfl, ws⟩ := open_string Tryz.underlying22 (hval 0 22 v0 rfl rfl) h0
  obtain ⟨t, rfl, rfl, rfl, wt⟩ := open_string Tryz.underlying23 (hval 1 23 v1 rfl rfl) h1
  obtain ⟨m, rfl, rfl, rfl, wm⟩ := open_int Tryz.underlying3 (hval 2 3 v2 rfl rfl) h2
  have h3k := h3
  obtain ⟨y0, yl, yc, rfl⟩ := okWide_slice Tryz.underlying24 (hval 3 24 v3 rfl rfl)
  obtain ⟨yf, wy⟩ := open_bytes h3
  have h4k := h4
  obtain ⟨l0, ll, lc, rfl⟩ := okWide_slice Tryz.underlying25 (hval 4 25 v4 rfl rfl)
  obtain ⟨lf, wl⟩ := open_texts h4
  clear hA0 hval0
  have hlt : ∀ x ∈ p3 ++ p4, x.block < W.heap.size := fun x hx => hW'.lt x (by simpa using hx)
  refine (law_any s t m y0 yl yc yf l0 ll lc lf W (int_range wm).1 (int_range wm).2 (tab_of_laid5 hL) hML wy wl (small_of (sized_string hsz1 (j := 0) rfl rfl)) (small_of (sized_string hsz1 (j := 1) rfl rfl))).mono fun e W' ⟨he, hw⟩ => ?_
  subst he
  refine ⟨_, rfl, _, _, _, [], p3 ++ p4, [], hW', trodAll_mk1 (shut_bool Tryz.underlying4 true), ?_, rfl, hw.frame _, fun h => by cases h⟩
  exact trodAll_mk5 (shut_string Tryz.underlying22 ws) (shut_string Tryz.underlying23 wt) (shut_int Tryz.underlying3 wm) (Below.trod lr_laid (by kernel_rfl) (of_decide_eq_true (by kernel_rfl)) h3k hw (fun x hx => hlt x (List.mem_append.2 (.inl hx)))) (Below.trod lr_laid (by kernel_rfl) (of_decide_eq_true (by kernel_rfl)) h4k hw (fun x hx => hlt x (List.mem_append.2 (.inr hx))))

theorem lr_named : Tryz.prog.funcNamed "privhouse/privhouselaw03.BitsCalls" = some 3 := by kernel_rfl
theorem lr_wf : (Rows.bitsCallsRow).wfByText (OpenSpec.ofChange Rows.bitsCallsSpec) = true := by kernel_rfl
theorem lr_main : Tryz.pinned.checked.prog.mainIs = some ((true, "28d361eb8fba7ce15bcec6b5964ed56a154bd569c6bd602104846e406671d60e").1, (true, "28d361eb8fba7ce15bcec6b5964ed56a154bd569c6bd602104846e406671d60e").2.toList) := by kernel_rfl
theorem lr_looks : true = Tryz.pinned.checked.prog.looks [] := by kernel_rfl
theorem lr_goes : false = (Rows.bitsCallsRow).goesBy Tryz.pinned.checked.prog := by kernel_rfl
theorem band_t {a b : Bool} (ha : a = true) (hb : b = true) : (a && b) = true := by rw [ha, hb]; rfl
set_option maxHeartbeats 25600000 in
theorem lr_joined : joinedFacts Tryz.pinned.checked.prog 3 Tryz.f3 Rows.bitsCallsSpec Rows.bitsCallsRow = true := by
  unfold joinedFacts
  repeat' (with_reducible refine band_t ?_ ?_)
  all_goals as_aux_lemma => kernel_rfl
theorem lr_inst : (Tryz.f3).isInstance Tryz.pinned.checked.prog (Rows.bitsCallsRow).origin (Rows.bitsCallsRow).targs := of_decide_eq_true (by kernel_rfl)
theorem lr_wrap : (Tryz.f3).isWrapper Tryz.pinned.checked.prog (Rows.bitsCallsRow).wrapper (Rows.bitsCallsRow).mainSum := by
  unfold Func.isWrapper; first | (rw [if_pos (by decide +kernel)]; kernel_rfl) | (rw [if_neg (by decide +kernel)]; exact ⟨rfl, rfl⟩)

theorem law_row : Rows.BitsCallsSaid :=
  OpenClaim.holds_of_wide 3 Tryz.f3 rfl rfl rfl rfl rfl rfl rfl ⟨rfl, rfl, rfl, rfl, rfl⟩ rfl rfl rfl rfl rfl lr_named Tryz.func3 lr_joined lr_inst lr_wrap
    (fun os started H enc _ => law_lifted os started H enc)

theorem law_proved : Rows.BitsCallsCardSaid :=
  Claim7.holds_tied_plain_at .later [] [.data, .data, .data, .sentinel, .sentinel] true (true, "28d361eb8fba7ce15bcec6b5964ed56a154bd569c6bd602104846e406671d60e") true
    law_row (fun _ h => by cases h) lr_wf (fun _ h => by cases h) bitsCalls_row_tie rfl ⟨rfl, rfl⟩ lr_main rfl
    (fun f fn hf hfn => by
      obtain rfl : f = 3 := Option.some.inj (lr_named.symm.trans hf) |>.symm
      obtain rfl : fn = Tryz.f3 := (Option.some.inj (Tryz.func3.symm.trans hfn)).symm
      exact ⟨lr_looks, fun j t ht => by
        rw [Tryz.params3] at ht
        have hm : t ∈ [22, 23, 3, 24, 25] := by simpa using Array.mem_of_getElem? ht
        have hall : ([22, 23, 3, 24, 25].all fun u => !Tryz.prog.wantsStandIn u) = true := by kernel_rfl
        exact (show Tryz.prog.wantsStandIn t = false by simpa using List.all_eq_true.1 hall t hm)⟩)
    lr_goes
end Go.Proofs.YtpkbppfgmpcpcaaGreatDoor
