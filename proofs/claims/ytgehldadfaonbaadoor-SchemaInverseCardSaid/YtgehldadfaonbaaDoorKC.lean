/-
  Width, Text and Value of the program, for any column.
-/
import Derived.Test.YtgehldadfaonbaaDoorKB
namespace Go.Proofs.YtgehldadfaonbaaDoor
open Go.RowKit Go.Shelf Go.ChangeMaps Go.Maps

/-- What is known of a valid column. -/
theorem vld_cases {c : Col} (h : vldB c = true) : -1000000 ≤ c.lo ∧ c.lo ≤ c.hi ∧ c.hi ≤ 1000000 ∧ (0 < c.ws.length → c.lo = 0 ∧ c.hi = (c.ws.length : Int) - 1 ∧ c.ws.length ≤ 64 ∧ (∀ j, j < c.ws.length → nmB (c.ws.getD j ByteArray.empty) = true) ∧ twiceB c.ws = false) := by
  have h0 := of_decide_eq_true h
  have hf := chkC_few h0
  unfold chkC at h0
  rw [if_neg (by rw [hf.2]; decide), if_neg (by simp [memB])] at h0
  by_cases h3 : c.ws.length = 0
  · rw [if_pos h3] at h0
    by_cases hr : rangeB c = true
    · unfold rangeB at hr
      simp only [Bool.and_eq_true, decide_eq_true_eq] at hr
      exact ⟨hr.1, hr.2.1, hr.2.2, fun h => by omega⟩
    · rw [if_neg hr] at h0; cases h0
  · rw [if_neg h3, if_neg (by omega)] at h0
    by_cases h4 : c.ws.all nmB = false
    · rw [if_pos h4] at h0; cases h0
    rw [if_neg h4] at h0
    by_cases h5 : twiceB c.ws = true
    · rw [if_pos h5] at h0; cases h0
    rw [if_neg h5] at h0
    by_cases h6 : placeB c = true
    · unfold placeB at h6
      simp only [Bool.and_eq_true, decide_eq_true_eq] at h6
      refine ⟨by omega, by omega, by omega, fun _ => ⟨h6.1, h6.2, hf.1, fun j hj => ?_, by simpa using h5⟩⟩
      have h7 : c.ws.all nmB = true := by simpa using h4
      rw [List.all_eq_true] at h7
      refine h7 _ ?_
      rw [List.getD_eq_getElem?_getD, List.getElem?_eq_getElem hj]
      exact List.getElem_mem hj
    · rw [if_neg h6] at h0; cases h0

/-- How many values a column has. -/
def widE (c : Col) : Int := if vldB c = true then c.hi - c.lo + 1 else 0
theorem width_any {w : World} {c : Col} (hR : Res w) (ho : ColOk w c) : Calls Tryd.prog 35 #[.agg c.cells] w fun e w' => e = .returned (.int .i64 (widE c)) ∧ Below w.heap.size w w' := by
  have hb : Below w.heap.size w (w.alloc (.cells c.cells 44)) := (Below.refl _ _).alloc (Nat.le_refl _) _
  have hat : ColAt (w.alloc (.cells c.cells 44)) w.heap.size c := heap_alloc_new w _
  have HV := Lib.hid (valid_any (hR.of hb) (ho.below hb))
  have HB := Lib.hid (And.intro hb hat)
  clear hb hat ho hR
  cases hv : vldB c with
  | true =>
    rw [hv] at HV
    have hc := vld_cases hv
    have HE := Lib.hid (show widE c = c.hi - c.lo + 1 from if_pos hv)
    have h1 := hc.1
    have h2 := hc.2.1
    have h3 := hc.2.2.1
    clear hc hv
    go_enter Tryd.func35, Tryd.ntmps35
    go_wp2_with fail
    refine HV.out.mono ?_
    rintro e w1 ⟨rfl, hb1⟩
    have c1 := (HB.out.2.below hb1).c1
    have c2 := (HB.out.2.below hb1).c2
    have HF := Lib.hid (HB.out.1.trans (hb1.mono HB.out.1.size))
    clear hb1 HV HB
    go_wp2
    go_ret
    exact ⟨by rw [HE.out]; rfl, HF.out⟩
  | false =>
    rw [hv] at HV
    have HE := Lib.hid (show widE c = 0 from if_neg (by rw [hv]; decide))
    clear hv
    go_enter Tryd.func35, Tryd.ntmps35
    go_wp2_with fail
    refine HV.out.mono ?_
    rintro e w1 ⟨rfl, hb1⟩
    have HF := Lib.hid (HB.out.1.trans (hb1.mono HB.out.1.size))
    clear hb1 HV HB
    go_wp2
    go_ret
    exact ⟨by rw [HE.out]; rfl, HF.out⟩

/-- The text of a value. -/
def txtE (c : Col) (v : Int) : ByteArray := if vldB c = true ∧ c.lo ≤ v ∧ v ≤ c.hi then (if 0 < c.ws.length then c.ws.getD v.toNat ByteArray.empty else kT v) else ⟨#[]⟩
set_option maxHeartbeats 1600000 in
set_option maxRecDepth 100000 in
theorem text_any {w : World} {c : Col} (v : Int) (hR : WL w) (ho : ColOk w c) (v0 : -9223372036854775808 ≤ v) (v1 : v ≤ 9223372036854775807) : Calls Tryd.prog 36 #[.agg c.cells, .int .i64 v] w fun e w' => e = .returned (.string (txtE c v)) ∧ Below w.heap.size w w' := by
  have hb : Below w.heap.size w (w.alloc (.cells c.cells 44)) := (Below.refl _ _).alloc (Nat.le_refl _) _
  have hat : ColAt (w.alloc (.cells c.cells 44)) w.heap.size c := heap_alloc_new w _
  have HV := Lib.hid (valid_any (hR.of hb).res (ho.below hb))
  have HB := Lib.hid (And.intro hb (And.intro hat (And.intro (ho.below hb) (hR.of hb))))
  clear hb hat ho hR
  cases hv : vldB c with
  | false =>
    rw [hv] at HV
    have HE := Lib.hid (show txtE c v = ⟨#[]⟩ from if_neg (by rw [hv]; simp))
    clear hv
    go_enter Tryd.func36, Tryd.ntmps36
    go_wp2_with fail
    refine HV.out.mono ?_
    rintro e w1 ⟨rfl, hb1⟩
    have HF := Lib.hid (HB.out.1.trans (hb1.mono HB.out.1.size))
    clear hb1 HV HB
    go_wp2
    go_ret
    exact ⟨by rw [HE.out]; rfl, HF.out⟩
  | true =>
    rw [hv] at HV
    have hcs := vld_cases hv
    by_cases h1 : v < c.lo
    · have HE := Lib.hid (show txtE c v = ⟨#[]⟩ from if_neg (by omega))
      clear hv hcs
      go_enter Tryd.func36, Tryd.ntmps36
      go_wp2_with fail
      refine HV.out.mono ?_
      rintro e w1 ⟨rfl, hb1⟩
      have c1 := (HB.out.2.1.below hb1).c1
      have HF := Lib.hid (HB.out.1.trans (hb1.mono HB.out.1.size))
      clear hb1 HV HB
      go_wp2
      go_ret
      exact ⟨by rw [HE.out]; rfl, HF.out⟩
    · by_cases h2 : c.hi < v
      · have HE := Lib.hid (show txtE c v = ⟨#[]⟩ from if_neg (by omega))
        clear hv hcs
        go_enter Tryd.func36, Tryd.ntmps36
        go_wp2_with fail
        refine HV.out.mono ?_
        rintro e w1 ⟨rfl, hb1⟩
        have c1 := (HB.out.2.1.below hb1).c1
        have c2 := (HB.out.2.1.below hb1).c2
        have HF := Lib.hid (HB.out.1.trans (hb1.mono HB.out.1.size))
        clear hb1 HV HB
        go_wp2
        go_ret
        exact ⟨by rw [HE.out]; rfl, HF.out⟩
      · by_cases h3 : 0 < c.ws.length
        · have HE := Lib.hid (show txtE c v = c.ws.getD v.toNat ByteArray.empty by unfold txtE; rw [if_pos ⟨hv, by omega, by omega⟩, if_pos h3])
          obtain ⟨k1, k2, k3, _⟩ := hcs.2.2.2 h3
          obtain ⟨n, rfl⟩ := Int.eq_ofNat_of_zero_le (show 0 ≤ v by omega)
          rw [Int.toNat_natCast] at HE
          have hl : n < c.ws.length := by omega
          have hn63 : c.ws.length ≤ 9223372036854775807 := by omega
          clear hv hcs v0 v1 k1 k2 k3
          go_enter Tryd.func36, Tryd.ntmps36
          go_wp2_with fail
          refine HV.out.mono ?_
          rintro e w1 ⟨rfl, hb1⟩
          have hat := HB.out.2.1.below hb1
          have c1 := hat.c1
          have c2 := hat.c2
          have c3 := hat.c3
          obtain ⟨ad, ea, _, d1⟩ := (HB.out.2.2.1.words.below hb1).at hl
          rw [ea] at c3
          obtain ⟨s, hs⟩ : ∃ s, s = c.ws.getD n ByteArray.empty := ⟨_, rfl⟩
          rw [← hs] at d1 HE
          have HF := Lib.hid (HB.out.1.trans (hb1.mono HB.out.1.size))
          clear hat hb1 HV HB hs ea
          go_wp2
          go_ret
          exact ⟨by rw [HE.out]; rfl, HF.out⟩
        · have HE := Lib.hid (show txtE c v = kT v by unfold txtE; rw [if_pos ⟨hv, by omega, by omega⟩, if_neg h3])
          clear hv hcs
          go_enter Tryd.func36, Tryd.ntmps36
          go_wp2_with fail
          refine HV.out.mono ?_
          rintro e w1 ⟨rfl, hb1⟩
          have hat := HB.out.2.1.below hb1
          have c1 := hat.c1
          have c2 := hat.c2
          have c3 := hat.c3
          have HI := Lib.hid (itoa_any v v0 v1 (HB.out.2.2.2.of hb1))
          have HF := Lib.hid (HB.out.1.trans (hb1.mono HB.out.1.size))
          clear hat hb1 HV HB
          go_wp2_with fail
          refine HI.out.mono ?_
          rintro e w2 ⟨rfl, hb2⟩
          have HG := Lib.hid (HF.out.trans (hb2.mono HF.out.size))
          clear hb2 HF HI
          go_wp2
          go_ret
          exact ⟨by rw [HE.out]; rfl, HG.out⟩

end Go.Proofs.YtgehldadfaonbaaDoor
