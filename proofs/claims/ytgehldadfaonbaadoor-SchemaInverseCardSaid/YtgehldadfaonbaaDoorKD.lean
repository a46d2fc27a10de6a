/-
  Value of the program, for any column and any text.
-/
import Derived.Test.YtgehldadfaonbaaDoorKC
namespace Go.Proofs.YtgehldadfaonbaaDoor
open Go.RowKit Go.Shelf Go.ChangeMaps Go.Maps

/-- The value that a text is in a column without words. -/
def numE (c : Col) (s : ByteArray) : Int × Bool :=
  match Lib.atoiAll s.data.toList with
  | .ok v => if kT v = s ∧ c.lo ≤ v ∧ v ≤ c.hi then (v, true) else (0, false)
  | _ => (0, false)
theorem numE_ok {c : Col} {s : ByteArray} {v : Int} (h : Lib.atoiAll s.data.toList = .ok v) : numE c s = if kT v = s ∧ c.lo ≤ v ∧ v ≤ c.hi then (v, true) else (0, false) := by unfold numE; rw [h]
theorem numE_no {c : Col} {s : ByteArray} (h : ∀ x, Lib.atoiAll s.data.toList ≠ .ok x) : numE c s = (0, false) := by
  unfold numE
  cases hh : Lib.atoiAll s.data.toList
  · exact absurd hh (h _)
  · rfl
  · rfl
def valE (c : Col) (s : ByteArray) : Int × Bool := if vldB c = true then (if 0 < c.ws.length then (mx0 (idxT s c.ws), ge0 (idxT s c.ws)) else numE c s) else (0, false)

set_option maxHeartbeats 1600000 in
set_option maxRecDepth 100000 in
theorem value_words {w : World} {c : Col} (s : ByteArray) (hR : WL w) (ho : ColOk w c) (hv : vldB c = true) (h3 : 0 < c.ws.length) : Calls Tryd.prog 34 #[.agg c.cells, .string s] w fun e w' => e = .returned (.tuple #[.int .i64 (valE c s).1, .bool (valE c s).2]) ∧ Below w.heap.size w w' := by
  have hb : Below w.heap.size w (w.alloc (.cells c.cells 44)) := (Below.refl _ _).alloc (Nat.le_refl _) _
  have hat : ColAt (w.alloc (.cells c.cells 44)) w.heap.size c := heap_alloc_new w _
  have HV := Lib.hid (valid_any (hR.of hb).res (ho.below hb))
  rw [hv] at HV
  have HB := Lib.hid (And.intro hb (And.intro hat (ho.below hb)))
  have HE := Lib.hid (show valE c s = (mx0 (idxT s c.ws), ge0 (idxT s c.ws)) by unfold valE; rw [if_pos hv, if_pos h3])
  have HR := Lib.hid (idxT_range s c.ws)
  have hn63 := ho.few
  clear hb hat ho hR hv
  go_enter Tryd.func34, Tryd.ntmps34
  go_wp2_with fail
  refine HV.out.mono ?_
  rintro e w1 ⟨rfl, hb1⟩
  have c3 := (HB.out.2.1.below hb1).c3
  have HI := Lib.hid (sindex_any (x := s) (c := c.wc) (HB.out.2.2.words.below hb1) HB.out.2.2.few)
  have HF := Lib.hid (HB.out.1.trans (hb1.mono HB.out.1.size))
  have HN := Lib.hid hn63
  obtain ⟨i, hi⟩ : ∃ i, i = idxT s c.ws := ⟨_, rfl⟩
  rw [← hi] at HI HR HE
  clear hb1 HV HB hi
  go_wp2_with fail
  refine HI.out.mono ?_
  rintro e w2 ⟨rfl, rfl⟩
  have HG := Lib.hid (found_any (w := w2) HR.out HN.out)
  unfold fnd at HG
  clear HI
  go_wp2_with fail
  refine HG.out.mono ?_
  rintro e w3 ⟨rfl, rfl⟩
  go_wp2
  go_ret2
  exact ⟨by rw [HE.out]; rfl, HF.out⟩

set_option maxHeartbeats 1600000 in
set_option maxRecDepth 100000 in
theorem value_num {w : World} {c : Col} (s : ByteArray) (hs : s.size ≤ 140737488351232) (hR : WL w) (ho : ColOk w c) (hv : vldB c = true) (h3 : ¬ 0 < c.ws.length) : Calls Tryd.prog 34 #[.agg c.cells, .string s] w fun e w' => e = .returned (.tuple #[.int .i64 (valE c s).1, .bool (valE c s).2]) ∧ Below w.heap.size w w' := by
  have hb : Below w.heap.size w (w.alloc (.cells c.cells 44)) := (Below.refl _ _).alloc (Nat.le_refl _) _
  have hat : ColAt (w.alloc (.cells c.cells 44)) w.heap.size c := heap_alloc_new w _
  have HV := Lib.hid (valid_any (hR.of hb).res (ho.below hb))
  rw [hv] at HV
  have HB := Lib.hid (And.intro hb (And.intro hat (hR.of hb)))
  have HE := Lib.hid (show valE c s = numE c s by unfold valE; rw [if_pos hv, if_neg h3])
  have HS := Lib.hid hs
  clear hb hat ho hR hv hs
  go_enter Tryd.func34, Tryd.ntmps34
  go_wp2_with fail
  refine HV.out.mono ?_
  rintro e w1 ⟨rfl, hb1⟩
  have c3 := (HB.out.2.1.below hb1).c3
  have HW := Lib.hid (HB.out.2.2.of hb1)
  have HA := Lib.hid (atoi_any s HS.out HW.out)
  have HT := Lib.hid (HB.out.2.1.below hb1)
  have HF := Lib.hid (HB.out.1.trans (hb1.mono HB.out.1.size))
  clear hb1 HV HB
  go_wp2_with fail
  refine HA.out.mono ?_
  rintro e w2 ⟨h, hb2⟩
  have hat := HT.out.below hb2
  have c1 := hat.c1
  have c2 := hat.c2
  have HF2 := Lib.hid (HF.out.trans (hb2.mono HF.out.size))
  have HW2 := Lib.hid (HW.out.of hb2)
  have HT2 := Lib.hid hat
  rcases h with ⟨v, rfl, ha, v0, v1⟩ | ⟨v, te, N, rfl, ha⟩
  · have HI := Lib.hid (itoa_any v v0 v1 HW2.out)
    have HN := Lib.hid (numE_ok (c := c) ha)
    obtain ⟨u, hu⟩ : ∃ u, u = kT v := ⟨_, rfl⟩
    rw [← hu] at HI HN
    clear ha hb2 hat HF HW HA HT HW2 hu
    by_cases h1 : u = s
    · have q : (!(u.toList == s.toList)) = false := by rw [str_same h1]; rfl
      by_cases h2 : v < c.lo
      · have HX := Lib.hid (show valE c s = (0, false) by rw [HE.out, HN.out, if_neg (by omega)])
        clear h1 HE HN c1 c2
        go_wp2_with fail
        refine HI.out.mono ?_
        rintro e w3 ⟨rfl, hb3⟩
        have c1 := (HT2.out.below hb3).c1
        have c2 := (HT2.out.below hb3).c2
        have HG := Lib.hid (HF2.out.trans (hb3.mono HF2.out.size))
        clear hb3 HI HF2 HT2
        go_wp2
        go_ret2
        exact ⟨by rw [HX.out]; rfl, HG.out⟩
      · by_cases h4 : c.hi < v
        · have HX := Lib.hid (show valE c s = (0, false) by rw [HE.out, HN.out, if_neg (by omega)])
          clear h1 HE HN c1 c2
          go_wp2_with fail
          refine HI.out.mono ?_
          rintro e w3 ⟨rfl, hb3⟩
          have c1 := (HT2.out.below hb3).c1
          have c2 := (HT2.out.below hb3).c2
          have HG := Lib.hid (HF2.out.trans (hb3.mono HF2.out.size))
          clear hb3 HI HF2 HT2
          go_wp2
          go_ret2
          exact ⟨by rw [HX.out]; rfl, HG.out⟩
        · have HX := Lib.hid (show valE c s = (v, true) by rw [HE.out, HN.out, if_pos ⟨h1, by omega, by omega⟩])
          clear h1 HE HN c1 c2
          go_wp2_with fail
          refine HI.out.mono ?_
          rintro e w3 ⟨rfl, hb3⟩
          have c1 := (HT2.out.below hb3).c1
          have c2 := (HT2.out.below hb3).c2
          have HG := Lib.hid (HF2.out.trans (hb3.mono HF2.out.size))
          clear hb3 HI HF2 HT2
          go_wp2
          go_ret2
          exact ⟨by rw [HX.out]; rfl, HG.out⟩
    · have q : (!(u.toList == s.toList)) = true := by rw [str_ne h1]; rfl
      have HX := Lib.hid (show valE c s = (0, false) by rw [HE.out, HN.out, if_neg (fun h => h1 h.1)])
      clear h1 HE HN c1 c2
      go_wp2_with fail
      refine HI.out.mono ?_
      rintro e w3 ⟨rfl, hb3⟩
      have HG := Lib.hid (HF2.out.trans (hb3.mono HF2.out.size))
      clear hb3 HI HF2 HT2
      go_wp2
      go_ret2
      exact ⟨by rw [HX.out]; rfl, HG.out⟩
  · have HX := Lib.hid (show valE c s = (0, false) by rw [HE.out, numE_no ha])
    clear ha hb2 hat HF HW HA HT HW2 HE c1 c2 HT2
    go_wp2
    go_ret2
    exact ⟨by rw [HX.out]; rfl, HF2.out⟩

set_option maxRecDepth 100000 in
theorem value_any {w : World} {c : Col} (s : ByteArray) (hs : ¬ 0 < c.ws.length → s.size ≤ 140737488351232) (hR : WL w) (ho : ColOk w c) : Calls Tryd.prog 34 #[.agg c.cells, .string s] w fun e w' => e = .returned (.tuple #[.int .i64 (valE c s).1, .bool (valE c s).2]) ∧ Below w.heap.size w w' := by
  cases hv : vldB c with
  | true =>
    by_cases h3 : 0 < c.ws.length
    · exact value_words s hR ho hv h3
    · exact value_num s (hs h3) hR ho hv h3
  | false =>
    have hb : Below w.heap.size w (w.alloc (.cells c.cells 44)) := (Below.refl _ _).alloc (Nat.le_refl _) _
    have HV := Lib.hid (valid_any (hR.of hb).res (ho.below hb))
    rw [hv] at HV
    have HB := Lib.hid hb
    have HE := Lib.hid (show valE c s = (0, false) by unfold valE; rw [if_neg (by rw [hv]; decide)])
    clear hb ho hR hv hs
    go_enter Tryd.func34, Tryd.ntmps34
    go_wp2_with fail
    refine HV.out.mono ?_
    rintro e w1 ⟨rfl, hb1⟩
    have HF := Lib.hid (HB.out.trans (hb1.mono HB.out.size))
    clear hb1 HV HB
    go_wp2
    go_ret2
    exact ⟨by rw [HE.out]; rfl, HF.out⟩

end Go.Proofs.YtgehldadfaonbaaDoor
