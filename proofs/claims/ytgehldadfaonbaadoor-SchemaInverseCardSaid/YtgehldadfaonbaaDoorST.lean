/-
  The reference's Check.
-/
import Derived.Test.YtgehldadfaonbaaDoorSS
namespace Go.Proofs.YtgehldadfaonbaaDoor
open Go.RowKit Go.Shelf Go.ChangeMaps Go.Maps

theorem tabE_cases (s : Sch) (h : tabE s = 0) : nmB s.name = true ∧ manyB s = true ∧ s.cols.length ≠ 0 ∧ s.cols.length ≤ 16 := by
  unfold tabE at h
  by_cases h1 : nmB s.name = false
  · rw [if_pos h1] at h; cases h
  rw [if_neg h1] at h
  by_cases h2 : manyB s = false
  · rw [if_pos h2] at h; cases h
  rw [if_neg h2] at h
  by_cases h3 : s.cols.length = 0
  · rw [if_pos h3] at h; cases h
  rw [if_neg h3] at h
  by_cases h4 : 16 < s.cols.length
  · rw [if_pos h4] at h; cases h
  exact ⟨by simpa using h1, by simpa using h2, h3, by omega⟩
theorem many_cases (s : Sch) : (manyB s = true ∧ (s.pub = true ∧ s.many = 0 ∨ s.pub = false ∧ ¬ s.many < 1 ∧ ¬ 50 < s.many)) ∨ (manyB s = false ∧ (s.pub = true ∧ s.many ≠ 0 ∨ s.pub = false ∧ s.many < 1 ∨ s.pub = false ∧ ¬ s.many < 1 ∧ 50 < s.many)) := by
  unfold manyB lst mst
  cases s.pub
  · simp only [Bool.false_eq_true, if_false, Bool.and_eq_true, Bool.and_eq_false_iff, decide_eq_true_eq, decide_eq_false_iff_not, false_and, true_and, false_or]
    omega
  · simp only [if_true, Bool.and_eq_true, Bool.and_eq_false_iff, decide_eq_true_eq, decide_eq_false_iff_not, false_and, true_and, Bool.true_eq_false, or_false]
    omega

set_option maxHeartbeats 1600000 in
theorem rcheck_name {w : World} {s : Sch} (h : nmB s.name = false) : Calls Tryd.prog 14 #[.agg s.cells] w fun e w' => e = .returned (.tuple #[.int .i64 (chkS s).1, .int .i64 (chkS s).2]) ∧ Below w.heap.size w w' := by
  have HS := Lib.hid (show chkS s = (19, -1) by unfold chkS tabE; rw [if_pos h]; rfl)
  have HC := Lib.hid (rname_any s.name (w.alloc (.cells s.cells 24)))
  rw [h] at HC
  have HB := Lib.hid (show Below w.heap.size w (w.alloc (.cells s.cells 24)) from (Below.refl _ _).alloc (Nat.le_refl _) _)
  clear h
  go_enter Tryd.func14, Tryd.ntmps14
  go_wp2_with fail
  refine HC.out.mono ?_
  rintro e w1 ⟨rfl, hb⟩
  have HF := Lib.hid (HB.out.trans (hb.mono HB.out.size))
  clear hb HC HB
  go_wp2
  go_ret2
  exact ⟨by rw [HS.out]; rfl, HF.out⟩

set_option maxHeartbeats 1600000 in
theorem rcheck_many {w : World} {s : Sch} (h : nmB s.name = true) (h2 : manyB s = false) (hc : s.pub = true ∧ s.many ≠ 0 ∨ s.pub = false ∧ s.many < 1 ∨ s.pub = false ∧ ¬ s.many < 1 ∧ 50 < s.many) : Calls Tryd.prog 14 #[.agg s.cells] w fun e w' => e = .returned (.tuple #[.int .i64 (chkS s).1, .int .i64 (chkS s).2]) ∧ Below w.heap.size w w' := by
  have HS := Lib.hid (show chkS s = (2, -1) by
    have e : tabE s = 2 := by unfold tabE; rw [if_neg (by rw [h]; decide), if_pos h2]
    unfold chkS; rw [e]; rfl)
  have HC := Lib.hid (rname_any s.name (w.alloc (.cells s.cells 24)))
  rw [h] at HC
  have hB : Below w.heap.size w (w.alloc (.cells s.cells 24)) := (Below.refl _ _).alloc (Nat.le_refl _) _
  have HB := Lib.hid (And.intro hB (show SchAt (w.alloc (.cells s.cells 24)) w.heap.size s from heap_alloc_new w _))
  clear h h2 hB
  rcases hc with ⟨hp, hm⟩ | ⟨hp, hm⟩ | ⟨hp, hm, hm2⟩
  · have q : (s.many != 0) = true := by rw [bne_iff_ne]; exact hm
    clear hm
    go_enter Tryd.func14, Tryd.ntmps14
    go_wp2_with fail
    refine HC.out.mono ?_
    rintro e w1 ⟨rfl, hb⟩
    have hs := HB.out.2.below hb
    have d1 := hs.c1
    have d2 := hs.c2
    have HF := Lib.hid (HB.out.1.trans (hb.mono HB.out.1.size))
    clear hb HC HB hs
    go_wp2
    go_ret2
    exact ⟨by rw [HS.out]; rfl, HF.out⟩
  · go_enter Tryd.func14, Tryd.ntmps14
    go_wp2_with fail
    refine HC.out.mono ?_
    rintro e w1 ⟨rfl, hb⟩
    have hs := HB.out.2.below hb
    have d1 := hs.c1
    have d2 := hs.c2
    have HF := Lib.hid (HB.out.1.trans (hb.mono HB.out.1.size))
    clear hb HC HB hs
    go_wp2
    go_ret2
    exact ⟨by rw [HS.out]; rfl, HF.out⟩
  · go_enter Tryd.func14, Tryd.ntmps14
    go_wp2_with fail
    refine HC.out.mono ?_
    rintro e w1 ⟨rfl, hb⟩
    have hs := HB.out.2.below hb
    have d1 := hs.c1
    have d2 := hs.c2
    have HF := Lib.hid (HB.out.1.trans (hb.mono HB.out.1.size))
    clear hb HC HB hs
    go_wp2
    go_ret2
    exact ⟨by rw [HS.out]; rfl, HF.out⟩

set_option maxHeartbeats 1600000 in
theorem rcheck_count {w : World} {s : Sch} (h : nmB s.name = true) (h2 : manyB s = true) (hc : s.pub = true ∧ s.many = 0 ∨ s.pub = false ∧ ¬ s.many < 1 ∧ ¬ 50 < s.many) (hn : s.cols.length = 0 ∨ 16 < s.cols.length) : Calls Tryd.prog 14 #[.agg s.cells] w fun e w' => e = .returned (.tuple #[.int .i64 (chkS s).1, .int .i64 (chkS s).2]) ∧ Below w.heap.size w w' := by
  have HC := Lib.hid (rname_any s.name (w.alloc (.cells s.cells 24)))
  rw [h] at HC
  have hB : Below w.heap.size w (w.alloc (.cells s.cells 24)) := (Below.refl _ _).alloc (Nat.le_refl _) _
  have HB := Lib.hid (And.intro hB (show SchAt (w.alloc (.cells s.cells 24)) w.heap.size s from heap_alloc_new w _))
  have HT := Lib.hid (show tabE s = if s.cols.length = 0 then 3 else if 16 < s.cols.length then 4 else 0 by unfold tabE; rw [if_neg (by rw [h]; decide), if_neg (by rw [h2]; decide)])
  clear h h2 hB
  rcases hn with hn | hn
  · have HS := Lib.hid (show chkS s = (3, -1) by
      have e : tabE s = 3 := by rw [HT.out, if_pos hn]
      unfold chkS; rw [e]; rfl)
    have qn : ((s.cols.length : Int) == 0) = true := by rw [hn]; rfl
    clear hn HT
    rcases hc with ⟨hp, hm⟩ | ⟨hp, hm, hm2⟩
    · have q : (s.many != 0) = false := by rw [hm]; rfl
      clear hm
      go_enter Tryd.func14, Tryd.ntmps14
      go_wp2_with fail
      refine HC.out.mono ?_
      rintro e w1 ⟨rfl, hb⟩
      have hs := HB.out.2.below hb
      have d1 := hs.c1
      have d2 := hs.c2
      have d3 := hs.c3
      have HF := Lib.hid (HB.out.1.trans (hb.mono HB.out.1.size))
      clear hb HC HB hs
      go_wp2
      go_ret2
      exact ⟨by rw [HS.out]; rfl, HF.out⟩
    · go_enter Tryd.func14, Tryd.ntmps14
      go_wp2_with fail
      refine HC.out.mono ?_
      rintro e w1 ⟨rfl, hb⟩
      have hs := HB.out.2.below hb
      have d1 := hs.c1
      have d2 := hs.c2
      have d3 := hs.c3
      have HF := Lib.hid (HB.out.1.trans (hb.mono HB.out.1.size))
      clear hb HC HB hs
      go_wp2
      go_ret2
      exact ⟨by rw [HS.out]; rfl, HF.out⟩
  · have HS := Lib.hid (show chkS s = (4, -1) by
      have e : tabE s = 4 := by rw [HT.out, if_neg (by omega), if_pos hn]
      unfold chkS; rw [e]; rfl)
    have qn : ((s.cols.length : Int) == 0) = false := by rw [beq_eq_false_iff_ne]; omega
    clear HT
    rcases hc with ⟨hp, hm⟩ | ⟨hp, hm, hm2⟩
    · have q : (s.many != 0) = false := by rw [hm]; rfl
      clear hm
      go_enter Tryd.func14, Tryd.ntmps14
      go_wp2_with fail
      refine HC.out.mono ?_
      rintro e w1 ⟨rfl, hb⟩
      have hs := HB.out.2.below hb
      have d1 := hs.c1
      have d2 := hs.c2
      have d3 := hs.c3
      have HF := Lib.hid (HB.out.1.trans (hb.mono HB.out.1.size))
      clear hb HC HB hs
      go_wp2
      go_ret2
      exact ⟨by rw [HS.out]; rfl, HF.out⟩
    · go_enter Tryd.func14, Tryd.ntmps14
      go_wp2_with fail
      refine HC.out.mono ?_
      rintro e w1 ⟨rfl, hb⟩
      have hs := HB.out.2.below hb
      have d1 := hs.c1
      have d2 := hs.c2
      have d3 := hs.c3
      have HF := Lib.hid (HB.out.1.trans (hb.mono HB.out.1.size))
      clear hb HC HB hs
      go_wp2
      go_ret2
      exact ⟨by rw [HS.out]; rfl, HF.out⟩

/-- What holds ahead of column k of the reference's loop. -/
structure RJ (V : World) (s : Sch) (k : Nat) (W : World) : Prop where
  bl : Below V.heap.size V W
  ok : ∀ j, j < k → chkC (namesOf s.cols j) (s.cols.getD j default) = 0
theorem memB_names {L : List Col} {k : Nat} {x : ByteArray} (hk : k ≤ L.length) : memB x (namesOf L k) = true ↔ ∃ j, j < k ∧ (L.getD j default).name = x := by
  rw [memB_iff]
  unfold namesOf
  rw [List.mem_map]
  constructor
  · rintro ⟨c, hc, rfl⟩
    obtain ⟨j, hj, rfl⟩ := List.mem_iff_getElem.1 hc
    rw [List.length_take] at hj
    refine ⟨j, by omega, ?_⟩
    rw [List.getElem_take, List.getD_eq_getElem?_getD, List.getElem?_eq_getElem (by omega)]; rfl
  · rintro ⟨j, hj, rfl⟩
    rw [List.getD_eq_getElem?_getD, List.getElem?_eq_getElem (by omega)]
    exact ⟨L[j], List.mem_take_iff_getElem.2 ⟨j, by omega, rfl⟩, rfl⟩

set_option maxHeartbeats 6400000 in
set_option maxRecDepth 100000 in
theorem rcheck_cols {w : World} {s : Sch} (hC : CL w s.ca s.cols) (hO : ColsOk w s.cols) (hE : tabE s = 0) (hc : s.pub = true ∧ s.many = 0 ∨ s.pub = false ∧ ¬ s.many < 1 ∧ ¬ 50 < s.many) : Calls Tryd.prog 14 #[.agg s.cells] w fun e w' => e = .returned (.tuple #[.int .i64 (chkS s).1, .int .i64 (chkS s).2]) ∧ Below w.heap.size w w' := by
  obtain ⟨hn, hm, h0, h16⟩ := tabE_cases s hE
  have HC := Lib.hid (rname_any s.name (w.alloc (.cells s.cells 24)))
  rw [hn] at HC
  have hB : Below w.heap.size w (w.alloc (.cells s.cells 24)) := (Below.refl _ _).alloc (Nat.le_refl _) _
  have HB := Lib.hid (And.intro hB (And.intro (show SchAt (w.alloc (.cells s.cells 24)) w.heap.size s from heap_alloc_new w _) (And.intro (hC.below hB) (hO.below hB))))
  have HS := Lib.hid (show chkS s = chkFrom [] s.cols from if_pos hE)
  have qn : ((s.cols.length : Int) == 0) = false := by rw [beq_eq_false_iff_ne]; omega
  have hbi : w.heap.size < (w.alloc (.cells s.cells 24)).heap.size := by simp
  clear hn hm h0 hE hB hC hO
  have hcase : (s.pub = true ∧ (s.many != 0) = false) ∨ (s.pub = false ∧ ¬ s.many < 1 ∧ ¬ 50 < s.many) := by
    rcases hc with ⟨hp, hm⟩ | h
    · exact .inl ⟨hp, by rw [hm]; rfl⟩
    · exact .inr h
  clear hc
  rcases hcase with ⟨hp, hm⟩ | ⟨hp, hm, hm2⟩
  all_goals
    go_enter Tryd.func14, Tryd.ntmps14
    go_wp2_with fail
    refine HC.out.mono ?_
    rintro e V ⟨rfl, hb⟩
    have hs := HB.out.2.1.below hb
    have d1 := hs.c1
    have d2 := hs.c2
    have d3 := hs.c3
    have HV := Lib.hid (And.intro (HB.out.1.trans (hb.mono HB.out.1.size)) (And.intro hs (And.intro (HB.out.2.2.1.below hb) (HB.out.2.2.2.below hb))))
    have HZ := Lib.hid (show w.heap.size < V.heap.size from Nat.lt_of_lt_of_le hbi hb.size)
    clear hb HC HB hs hbi
    go_wp2_with fail
    clear d1 d2 d3
    obtain ⟨N, hN⟩ : ∃ N, N = s.cols.length := ⟨_, rfl⟩
    rw [← hN] at h16 qn
    have HN := Lib.hid hN
    have HN2 := Lib.hid hN.symm
    clear hN
    go_loopw [4] (fun i wr => ∃ k : Nat, k ≤ N ∧ i = .int .i64 (k : Int) ∧ Hid (RJ V s k wr)) (fun i _ => N - (intOf i).toNat)
    case atStart => exact ⟨0, Nat.zero_le _, rfl, Lib.hid ⟨Below.refl _ _, fun j hj => absurd hj (Nat.not_lt_zero _)⟩⟩
    case round =>
      obtain ⟨k, hk, rfl, HJ⟩ := hrel
      have d3 := (HV.out.2.1.below HJ.out.bl).c3
      rw [← HN.out] at d3
      by_cases hlt : k < N
      · have hlt2 : k < s.cols.length := by rw [← HN.out]; exact hlt
        obtain ⟨ad, ea, c0, c1, c2, c3⟩ := (HV.out.2.2.1.below HJ.out.bl).at hlt2
        have hok := (HV.out.2.2.2.below HJ.out.bl) k hlt2
        have HAT := Lib.hid (chk_at s.cols [] k hlt2)
        have HMB := Lib.hid (fun x => memB_names (L := s.cols) (k := k) (x := x) (Nat.le_of_lt hlt2))
        obtain ⟨c, hc⟩ : ∃ c, c = s.cols.getD k default := ⟨_, rfl⟩
        rw [← hc] at c0 c1 c2 c3 hok HAT
        rw [ea] at d3
        obtain ⟨W1, hW1⟩ : ∃ W1, W1 = wr.alloc (.cells #[.string c.name, .int .i64 c.lo, .int .i64 c.hi, .slice c.wa c.ws.length c.wc] 44) := ⟨_, rfl⟩
        have hi1 : Below wr.heap.size wr W1 := by rw [hW1]; exact (Below.refl _ _).alloc (Nat.le_refl _) _
        have hat : ColAt W1 wr.heap.size c := by rw [hW1]; exact heap_alloc_new wr _
        have e0 := hat.c0
        have HX := Lib.hid (And.intro (HJ.out.bl.trans (hi1.mono HJ.out.bl.size)) (And.intro hat (hok.below hi1)))
        have HNM := Lib.hid (rname_any c.name W1)
        have HEA := Lib.hid ea
        have HCC := Lib.hid hc
        clear hi1 hat hok hc ea hlt2
        cases hv : nmB c.name with
        | false =>
          rw [hv] at HNM
          have HR := Lib.hid (show chkS s = (19, (k : Int)) by
            have e1 : chkC (namesOf s.cols k) c = 19 := by unfold chkC; rw [if_pos hv]
            rw [HS.out, HAT.out HJ.out.ok (by show chkC (namesOf s.cols k) c ≠ 0; rw [e1]; omega)]
            show (chkC (namesOf s.cols k) c, _) = _
            rw [e1]; simp)
          clear hv
          subst hW1
          go_wp2_with fail
          refine HNM.out.mono ?_
          rintro e w1 ⟨rfl, hb⟩
          have HF := Lib.hid (show Below w.heap.size w w1 from HV.out.1.trans ((HX.out.1.trans (hb.mono HX.out.1.size)).mono HV.out.1.size))
          clear hb HNM HX c0 c1 c2 c3 e0 d3 HJ
          go_wp2_with fail
          go_ret2
          exact ⟨by rw [HR.out]; rfl, HF.out⟩
        | true =>
          rw [hv] at HNM
          have HVN := Lib.hid hv
          clear hv
          subst hW1
          go_wp2_with fail
          refine HNM.out.mono ?_
          rintro e w1 ⟨rfl, hb⟩
          have hV1 := HX.out.1.trans (hb.mono HX.out.1.size)
          have hat := HX.out.2.1.below hb
          have HK := Lib.hid (And.intro hV1 (And.intro hat (HX.out.2.2.below hb)))
          clear hb HNM HX c0 c1 c2 c3 e0 d3 hV1 hat
          go_wp2_with fail
          go_loopw [6] (fun i wi => ∃ q n : Nat, q ≤ k ∧ i = .int .i64 (q : Int) ∧ wi = w1.drewN n ∧ Hid (∀ j, j < q → (s.cols.getD j default).name ≠ c.name)) (fun i _ => k - (intOf i).toNat)
          case atStart => exact ⟨0, 0, Nat.zero_le _, rfl, rfl, Lib.hid (fun j hj => absurd hj (Nat.not_lt_zero _))⟩
          case round =>
            obtain ⟨q, n, hq, rfl, rfl, HQ⟩ := hrel
            have d3 := (HV.out.2.1.below HK.out.1).c3
            rw [← HN.out, HEA.out] at d3
            have e0 := HK.out.2.1.c0
            by_cases hlt3 : q < k
            · have hqN : q < N := by omega
              obtain ⟨ad', ea', f0, _, _, _⟩ := (HV.out.2.2.1.below HK.out.1).at (j := q) (by rw [← HN.out]; exact hqN)
              obtain rfl : ad = ad' := Option.some.inj (HEA.out.symm.trans ea')
              obtain ⟨x, hx⟩ : ∃ x, x = (s.cols.getD q default).name := ⟨_, rfl⟩
              rw [← hx] at f0
              have HXX := Lib.hid hx
              clear hx ea'
              by_cases he : x = c.name
              · have hne := str_same he
                have HR := Lib.hid (show chkS s = (8, (k : Int)) by
                  have hmb : memB c.name (namesOf s.cols k) = true := (HMB.out c.name).2 ⟨q, hlt3, by rw [← HXX.out]; exact he⟩
                  have e1 : chkC (namesOf s.cols k) c = 8 := by unfold chkC; rw [if_neg (by rw [HVN.out]; decide), if_pos hmb]
                  rw [HS.out, HAT.out HJ.out.ok (by show chkC (namesOf s.cols k) c ≠ 0; rw [e1]; omega)]
                  show (chkC (namesOf s.cols k) c, _) = _
                  rw [e1]; simp)
                have HF := Lib.hid (HV.out.1.trans (HK.out.1.mono HV.out.1.size))
                clear he HK HQ HJ
                go_wp2_with fail
                go_quiet (fail)
                go_wp2_with fail
                go_ret2
                exact ⟨by rw [HR.out]; rfl, below_drewN (below_drewN HF.out _) _⟩
              · have hne := str_ne he
                have HQ2 := Lib.hid (show ∀ j, j < q + 1 → (s.cols.getD j default).name ≠ c.name from fun j hj => by
                  rcases Nat.lt_succ_iff_lt_or_eq.1 hj with h | rfl
                  · exact HQ.out j h
                  · rw [← HXX.out]; exact he)
                clear he HQ
                go_wp2_with fail
                go_quiet (fail)
                go_wp2_with fail
                go_roundw
                case rel => exact ⟨q + 1, _, by omega, by go_num, rfl, Lib.hid HQ2.out⟩
                case measure => simp [intOf]; omega
            · obtain rfl : k = q := by omega
              have hmb : memB c.name (namesOf s.cols k) = false := by
                cases e : memB c.name (namesOf s.cols k) with
                | false => rfl
                | true =>
                  obtain ⟨j, hj, he⟩ := (HMB.out c.name).1 e
                  exact absurd he (HQ.out j hj)
              have e1 := HK.out.2.1.c1
              have e2 := HK.out.2.1.c2
              have e3 := HK.out.2.1.c3
              have hdw := below_drewN (Below.refl w1.heap.size w1) n
              have HCOL := Lib.hid (rcol_any (HK.out.2.2.below hdw))
              have HCE := Lib.hid (show chkC (namesOf s.cols k) c = colE c by rw [chkC_colE, if_neg (by rw [HVN.out]; decide), if_neg (by rw [hmb]; decide)])
              have HBD := Lib.hid (HK.out.1.trans (hdw.mono HK.out.1.size))
              clear hmb hdw HQ d3
              go_wp2_with fail
              refine HCOL.out.mono ?_
              rintro e w2 ⟨rfl, hb2⟩
              have HB2 := Lib.hid (HBD.out.trans (hb2.mono HBD.out.size))
              obtain ⟨v, hv⟩ : ∃ v, v = colE c := ⟨_, rfl⟩
              rw [← hv]
              by_cases hz : v = 0
              · have hq0 : (v != 0) = false := by rw [hz]; rfl
                have HJ2 := Lib.hid (show RJ V s (k + 1) w2 from ⟨HB2.out, fun j hj => by
                  rcases Nat.lt_succ_iff_lt_or_eq.1 hj with h | rfl
                  · exact HJ.out.ok j h
                  · rw [← HCC.out, HCE.out, ← hv]; exact hz⟩)
                clear hz hv hb2 HCOL HB2 HJ HK HBD e0 e1 e2 e3
                go_wp2_with fail
                go_roundw
                case rel => exact ⟨k + 1, by omega, by go_num, HJ2.out⟩
                case measure => simp [intOf]; omega
              · have hq0 : (v != 0) = true := by rw [bne_iff_ne]; exact hz
                have HR := Lib.hid (show chkS s = (v, (k : Int)) by
                  rw [HS.out, HAT.out HJ.out.ok (by show chkC (namesOf s.cols k) c ≠ 0; rw [HCE.out, ← hv]; exact hz)]
                  show (chkC (namesOf s.cols k) c, _) = _
                  rw [HCE.out, ← hv]; simp)
                have HF := Lib.hid (HV.out.1.trans (HB2.out.mono HV.out.1.size))
                clear hz hv hb2 HCOL HB2 HJ HK HBD e0 e1 e2 e3
                go_wp2_with fail
                go_ret2
                exact ⟨by rw [HR.out]; rfl, HF.out⟩
      · obtain rfl : N = k := by omega
        have HR := Lib.hid (show chkS s = (0, -1) by
          rw [HS.out]
          exact chk_all s.cols [] (fun j hj => HJ.out.ok j (by rw [HN.out]; exact hj)))
        have HF := Lib.hid (HV.out.1.trans (HJ.out.bl.mono HV.out.1.size))
        clear HJ
        go_wp2_with fail
        go_ret2
        exact ⟨by rw [HR.out]; rfl, HF.out⟩

/-- The reference's Check, for every schema that lies in memory. -/
theorem rcheck_any {w : World} {s : Sch} (hC : CL w s.ca s.cols) (hO : ColsOk w s.cols) : Calls Tryd.prog 14 #[.agg s.cells] w fun e w' => e = .returned (.tuple #[.int .i64 (chkS s).1, .int .i64 (chkS s).2]) ∧ Below w.heap.size w w' := by
  cases h1 : nmB s.name with
  | false => exact rcheck_name h1
  | true =>
    rcases many_cases s with ⟨h2, hc⟩ | ⟨h2, hc⟩
    · by_cases h3 : s.cols.length = 0 ∨ 16 < s.cols.length
      · exact rcheck_count h1 h2 hc h3
      · have hE : tabE s = 0 := by unfold tabE; rw [if_neg (by rw [h1]; decide), if_neg (by rw [h2]; decide), if_neg (by omega), if_neg (by omega)]
        exact rcheck_cols hC hO hE hc
    · exact rcheck_many h1 h2 hc

end Go.Proofs.YtgehldadfaonbaaDoor
