/-
  The program's Check.
-/
import Derived.Test.YtgehldadfaonbaaDoorSQ
namespace Go.Proofs.YtgehldadfaonbaaDoor
open Go.RowKit Go.Shelf Go.ChangeMaps Go.Maps

set_option maxHeartbeats 1600000 in
theorem check_table {w : World} {s : Sch} (hR : Res w) (hE : tabE s ≠ 0) : Calls Tryd.prog 13 #[.agg s.cells] w fun e w' => e = .returned (.tuple #[.int .i64 (chkS s).1, .int .i64 (chkS s).2]) ∧ Below w.heap.size w w' := by
  have HS := Lib.hid (show chkS s = (tabE s, -1) from if_neg hE)
  obtain ⟨A, hA⟩ : ∃ A, A = w.alloc (.cells s.cells 24) := ⟨_, rfl⟩
  have hs : SchAt A w.heap.size s := by rw [hA]; exact heap_alloc_new w _
  have hwA : Below w.heap.size w A := by rw [hA]; exact (Below.refl _ _).alloc (Nat.le_refl _) _
  have d0 := hs.c0
  have d1 := hs.c1
  have d2 := hs.c2
  have d3 := hs.c3
  have HA := Lib.hid (And.intro (hR.of hwA) hwA)
  have hq : (tabE s != 0) = true := by rw [bne_iff_ne]; exact hE
  clear hs hwA hR hE
  subst hA
  go_enter Tryd.func13, Tryd.ntmps13
  go_wp2_with fail
  refine (tableChecks_any _ s).mono ?_
  rintro e w1 ⟨bl, b, l, m, v0, v1, v2, v3, rfl, ht, h1⟩
  clear d0 d1 d2 d3
  have HT := Lib.hid (tabFirst_any (cap := 4) ht (HA.out.1.of h1))
  have H1 := Lib.hid (HA.out.2.trans (h1.mono HA.out.2.size))
  clear ht h1
  go_wp2_with fail
  refine HT.out.mono ?_
  rintro e w2 ⟨rfl, h2⟩
  have HB := Lib.hid (H1.out.trans (h2.mono H1.out.size))
  obtain ⟨t, ht⟩ : ∃ t, t = tabE s := ⟨_, rfl⟩
  rw [← ht]
  rw [← ht] at hq HS
  clear h2 HT H1 ht
  go_wp2
  go_ret2
  exact ⟨by rw [HS.out]; rfl, HB.out⟩

/-- What holds ahead of column k: V the world behind the map's making. -/
structure ChkJ (V : World) (s : Sch) (mb k : Nat) (S : ByteArray → ByteArray → Bool) (W : World) : Prop where
  ch : Ch (fun j => j = mb) V W
  marks : Marks W mb (k * 65) S
  seen : Seen (namesOf s.cols k) S
  ok : ∀ j, j < k → chkC (namesOf s.cols j) (s.cols.getD j default) = 0
theorem namesOf_succ {L : List Col} {k : Nat} (h : k < L.length) : namesOf L (k + 1) = namesOf L k ++ [(L.getD k default).name] := by
  unfold namesOf
  rw [List.take_succ_eq_append_getElem h, List.map_append, List.getD_eq_getElem?_getD, List.getElem?_eq_getElem h]; rfl

set_option maxHeartbeats 6400000 in
set_option maxRecDepth 100000 in
theorem check_cols {w : World} {s : Sch} (hR : Res w) (hC : CL w s.ca s.cols) (hO : ColsOk w s.cols) (hE : tabE s = 0) : Calls Tryd.prog 13 #[.agg s.cells] w fun e w' => e = .returned (.tuple #[.int .i64 (chkS s).1, .int .i64 (chkS s).2]) ∧ Below w.heap.size w w' := by
  have HS := Lib.hid (show chkS s = chkFrom [] s.cols from if_pos hE)
  have h16 : s.cols.length ≤ 16 := by
    unfold tabE at hE
    by_cases h1 : nmB s.name = false
    · rw [if_pos h1] at hE; cases hE
    rw [if_neg h1] at hE
    by_cases h2 : manyB s = false
    · rw [if_pos h2] at hE; cases hE
    rw [if_neg h2] at hE
    by_cases h3 : s.cols.length = 0
    · omega
    rw [if_neg h3] at hE
    by_cases h4 : 16 < s.cols.length
    · rw [if_pos h4] at hE; cases hE
    · omega
  obtain ⟨A, hA⟩ : ∃ A, A = w.alloc (.cells s.cells 24) := ⟨_, rfl⟩
  have hs : SchAt A w.heap.size s := by rw [hA]; exact heap_alloc_new w _
  have hwA : Below w.heap.size w A := by rw [hA]; exact (Below.refl _ _).alloc (Nat.le_refl _) _
  have d0 := hs.c0
  have d1 := hs.c1
  have d2 := hs.c2
  have d3 := hs.c3
  have HA := Lib.hid (And.intro (hR.of hwA) (And.intro hwA (And.intro hs (And.intro (hC.below hwA) (hO.below hwA)))))
  have hmm := @run_makeMap Tryd.prog
  have HE := Lib.hid hE
  clear hs hwA hR hE hC hO
  subst hA
  go_enter Tryd.func13, Tryd.ntmps13
  go_wp2_with fail
  refine (tableChecks_any _ s).mono ?_
  rintro e w1 ⟨bl, b, l, m, v0, v1, v2, v3, rfl, ht, h1⟩
  clear d0 d1 d2 d3
  have HT := Lib.hid (tabFirst_any (cap := 4) ht (HA.out.1.of h1))
  have H1 := Lib.hid h1
  clear ht h1
  go_wp2_with fail
  refine HT.out.mono ?_
  rintro e w2 ⟨rfl, h2⟩
  rw [HE.out]
  have hb2 := H1.out.trans (h2.mono H1.out.size)
  obtain ⟨V, hV⟩ : ∃ V, V = w2.alloc (.map #[] 0) := ⟨_, rfl⟩
  have hVb : Below w2.heap.size w2 V := by rw [hV]; exact (Below.refl _ _).alloc (Nat.le_refl _) _
  have hbV := hb2.trans (hVb.mono hb2.size)
  have hm : Marks V w2.heap.size 0 (fun _ _ => false) := by rw [hV]; exact Marks.made w2
  have HVV := Lib.hid (And.intro (HA.out.1.of hbV) (And.intro (HA.out.2.2.1.below hbV) (And.intro (HA.out.2.2.2.1.below hbV) (And.intro (HA.out.2.2.2.2.below hbV) (And.intro hm (HA.out.2.1.trans (hbV.mono HA.out.2.1.size)))))))
  have d3 := (HA.out.2.2.1.below hbV).c3
  have HZ := Lib.hid (show w.heap.size < w2.heap.size by have := hb2.size; rw [World.size_alloc] at this; omega)
  clear hb2 hVb hbV hm h2 HT H1 HE HA
  subst hV
  go_wp2_with fail
  obtain ⟨V, hV⟩ : ∃ V, V = w2.alloc (.map #[] 0) := ⟨_, rfl⟩
  rw [← hV] at HVV
  rw [← hV]
  clear hV d3 hmm
  obtain ⟨mb, hmb⟩ : ∃ mb, mb = w2.heap.size := ⟨_, rfl⟩
  rw [← hmb] at HVV HZ
  rw [← hmb]
  clear hmb
  obtain ⟨N, hN⟩ : ∃ N, N = s.cols.length := ⟨_, rfl⟩
  rw [← hN]
  rw [← hN] at h16
  have HN := Lib.hid hN
  clear hN
  go_loopw [19] (fun i wr => ∃ (k : Nat) (S : ByteArray → ByteArray → Bool), k ≤ N ∧ i = .int .i64 (k : Int) ∧ Hid (ChkJ V s mb k S wr)) (fun i _ => N - (intOf i).toNat)
  case atStart =>
    refine ⟨0, fun _ _ => false, Nat.zero_le _, rfl, Lib.hid ⟨Ch.refl _ _, by rw [Nat.zero_mul]; exact HVV.out.2.2.2.2.1, ⟨fun x => rfl, fun _ _ _ _ => rfl⟩, fun j hj => absurd hj (Nat.not_lt_zero _)⟩⟩
  case round =>
    obtain ⟨k, S, hk, rfl, HJ⟩ := hrel
    by_cases hlt : k < N
    · have hlt2 : k < s.cols.length := by rw [← HN.out]; exact hlt
      obtain ⟨hRV, hsV, hCV, hOV, hmV, hwV⟩ := HVV.out
      have hch := HJ.out.ch
      obtain ⟨ad, ea, c0, c1, c2, c3⟩ := (hCV.map hmV hch).at hlt2
      have hok := hOV.map hmV hch k hlt2
      have hRr : Res wr := hRV.ch hch (by obtain ⟨t, fr, hr⟩ := hRV; exact hmV.cells hr)
      have hsc := HJ.out.marks
      have HNS := Lib.hid (namesOf_succ hlt2)
      have HAT := Lib.hid (chk_at s.cols [] k hlt2)
      obtain ⟨c, hc⟩ : ∃ c, c = s.cols.getD k default := ⟨_, rfl⟩
      rw [← hc] at c0 c1 c2 c3 hok HNS HAT
      obtain ⟨W1, hW1⟩ : ∃ W1, W1 = wr.alloc (.cells #[.string c.name, .int .i64 c.lo, .int .i64 c.hi, .slice c.wa c.ws.length c.wc] 44) := ⟨_, rfl⟩
      have hi1 : Below wr.heap.size wr W1 := by rw [hW1]; exact (Below.refl _ _).alloc (Nat.le_refl _) _
      have hat : ColAt W1 wr.heap.size c := by rw [hW1]; exact heap_alloc_new wr _
      have e0 := hat.c0
      have e1 := hat.c1
      have e2 := hat.c2
      have e3 := hat.c3
      have HX := Lib.hid (And.intro hi1 (And.intro (hok.below hi1) (And.intro (hRr.of hi1) (hsc.ch (Ch.below (S := fun _ => False) hi1) (fun h => h)))))
      have HC := Lib.hid hc
      have hfew := hok.few
      rw [ea]
      clear hi1 hat hRV hsV hCV hOV hmV hwV hch hok hRr hsc hc ea hlt2
      by_cases hw : 0 < c.ws.length
      · subst hW1
        go_wp2_with fail
        clear c0 c1 c2 c3 e0 e1 e2 e3
        refine (columnChecks_words _ c mb hfew hw).mono ?_
        rintro e w3 ⟨g, cap, b', q, bi, x0, x1, bl', bw, qw, y0, y1, y2, y3, rfl, _, hl, hg, hh, hwd, h3⟩
        have HF := Lib.hid (colFirst_words (cap := cap) hl hg hh hwd (HX.out.2.2.2.ch (Ch.below (S := fun _ => False) h3) (fun h => h)) (HX.out.2.1.below h3) (HX.out.2.2.1.of h3) HJ.out.seen (by unfold maxLen; omega) (by omega))
        have H3 := Lib.hid (HX.out.1.trans (h3.mono HX.out.1.size))
        clear hl hg hh hwd h3 HX
        go_wp2_with fail
        refine HF.out.mono ?_
        rintro e w4 ⟨rfl, h4, hm4⟩
        have hch4 : Ch (fun j => j = mb) V w4 := HJ.out.ch.trans ((Ch.below H3.out).trans h4)
        obtain ⟨v, hv⟩ : ∃ v, v = chkC (namesOf s.cols k) c := ⟨_, rfl⟩
        rw [← hv]
        by_cases hz : v = 0
        · have hq : (v != 0) = false := by rw [hz]; rfl
          have hfe := chkC_few (hv.symm.trans hz)
          have HJ2 := Lib.hid (show ChkJ V s mb (k + 1) (markC S c) w4 from ⟨hch4, (hm4 (hv.symm.trans hz)).mono (by omega), by rw [HNS.out]; exact HJ.out.seen.step hfe.2, fun j hj => by
            rcases Nat.lt_succ_iff_lt_or_eq.1 hj with h | rfl
            · exact HJ.out.ok j h
            · rw [← HC.out]; exact hv.symm.trans hz⟩)
          clear hz hv h4 hm4 hch4 hfe HF H3 HJ HNS HAT HC hfew hw
          go_wp2_with fail
          go_roundw
          case rel => exact ⟨k + 1, markC S c, by omega, by go_num, HJ2.out⟩
          case measure => simp [intOf]; omega
        · have hq : (v != 0) = true := by rw [bne_iff_ne]; exact hz
          have HR := Lib.hid (show chkS s = (v, (k : Int)) by
            rw [HS.out, HAT.out HJ.out.ok (by show chkC (namesOf s.cols k) c ≠ 0; rw [← hv]; exact hz)]
            show (chkC (namesOf s.cols k) c, _) = _
            rw [← hv]; simp)
          have HB := Lib.hid (show Below w.heap.size w w4 from HVV.out.2.2.2.2.2.trans (hch4.to_below HVV.out.2.2.2.2.2.size (fun j e => by rw [e]; have := HZ.out; omega)))
          clear hz hv h4 hm4 hch4 HF H3 HJ HNS HAT HC hfew hw
          go_wp2_with fail
          go_ret2
          exact ⟨by rw [HR.out]; rfl, HB.out⟩
      · subst hW1
        go_wp2_with fail
        clear c0 c1 c2 c3 e0 e1 e2 e3
        refine (columnChecks_none _ c mb hfew hw).mono ?_
        rintro e w3 ⟨g, cap, b', q, bi, x0, x1, y0, rfl, _, hl, hg, hh, hwd, h3⟩
        have HF := Lib.hid (colFirst_none (cap := cap) hl hg hh hwd (HX.out.2.2.2.ch (Ch.below (S := fun _ => False) h3) (fun h => h)) (HX.out.2.1.below h3) (HX.out.2.2.1.of h3) HJ.out.seen (by unfold maxLen; omega) (by omega))
        have H3 := Lib.hid (HX.out.1.trans (h3.mono HX.out.1.size))
        clear hl hg hh hwd h3 HX
        go_wp2_with fail
        refine HF.out.mono ?_
        rintro e w4 ⟨rfl, h4, hm4⟩
        have hch4 : Ch (fun j => j = mb) V w4 := HJ.out.ch.trans ((Ch.below H3.out).trans h4)
        obtain ⟨v, hv⟩ : ∃ v, v = chkC (namesOf s.cols k) c := ⟨_, rfl⟩
        rw [← hv]
        by_cases hz : v = 0
        · have hq : (v != 0) = false := by rw [hz]; rfl
          have hfe := chkC_few (hv.symm.trans hz)
          have HJ2 := Lib.hid (show ChkJ V s mb (k + 1) (markC S c) w4 from ⟨hch4, (hm4 (hv.symm.trans hz)).mono (by omega), by rw [HNS.out]; exact HJ.out.seen.step hfe.2, fun j hj => by
            rcases Nat.lt_succ_iff_lt_or_eq.1 hj with h | rfl
            · exact HJ.out.ok j h
            · rw [← HC.out]; exact hv.symm.trans hz⟩)
          clear hz hv h4 hm4 hch4 hfe HF H3 HJ HNS HAT HC hfew hw
          go_wp2_with fail
          go_roundw
          case rel => exact ⟨k + 1, markC S c, by omega, by go_num, HJ2.out⟩
          case measure => simp [intOf]; omega
        · have hq : (v != 0) = true := by rw [bne_iff_ne]; exact hz
          have HR := Lib.hid (show chkS s = (v, (k : Int)) by
            rw [HS.out, HAT.out HJ.out.ok (by show chkC (namesOf s.cols k) c ≠ 0; rw [← hv]; exact hz)]
            show (chkC (namesOf s.cols k) c, _) = _
            rw [← hv]; simp)
          have HB := Lib.hid (show Below w.heap.size w w4 from HVV.out.2.2.2.2.2.trans (hch4.to_below HVV.out.2.2.2.2.2.size (fun j e => by rw [e]; have := HZ.out; omega)))
          clear hz hv h4 hm4 hch4 HF H3 HJ HNS HAT HC hfew hw
          go_wp2_with fail
          go_ret2
          exact ⟨by rw [HR.out]; rfl, HB.out⟩
    · obtain rfl : N = k := by omega
      have HR := Lib.hid (show chkS s = (0, -1) by
        rw [HS.out]
        exact chk_all s.cols [] (fun j hj => HJ.out.ok j (by rw [HN.out]; exact hj)))
      have HB := Lib.hid (show Below w.heap.size w wr from HVV.out.2.2.2.2.2.trans (HJ.out.ch.to_below HVV.out.2.2.2.2.2.size (fun j e => by rw [e]; have := HZ.out; omega)))
      clear HJ
      go_wp2_with fail
      go_ret2
      exact ⟨by rw [HR.out]; rfl, HB.out⟩

/-- The program's Check, for every schema that lies in memory. -/
theorem check_any2 {w : World} {s : Sch} (hR : Res w) (hC : CL w s.ca s.cols) (hO : ColsOk w s.cols) : Calls Tryd.prog 13 #[.agg s.cells] w fun e w' => e = .returned (.tuple #[.int .i64 (chkS s).1, .int .i64 (chkS s).2]) ∧ Below w.heap.size w w' := by
  by_cases hE : tabE s = 0
  · exact check_cols hR hC hO hE
  · exact check_table hR hE

end Go.Proofs.YtgehldadfaonbaaDoor
