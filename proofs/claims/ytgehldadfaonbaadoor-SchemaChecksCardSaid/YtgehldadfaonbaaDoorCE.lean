/-
  The program's Copy, walked.
-/
import Derived.Test.YtgehldadfaonbaaDoorCD
namespace Go.Proofs.YtgehldadfaonbaaDoor
open Go.RowKit Go.Shelf Go.ChangeMaps Go.Maps

set_option maxHeartbeats 6400000 in
set_option maxRecDepth 100000 in
theorem pcopy_any {w : World} {s : Sch} (hC : CL w s.ca s.cols) (hO : ColsOk w s.cols) (hc : SchCap s) (h100 : s.cols.length ≤ 100) (hw : ∀ j, j < s.cols.length → (s.cols.getD j default).ws.length ≤ 100) :
    Calls Tryd.prog 16 #[.agg s.cells] w (CopyP w s) := by
  obtain ⟨A, hA⟩ : ∃ A, A = w.alloc (.cells s.cells 24) := ⟨_, rfl⟩
  obtain ⟨V, hV⟩ : ∃ V, V = A.alloc (.cells #[.string ⟨#[]⟩, .bool false, .int .i64 0, .slice none 0 0] 24) := ⟨_, rfl⟩
  have sA : A.heap.size = w.heap.size + 1 := by rw [hA]; simp
  have sV : V.heap.size = w.heap.size + 2 := by rw [hV, World.size_alloc, sA]
  have hwA : Below w.heap.size w A := by rw [hA]; exact (Below.refl _ _).alloc (Nat.le_refl _) _
  have hAV : Below A.heap.size A V := by rw [hV]; exact (Below.refl _ _).alloc (Nat.le_refl _) _
  have hwV := hwA.trans (hAV.mono hwA.size)
  have hv1 : SchAt V w.heap.size s := SchAt.below (w := A) (by rw [hA]; exact heap_alloc_new w _) hAV
  have hv2 : SchAt V (w.heap.size + 1) default := by rw [hV, ← sA]; exact heap_alloc_new A _
  have HCL := Lib.hid (show Calls Tryd.prog 43 #[.slice s.ca s.cols.length s.cc] V fun e w' => ∃ a' c', e = .returned (.slice a' s.cols.length c') ∧ w'.ownsRow (w.heap.size + 2) 44 4 (.slice a' s.cols.length c') s.cols.length (flat s.cols) ∧ Below V.heap.size V w' from
    (cloneC_any (hC.below hwV) hc.le hc.none h100).mono fun e w' ⟨a', c', g1, g2, g3⟩ => ⟨a', c', g1, by rw [sV] at g2; exact g2, g3⟩)
  have HV := Lib.hid (And.intro hwV (And.intro hv1 hv2))
  have HX := Lib.hid (And.intro hO (And.intro hc hw))
  have d3 := hv1.c3
  clear hC hO hc hw hwA hAV hwV sA sV hv1 hv2
  subst hV
  subst hA
  go_enter Tryd.func16, Tryd.ntmps16
  go_wp2_with fail
  refine HCL.out.mono ?_
  rintro e w1 ⟨a1, c1, rfl, ho, hb⟩
  have h1 := HV.out.2.1.below hb
  have HJ0 := Lib.hid (cq_start (HV.out.1.trans (hb.mono HV.out.1.size)) h1 (HV.out.2.2.below hb) ho)
  have d3 := h1.c3
  have z3 := frozen_of_row w1 w.heap.size 3 _ _ h1
  obtain ⟨N, hN⟩ : ∃ N, N = s.cols.length := ⟨_, rfl⟩
  have HN := Lib.hid hN
  rw [← hN]
  rw [← hN] at h100 HJ0 d3
  clear ho hb h1 HCL HV hN
  go_wp2_with fail
  clear d3 z3
  obtain ⟨V, hV⟩ : ∃ V, V = w1.setCell ⟨w.heap.size, 3, none⟩ (.slice a1 N c1) := ⟨_, rfl⟩
  rw [← hV] at HJ0
  rw [← hV]
  clear hV
  obtain ⟨b1, hb1⟩ : ∃ b1, b1 = w.heap.size := ⟨_, rfl⟩
  rw [show CqJ w s w.heap.size 0 ⟨s.name, s.pub, s.many, a1, c1, s.cols⟩ V = CqJ w s b1 0 ⟨s.name, s.pub, s.many, a1, c1, s.cols⟩ V by rw [hb1]] at HJ0
  rw [← hb1]
  clear hb1
  go_loopw [12] (fun i wr => ∃ (k : Nat) (s' : Sch), k ≤ N ∧ i = .int .i64 (k : Int) ∧ Hid (CqJ w s b1 k s' wr ∧ s'.ca = a1 ∧ s'.cc = c1)) (fun i _ => N - (intOf i).toNat)
  case atStart => exact ⟨0, ⟨s.name, s.pub, s.many, a1, c1, s.cols⟩, Nat.zero_le _, rfl, Lib.hid ⟨HJ0.out, rfl, rfl⟩⟩
  case round =>
    obtain ⟨k, s', hk, rfl, HJ⟩ := hrel
    clear HJ0
    by_cases hlt : k < N
    · have hlt2 : k < s.cols.length := by rw [← HN.out]; exact hlt
      obtain ⟨g, hg, hrow⟩ := HJ.out.1.cl hlt2
      have hcl : CL wr s'.ca s'.cols := row_cl HJ.out.1.row
      obtain ⟨ad, ea, c0, cc1, c2, c3⟩ := hcl.at (j := k) (by rw [HJ.out.1.len]; exact hlt2)
      have hok := HX.out.1 k hlt2
      have hcap := HX.out.2.1.cols k hlt2
      have hw1 := HX.out.2.2 k hlt2
      have hsm := HJ.out.1.same k (Nat.le_refl _)
      obtain ⟨c, hc⟩ : ∃ c, c = s.cols.getD k default := ⟨_, rfl⟩
      rw [← hc] at hok hcap hw1 hsm
      rw [hsm] at c0 cc1 c2 c3
      have HCC := Lib.hid hc
      have had : ad = ⟨g, 0, none⟩ := Option.some.inj (ea.symm.trans hg)
      have hca : s'.ca = some ad := ea
      have ha1 : a1 = some ad := by rw [← HJ.out.2.1]; exact ea
      have HCA := Lib.hid ha1
      rw [ha1]
      have d3 := HJ.out.1.at1.c3
      rw [hca, HJ.out.1.len, ← HN.out, HJ.out.2.2] at d3
      have he : (ad.add (k * 4)).block = g ∧ (ad.add (k * 4)).off + 3 = k * 4 + 3 := by rw [had]; refine ⟨by rw [addS_block], ?_⟩; unfold Addr.add; split <;> simp_all
      have z3 : wr.frozen? ⟨(ad.add (k * 4)).block, (ad.add (k * 4)).off + 3, none⟩ = false := by rw [he.1, he.2]; exact hrow.frozenAt _
      obtain ⟨m, hm⟩ : ∃ m, m = c.ws.length := ⟨_, rfl⟩
      have HM := Lib.hid hm
      rw [← hm] at c3
      obtain ⟨U, hU⟩ : ∃ U, U = wr.alloc (.cells #[.string c.name, .int .i64 c.lo, .int .i64 c.hi, .slice c.wa m c.wc] 44) := ⟨_, rfl⟩
      have hwU : Below wr.heap.size wr U := by rw [hU]; exact (Below.refl _ _).alloc (Nat.le_refl _) _
      have hat : ColAt U wr.heap.size c := by unfold ColAt; rw [hU, hm]; exact heap_alloc_new wr _
      have HSS := Lib.hid (show ∀ W, Below U.heap.size U W → W.cell? ⟨b1, 3, none⟩ = some (.slice (some ad) N c1) ∧ W.cell? ⟨wr.heap.size, 3, none⟩ = some (.slice c.wa m c.wc) ∧ W.cell? ⟨(ad.add (k * 4)).block, (ad.add (k * 4)).off + 3, none⟩ = some (.slice c.wa m c.wc) ∧ W.frozen? ⟨(ad.add (k * 4)).block, (ad.add (k * 4)).off + 3, none⟩ = false from fun W h => by
        have hch : Ch (fun _ => False) wr W := (Ch.below hwU).trans (Ch.below h)
        refine ⟨hch.cellA d3 (fun h => h), ?_, hch.cellA c3 (fun h => h), (World.frozen?_of_block (hch.block _ (cell_ltY c3) (fun h => h))).trans z3⟩
        have := (hat.below h).c3
        rw [← hm] at this
        exact this)
      have HCW := Lib.hid (fun (W : World) (h : Below U.heap.size U W) => cloneW_lift (B := w.heap.size) h (Nat.le_trans HJ.out.1.bl.size hwU.size) ((hok.words.below HJ.out.1.bl).below hwU) hm hcap.le hcap.none hw1)
      have HE := Lib.hid (And.intro he (And.intro hg (And.intro hwU (And.intro (show g ≠ b1 from fun e => own_type hrow HJ.out.1.at1 tneSC (by rw [← e]; rfl)) (show g ≠ wr.heap.size from fun e => by have := (hrow.lt g rfl).2; omega)))))
      clear ha1 hrow hcl hok hcap hw1 hsm hc had hca he z3 hm hwU hat hlt2 ea hg
      subst hU
      go_upto_region 5 with fail
      obtain ⟨U, hU⟩ : ∃ U, U = wr.alloc (.cells #[.string c.name, .int .i64 c.lo, .int .i64 c.hi, .slice c.wa m c.wc] 44) := ⟨_, rfl⟩
      rw [← hU] at HSS HCW HE
      rw [← hU]
      clear hU c0 cc1 c2 c3 d3
      have hB := (Below.refl U.heap.size U).drew
      have HS2 := Lib.hid (show ∀ W, Below U.heap.size U W → W.cell? ⟨b1, 3, none⟩ = some (.slice (some ad) N c1) ∧ W.cell? ⟨wr.heap.size, 3, none⟩ = some (.slice c.wa m c.wc) from fun W h => ⟨(HSS.out W h).1, (HSS.out W h).2.1⟩)
      have HS3 := Lib.hid (show ∀ (W : World) v, Below U.heap.size U W → (W.setCell ⟨(ad.add (k * 4)).block, (ad.add (k * 4)).off + 3, none⟩ v).cell? ⟨b1, 3, none⟩ = some (.slice (some ad) N c1) ∧ (W.setCell ⟨(ad.add (k * 4)).block, (ad.add (k * 4)).off + 3, none⟩ v).cell? ⟨wr.heap.size, 3, none⟩ = some (.slice c.wa m c.wc) from fun W v h => by
        have hch : Ch (fun j => j = (ad.add (k * 4)).block) W (W.setCell ⟨(ad.add (k * 4)).block, (ad.add (k * 4)).off + 3, none⟩ v) := Ch.setCell (fun j => j = (ad.add (k * 4)).block) W v rfl
        exact ⟨hch.cellA (HS2.out W h).1 (fun e => HE.out.2.2.2.1 (by rw [← HE.out.1.1]; exact e.symm)), hch.cellA (HS2.out W h).2 (fun e => HE.out.2.2.2.2 (by rw [← HE.out.1.1]; exact e.symm))⟩)
      go_region_held3 (fun W => W.cell? ⟨b1, 3, none⟩ = some (.slice (some ad) N c1) ∧ W.cell? ⟨wr.heap.size, 3, none⟩ = some (.slice c.wa m c.wc))
        (first | with_reducible exact HS2.out _ hB | with_reducible exact HS2.out _ (by assumption) | exact HS3.out _ _ hB)
        (first | (go_at_call 44; refine (HCW.out _ hB).mono ?_; rintro e u1 ⟨a2, c2, rfl, ho, hB⟩; have p1 := (HSS.out _ hB).2.2.1; have p2 := (HSS.out _ hB).2.2.2))
      all_goals
        have hw' : u1.ownsRow w.heap.size 9 1 (.slice a2 c.ws.length c2) c.ws.length (c.ws.map Value.string) := by rw [← HM.out]; exact ho
        have hst := cq_step (HJ.out.1.below (HE.out.2.2.1.trans (hB.mono HE.out.2.2.1.size))) (by rw [← HN.out]; exact hlt) HE.out.2.1 HCC.out.symm hw'
        rw [← HM.out] at hst
        have hst2 : CqJ w s b1 (k + 1) ⟨s'.name, s'.pub, s'.many, s'.ca, s'.cc, s'.cols.set k ⟨c.name, c.lo, c.hi, a2, c2, c.ws⟩⟩ (u1.setCell ⟨(ad.add (k * 4)).block, (ad.add (k * 4)).off + 3, none⟩ (.slice a2 m c2)) := by rw [HE.out.1.1, HE.out.1.2]; exact hst
        have HJ2 := Lib.hid (And.intro hst2 (And.intro (show s'.ca = some ad from HJ.out.2.1.trans HCA.out) HJ.out.2.2))
        clear hw' hst hst2 ho hB HJ HE HSS HCW
        go_wp2_with fail
        go_roundw
        case rel => exact ⟨k + 1, _, by omega, by go_num, HJ2⟩
        case measure => simp [intOf]; omega
    · obtain rfl : N = k := by omega
      have hJ := HJ.out.1
      rw [HN.out] at hJ
      have hP := cq_end hJ
      have d0 := hP.at1.c0
      have d1 := hP.at1.c1
      have d2 := hP.at1.c2
      have d3 := hP.at1.c3
      have f0 := hP.at2.c0
      have f1 := hP.at2.c1
      have f2 := hP.at2.c2
      have f3 := hP.at2.c3
      have y : ∀ j, wr.frozen? ⟨b1 + 1, j, none⟩ = false := fun j => frozen_of_row wr (b1 + 1) j _ _ hP.at2
      have y0 := y 0
      have y1 := y 1
      have y2 := y 2
      have y3 := y 3
      have HD := Lib.hid (cp_done hP)
      have HE := Lib.hid (show SameS s s' from ⟨hP.nm, hP.pb, hP.mn, by rw [hP.er, List.take_length]⟩)
      have HO := Lib.hid (HD.out.1.ok HE.out.2.2.2 HX.out.1)
      clear HJ y hP hJ
      go_wp2_with fail
      have hH := HD.out.2.2
      unfold fourW at hH HD HO
      have g0 := cell_of_row _ (b1 + 1) 0 _ _ _ hH
      have g1 := cell_of_row _ (b1 + 1) 1 _ _ _ hH
      have g2 := cell_of_row _ (b1 + 1) 2 _ _ _ hH
      have g3 := cell_of_row _ (b1 + 1) 3 _ _ _ hH
      exact bodyPost_ret (v := .agg s'.cells) (by simp [results, Tryd.results16, go_sem, g0, g1, g2, g3]) rfl ⟨s', rfl, HE.out, HD.out.1, HO.out, HD.out.2.1⟩

end Go.Proofs.YtgehldadfaonbaaDoor
