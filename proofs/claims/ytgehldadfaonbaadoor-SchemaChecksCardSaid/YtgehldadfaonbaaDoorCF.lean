/-
  SchemaChecks.
-/
import Derived.Test.YtgehldadfaonbaaDoorCE
import Derived.Test.YtgehldadfaonbaaDoorAF
namespace Go.Proofs.YtgehldadfaonbaaDoor
open Go.RowKit Go.Shelf Go.ChangeMaps Go.Maps

theorem chkC_er {P : List ByteArray} {c d : Col} (h : erC c = erC d) : chkC P c = chkC P d := by
  unfold erC at h
  simp only [Prod.mk.injEq] at h
  obtain ⟨h1, h2, h3, h4⟩ := h
  unfold chkC rangeB placeB
  rw [h1, h2, h3, h4]
theorem chkFrom_er : ∀ (L M : List Col) (P : List ByteArray), L.map erC = M.map erC → chkFrom P L = chkFrom P M
  | [], [], _, _ => rfl
  | [], _ :: _, _, h => by simp at h
  | _ :: _, [], _, h => by simp at h
  | c :: r, d :: q, P, h => by
    rw [List.map_cons, List.map_cons, List.cons.injEq] at h
    have hn : c.name = d.name := by have := h.1; unfold erC at this; simp only [Prod.mk.injEq] at this; exact this.1
    unfold chkFrom
    rw [chkC_er h.1, hn, chkFrom_er r q _ h.2]
theorem chkS_same {s t : Sch} (h : SameS s t) : chkS s = chkS t := by
  obtain ⟨h1, h2, h3, h4⟩ := h
  have hl : s.cols.length = t.cols.length := by have := congrArg List.length h4; simpa using this
  have ht : tabE s = tabE t := by unfold tabE manyB lst mst; rw [h1, h2, h3, hl]
  unfold chkS
  rw [ht, chkFrom_er _ _ _ h4]
theorem SameS.via {s t u : Sch} (h : SameS s t) (k : SameS s u) : SameS t u := ⟨h.1.symm.trans k.1, h.2.1.symm.trans k.2.1, h.2.2.1.symm.trans k.2.2.1, h.2.2.2.symm.trans k.2.2.2⟩

theorem same_lift {V W : World} {o s2 : Sch} (h : Below V.heap.size V W) (hC2 : CL W s2.ca s2.cols) (hO2 : ColsOk W s2.cols) (hCo : CL V o.ca o.cols) (hOo : ColsOk V o.cols) (hS : SameS s2 o) (hf : s2.cols.length ≤ 9223372036854775807) :
    Calls Tryd.prog 15 #[.agg s2.cells, .agg o.cells] W fun e w' => e = .returned (.bool true) ∧ Below V.heap.size V w' :=
  (rsame_yes hC2 (hCo.below h) hO2 (hOo.below h) hS hf).mono fun _ _ ⟨h1, h2⟩ => ⟨h1, h.trans (h2.mono h.size)⟩
theorem copy_lift {V W : World} {s : Sch} (h : Below V.heap.size V W) (hC : CL V s.ca s.cols) (hO : ColsOk V s.cols) (hc : SchCap s) (h100 : s.cols.length ≤ 100) (hw : ∀ j, j < s.cols.length → (s.cols.getD j default).ws.length ≤ 100) :
    Calls Tryd.prog 16 #[.agg s.cells] W fun e w' => ∃ s2 : Sch, e = .returned (.agg s2.cells) ∧ SameS s s2 ∧ CL w' s2.ca s2.cols ∧ ColsOk w' s2.cols ∧ Below V.heap.size V w' := by
  refine (pcopy_any (hC.below h) (hO.below h) hc h100 hw).mono ?_
  rintro e w' ⟨s2, rfl, h1, h2, h3, h4⟩
  exact ⟨s2, rfl, h1, h2.cl, h3, h.trans (h4.mono h.size)⟩

set_option maxHeartbeats 6400000 in
set_option maxRecDepth 100000 in
theorem checks_law {w : World} {s : Sch} (hR : Res w) (hs : SchOk w s) (hc : SchCap s) :
    Calls Tryd.prog 3 #[.agg s.cells] w fun e w' => e = .returned (.bool true) ∧ Below w.heap.size w w' := by
  obtain ⟨V, hV⟩ : ∃ V, V = w.alloc (.cells s.cells 24) := ⟨_, rfl⟩
  have hwV : Below w.heap.size w V := by rw [hV]; exact (Below.refl _ _).alloc (Nat.le_refl _) _
  have hat : SchAt V w.heap.size s := by rw [hV]; exact heap_alloc_new w _
  have d0 := hat.c0
  have d1 := hat.c1
  have d2 := hat.c2
  have d3 := hat.c3
  have HV := Lib.hid (And.intro hwV (And.intro hat (And.intro (hs.below hwV) (And.intro (hR.of hwV) hc))))
  have HVS := Lib.hid (vast_any (hs.below hwV).cl (hs.below hwV).ok hs.few)
  have HR := Lib.hid hR
  clear hwV hat hs hR hc
  subst hV
  go_enter Tryd.func3, Tryd.ntmps3
  go_wp2_with fail
  refine HVS.out.mono ?_
  rintro e w1 ⟨v, rfl, hv, h1⟩
  cases v with
  | true =>
    have HB := Lib.hid (HV.out.1.trans (h1.mono HV.out.1.size))
    clear h1 HVS hv d0 d1 d2 d3
    go_wp2_with fail
    refine (awake_any w1 (HR.out.of HB.out)).mono ?_
    rintro e w2 ⟨rfl, h2⟩
    have HF := Lib.hid (HB.out.trans (h2.mono HB.out.size))
    clear h2
    go_wp2
    go_ret
    exact ⟨rfl, HF.out⟩
  | false =>
    obtain ⟨h100, hw100⟩ := hv rfl
    have hat1 := HV.out.2.1.below h1
    have hs1 := HV.out.2.2.1.below h1
    have hb1 := HV.out.1.trans (h1.mono HV.out.1.size)
    have HC := Lib.hid (rcopy_any hs1.cl hs1.ok HV.out.2.2.2.2 h100 hw100)
    have HK := Lib.hid (And.intro h100 hw100)
    have H1 := Lib.hid (And.intro hb1 (And.intro hat1 hs1))
    have hcap := HV.out.2.2.2.2
    have HCP := Lib.hid hcap
    have d0 := hat1.c0
    have d1 := hat1.c1
    have d2 := hat1.c2
    have d3 := hat1.c3
    clear hv h1 h100 hw100 hat1 hs1 hb1 HVS HV hcap
    go_wp2_with fail
    refine HC.out.mono ?_
    rintro e w2 ⟨o, rfl, hS, hown, hook, hb2⟩
    obtain ⟨V, hV⟩ : ∃ V, V = w2.alloc (.cells o.cells 24) := ⟨_, rfl⟩
    have h2V : Below w2.heap.size w2 V := by rw [hV]; exact (Below.refl _ _).alloc (Nat.le_refl _) _
    have hatV : SchAt V w.heap.size s := (H1.out.2.1.below hb2).below h2V
    have hatO : SchAt V w2.heap.size o := by rw [hV]; exact heap_alloc_new w2 _
    have hsV : SchOk V s := (H1.out.2.2.below hb2).below h2V
    have hbV : Below w.heap.size w V := (H1.out.1.trans (hb2.mono H1.out.1.size)).trans (h2V.mono (Nat.le_trans H1.out.1.size hb2.size))
    have HD := Lib.hid (And.intro hatV (And.intro hatO (And.intro hsV (And.intro hbV (And.intro (hown.cl.below h2V) (And.intro (hook.below h2V) hS))))))
    have d0 := hatV.c0
    have d1 := hatV.c1
    have d2 := hatV.c2
    have d3 := hatV.c3
    have f0 := hatO.c0
    have f1 := hatO.c1
    have f2 := hatO.c2
    have f3 := hatO.c3
    clear hS hown hook hb2 h2V hatV hatO hsV hbV HC H1
    subst hV
    go_upto_region 4 with fail
    obtain ⟨V, hV⟩ : ∃ V, V = w2.alloc (.cells #[.string o.name, .bool o.pub, .int .i64 o.many, .slice o.ca o.cols.length o.cc] 24) := ⟨_, rfl⟩
    rw [show w2.alloc (.cells o.cells 24) = V from hV.symm] at HD d0 d1 d2 d3 f0 f1 f2 f3
    rw [← hV]
    clear hV
    have HCK := Lib.hid (check_any2 (HR.out.of HD.out.2.2.2.1) HD.out.2.2.1.cl HD.out.2.2.1.ok)
    have HRK := Lib.hid (fun (W : World) (h : Below V.heap.size V W) => rcheck_any (HD.out.2.2.2.2.1.below h) (HD.out.2.2.2.2.2.1.below h))
    rw [← chkS_same HD.out.2.2.2.2.2.2] at HRK
    obtain ⟨x, hx⟩ : ∃ x, x = (chkS s).1 := ⟨_, rfl⟩
    obtain ⟨y, hy⟩ : ∃ y, y = (chkS s).2 := ⟨_, rfl⟩
    rw [← hx, ← hy] at HCK HRK
    clear hx hy
    go_wp2_with fail
    refine HCK.out.mono ?_
    rintro e w3 ⟨rfl, h3⟩
    have H3 := Lib.hid h3
    have hat3 := HD.out.2.1.below h3
    have f0 := hat3.c0
    have f1 := hat3.c1
    have f2 := hat3.c2
    have f3 := hat3.c3
    clear h3 HCK hat3 d0 d1 d2 d3
    go_wp2_with fail
    refine (HRK.out _ H3.out).mono ?_
    rintro e w4 ⟨rfl, h4⟩
    have hV4 := H3.out.trans (h4.mono H3.out.size)
    have hsO := HD.out.2.2.1.below hV4
    have HY := Lib.hid (And.intro (HD.out.1.below hV4) (And.intro (HD.out.2.1.below hV4) (And.intro hsO (And.intro (HD.out.2.2.2.1.trans (hV4.mono HD.out.2.2.2.1.size)) (And.intro (HD.out.2.2.2.2.1.below hV4) (And.intro (HD.out.2.2.2.2.2.1.below hV4) HD.out.2.2.2.2.2.2))))))
    clear h4 HRK H3 hV4 hsO HD f0 f1 f2 f3
    have n1 : (x == x) = true := by simp
    have n2 : (y == y) = true := by simp
    go_upto_region 6 with fail
    have HS := Lib.hid (show ∀ W, Below w4.heap.size w4 W → W.cell? ⟨w.heap.size, 0, none⟩ = some (.string s.name) ∧ W.cell? ⟨w.heap.size, 1, none⟩ = some (.bool s.pub) ∧ W.cell? ⟨w.heap.size, 2, none⟩ = some (.int .i64 s.many) ∧ W.cell? ⟨w.heap.size, 3, none⟩ = some (.slice s.ca s.cols.length s.cc) ∧
        W.cell? ⟨w2.heap.size, 0, none⟩ = some (.string o.name) ∧ W.cell? ⟨w2.heap.size, 1, none⟩ = some (.bool o.pub) ∧ W.cell? ⟨w2.heap.size, 2, none⟩ = some (.int .i64 o.many) ∧ W.cell? ⟨w2.heap.size, 3, none⟩ = some (.slice o.ca o.cols.length o.cc) from fun W h =>
      ⟨(HY.out.1.below h).c0, (HY.out.1.below h).c1, (HY.out.1.below h).c2, (HY.out.1.below h).c3, (HY.out.2.1.below h).c0, (HY.out.2.1.below h).c1, (HY.out.2.1.below h).c2, (HY.out.2.1.below h).c3⟩)
    have HSA := Lib.hid (fun (W : World) (h : Below w4.heap.size w4 W) => same_lift h (HY.out.2.2.1.cl.below h) (HY.out.2.2.1.ok.below h) HY.out.2.2.2.2.1 HY.out.2.2.2.2.2.1 HY.out.2.2.2.2.2.2 HY.out.2.2.1.few)
    have HCO := Lib.hid (fun (W : World) (h : Below w4.heap.size w4 W) => copy_lift h HY.out.2.2.1.cl HY.out.2.2.1.ok HCP.out HK.out.1 HK.out.2)
    have HSB := Lib.hid (fun (W : World) (s2 : Sch) (h : Below w4.heap.size w4 W) (h1 : SameS s s2) (h2 : CL W s2.ca s2.cols) (h3 : ColsOk W s2.cols) => same_lift h h2 h3 HY.out.2.2.2.2.1 HY.out.2.2.2.2.2.1 (h1.via HY.out.2.2.2.2.2.2) (by have := congrArg List.length h1.2.2.2; have := HK.out.1; simp at *; omega))
    have HAW := Lib.hid (fun (W : World) (h : Below w4.heap.size w4 W) => awake_from (w := w4) (HR.out.of HY.out.2.2.2.1) h)
    have HBW := Lib.hid HY.out.2.2.2.1
    clear HY HK HCP
    have hB := (Below.refl w4.heap.size w4).drew
    go_region_held3 (fun W => W.cell? ⟨w.heap.size, 0, none⟩ = some (.string s.name) ∧ W.cell? ⟨w.heap.size, 1, none⟩ = some (.bool s.pub) ∧ W.cell? ⟨w.heap.size, 2, none⟩ = some (.int .i64 s.many) ∧ W.cell? ⟨w.heap.size, 3, none⟩ = some (.slice s.ca s.cols.length s.cc) ∧
        W.cell? ⟨w2.heap.size, 0, none⟩ = some (.string o.name) ∧ W.cell? ⟨w2.heap.size, 1, none⟩ = some (.bool o.pub) ∧ W.cell? ⟨w2.heap.size, 2, none⟩ = some (.int .i64 o.many) ∧ W.cell? ⟨w2.heap.size, 3, none⟩ = some (.slice o.ca o.cols.length o.cc))
      (first | with_reducible exact HS.out _ hB | with_reducible exact HS.out _ (by assumption))
      (first
        | (go_at_call 16; refine (HCO.out _ hB).mono ?_; rintro e u2 ⟨s2, rfl, hS2, hC2, hO2, hB⟩)
        | (go_at_call 15; refine (HSB.out _ s2 hB hS2 hC2 hO2).mono ?_; rintro e u3 ⟨rfl, hB⟩)
        | (go_at_call 15; refine (HSA.out _ hB).mono ?_; rintro e u1 ⟨rfl, hB⟩)
        | (go_at_call 11; refine (HAW.out _ hB).mono ?_; rintro e u4 ⟨rfl, hB⟩))
    all_goals
      have HF := Lib.hid (HBW.out.trans (hB.mono HBW.out.size))
      clear hB
      go_wp2_with fail
      go_ret
      exact ⟨rfl, HF.out⟩

end Go.Proofs.YtgehldadfaonbaaDoor
