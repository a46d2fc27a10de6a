/-
  SchemaKnown, walked.
-/
import Derived.Test.YtgehldadfaonbaaDoorKF
namespace Go.Proofs.YtgehldadfaonbaaDoor
open Go.RowKit Go.Shelf Go.ChangeMaps Go.Maps

theorem infoS : (Tryd.prog.info? 24).map (fun i => (i.zero, i.size, i.bytes)) = some (some (.agg #[.string ⟨#[]⟩, .bool false, .int .i64 0, .slice none 0 0]), 4, 56) := by kernel_rfl
theorem make_17 : ∃ M, ∀ w : World, (Instr.makeSlice 32 (.int .i64 17) (.int .i64 17)).run Tryd.prog w = .ok (.slice (some ⟨w.heap.size, 0, none⟩) 17 17) (w.alloc (.cells M 24)) := by
  obtain ⟨i0, hi, hz0, hz1, hz2⟩ := info_parts infoS
  exact ⟨_, fun w => run_make (P := Tryd.prog) w _ _ i0 _ Tryd.underlying32 hi hz0 .i64 .i64 17 17 (by omega) (by omega) (by rw [hz2]; omega) (by omega)⟩

set_option maxHeartbeats 6400000 in
set_option maxRecDepth 100000 in
theorem known_any (w : World) (hR : WL w) : Calls Tryd.prog 7 #[] w fun e w' => e = .returned (.bool true) ∧ Below w.heap.size w w' := by
  have HR := Lib.hid hR
  clear hR
  go_enter Tryd.func7, Tryd.ntmps7
  go_wp2_with fail
  refine (name_lift HR.out (Below.refl _ _) nm_1a).mono ?_
  rintro e w1 ⟨rfl, hB⟩
  go_wp2_with fail
  refine (times_lift 21 (by omega) hB).mono ?_
  rintro e w2 ⟨rfl, hB⟩
  go_wp2_with fail
  refine (name_lift HR.out hB nm_21).mono ?_
  rintro e w3 ⟨rfl, hB⟩
  go_wp2_with fail
  refine (times_lift 20 (by omega) hB).mono ?_
  rintro e w4 ⟨rfl, hB⟩
  go_wp2_with fail
  refine (name_lift HR.out hB nm_20).mono ?_
  rintro e w5 ⟨rfl, hB⟩
  go_wp2_with fail
  refine (age_lift hB).mono ?_
  rintro e w6 ⟨rfl, hB⟩
  go_wp2_with fail
  refine (colour_lift hB).mono ?_
  rintro e w7 ⟨b, rfl, hT, hB⟩
  go_wp2_with fail
  refine (people_any2 [ageC, colC 1 b] _ 2 2 hB (twoOk hT (by omega) (by omega)) rfl rfl (by show 2 ≤ 3; omega)).mono ?_
  rintro e w8 ⟨s1, HS1, rfl, hs1, hB, _⟩
  have HS1 := Lib.hid HS1
  go_wp2_with fail
  refine (age_any w8).mono ?_
  rintro e w9 ⟨rfl, hb9⟩
  have hB := hB.trans (hb9.mono hB.size)
  have hs1 := hs1.below hb9
  clear hb9
  go_wp2_with fail
  refine (colour_any w9).mono ?_
  rintro e w10 ⟨b2, rfl, _, hT, hb10⟩
  have hB := hB.trans (hb10.mono hB.size)
  have hs1 := hs1.below hb10
  clear hb10
  go_wp2_with fail
  refine (people_any2 [ageC, colC 1 b2] _ 2 2 hB (twoOk hT (by omega) (by omega)) rfl rfl (by show 2 ≤ 3; omega)).mono ?_
  rintro e w11 ⟨s2, HS2, rfl, hs2, hB, hk⟩
  have HS2 := Lib.hid HS2
  have hs1 := hs1.below hk
  clear hk
  have H11 := Lib.hid (And.intro hB (And.intro hs1 hs2))
  clear hB hs1 hs2 hT
  go_wp2_with fail
  have hp := sch_pair w11 ⟨s1.name, s1.pub, 0, s1.ca, s1.cc, s1.cols⟩ ⟨s2.name, true, s2.many, s2.ca, s2.cc, s2.cols⟩
  refine (age_any _).mono ?_
  rintro e w12 ⟨rfl, h12⟩
  have H12 := Lib.hid (And.intro (hp.1.below h12) (And.intro (hp.2.1.below h12) (hp.2.2.trans (h12.mono hp.2.2.size))))
  clear hp h12
  go_wp2_with fail
  refine (colour_any w12).mono ?_
  rintro e w13 ⟨b3, rfl, _, _, h13⟩
  have H13 := Lib.hid (And.intro (H12.out.1.below h13) (And.intro (H12.out.2.1.below h13) (H12.out.2.2.trans (h13.mono H12.out.2.2.size))))
  clear H12 h13
  go_upto_region 7 with fail
  have hc3 := col_three w13
  obtain ⟨V, hV⟩ : ∃ V, V = (((w13.alloc (.cells backC.cells 44)).alloc (.cells (redC (w13.heap.size + 2)).cells 44)).alloc (.cells #[.string tRed, .string tRed] 9)) := ⟨_, rfl⟩
  have hVV : (((w13.alloc (.cells #[.string ⟨#[97, 103, 101]⟩, .int .i64 5, .int .i64 4, .slice none 0 0] 44)).alloc (.cells #[.string ⟨#[99, 111, 108, 111, 117, 114]⟩, .int .i64 0, .int .i64 1, .slice (some ⟨w13.heap.size + 1 + 1, 0, none⟩) 2 2] 44)).alloc (.cells #[.string ⟨#[114, 101, 100]⟩, .string ⟨#[114, 101, 100]⟩] 9)) = V := hV.symm
  rw [hVV]
  rw [← hV] at hc3
  clear hV hVV
  have hb13 := H13.out.2.2
  have hV11 := hb13.trans (hc3.2.2.2.mono hb13.size)
  obtain ⟨p2, hp2⟩ : ∃ p, p = w11.heap.size := ⟨_, rfl⟩
  obtain ⟨p3, hp3⟩ : ∃ p, p = w11.heap.size + 1 := ⟨_, rfl⟩
  obtain ⟨p4, hp4⟩ : ∃ p, p = w13.heap.size := ⟨_, rfl⟩
  obtain ⟨p5, hp5⟩ : ∃ p, p = w13.heap.size + 1 := ⟨_, rfl⟩
  obtain ⟨b5, hb5⟩ : ∃ p, p = w13.heap.size + 2 := ⟨_, rfl⟩
  have HX := Lib.hid (show SchAt V p2 ⟨s1.name, s1.pub, 0, s1.ca, s1.cc, s1.cols⟩ ∧ SchAt V p3 ⟨s2.name, true, s2.many, s2.ca, s2.cc, s2.cols⟩ ∧ ColAt V p4 backC ∧ ColAt V p5 (redC b5) ∧ TL V (some ⟨b5, 0, none⟩) [tRed, tRed] ∧ SchOk V s1 ∧ SchOk V s2 ∧ Below w.heap.size w V from
    ⟨by rw [hp2]; exact H13.out.1.below hc3.2.2.2, by rw [hp3]; exact H13.out.2.1.below hc3.2.2.2, by rw [hp4]; exact hc3.1, by rw [hp5, hb5]; exact hc3.2.1, by rw [hb5]; exact hc3.2.2.1, H11.out.2.1.below hV11, H11.out.2.2.below hV11, H11.out.1.trans (hV11.mono H11.out.1.size)⟩)
  rw [← hp3, ← hp2, ← hp5, ← hp4]
  clear hc3 hb13 hV11 hp2 hp3 hp4 hp5 hb5 H13 H11
  go_cut [6] from 50 to 81 (fun s6 wx => s6 = .bool true ∧ Hid (Below w.heap.size w wx))
  case first =>
    have HRV := Lib.hid (HR.out.of HX.out.2.2.2.2.2.2.2)
    have HSX := Lib.hid (show ∀ W, Below V.heap.size V W → W.cell? ⟨p2, 0, none⟩ = some (.string s1.name) ∧ W.cell? ⟨p2, 1, none⟩ = some (.bool s1.pub) ∧ W.cell? ⟨p2, 2, none⟩ = some (.int .i64 0) ∧ W.cell? ⟨p2, 3, none⟩ = some (.slice s1.ca s1.cols.length s1.cc) ∧ W.cell? ⟨p3, 0, none⟩ = some (.string s2.name) ∧ W.cell? ⟨p3, 1, none⟩ = some (.bool true) ∧ W.cell? ⟨p3, 2, none⟩ = some (.int .i64 s2.many) ∧ W.cell? ⟨p3, 3, none⟩ = some (.slice s2.ca s2.cols.length s2.cc) ∧ W.cell? ⟨p4, 0, none⟩ = some (.string ⟨#[97, 103, 101]⟩) ∧ W.cell? ⟨p4, 1, none⟩ = some (.int .i64 5) ∧ W.cell? ⟨p4, 2, none⟩ = some (.int .i64 4) ∧ W.cell? ⟨p4, 3, none⟩ = some (.slice none 0 0) ∧ W.cell? ⟨p5, 0, none⟩ = some (.string ⟨#[99, 111, 108, 111, 117, 114]⟩) ∧ W.cell? ⟨p5, 1, none⟩ = some (.int .i64 0) ∧ W.cell? ⟨p5, 2, none⟩ = some (.int .i64 1) ∧ W.cell? ⟨p5, 3, none⟩ = some (.slice (some ⟨b5, 0, none⟩) 2 2) from fun W h =>
      ⟨(HX.out.1.below h).c0, (HX.out.1.below h).c1, (HX.out.1.below h).c2, (HX.out.1.below h).c3, (HX.out.2.1.below h).c0, (HX.out.2.1.below h).c1, (HX.out.2.1.below h).c2, (HX.out.2.1.below h).c3,
        (HX.out.2.2.1.below h).c0, (HX.out.2.2.1.below h).c1, (HX.out.2.2.1.below h).c2, (HX.out.2.2.1.below h).c3, (HX.out.2.2.2.1.below h).c0, (HX.out.2.2.2.1.below h).c1, (HX.out.2.2.2.1.below h).c2, (HX.out.2.2.2.1.below h).c3⟩)
    have HC1 := Lib.hid (fun (W : World) (h : Below V.heap.size V W) => checks_lift (s := pplS none 0 []) 3 (-1) HRV.out h ⟨.inl rfl, fun j hj => absurd hj (Nat.not_lt_zero _), by show 0 ≤ _; omega, by show 6 ≤ maxLen; unfold maxLen; omega⟩ (chk_nil _ _))
    have HC2 := Lib.hid (fun (W : World) (h : Below V.heap.size V W) => checks_lift (s := ⟨s1.name, s1.pub, 0, s1.ca, s1.cc, s1.cols⟩) 2 (-1) HRV.out h ((HX.out.2.2.2.2.2.1.many 0).below h) (chk_many (by obtain ⟨g, hs⟩ := HS1.out; rw [hs]; exact nm_people) (by obtain ⟨g, hs⟩ := HS1.out; rw [hs]; rfl)))
    have HC3 := Lib.hid (fun (W : World) (h : Below V.heap.size V W) => checks_lift (s := ⟨s2.name, true, s2.many, s2.ca, s2.cc, s2.cols⟩) 2 (-1) HRV.out h ((HX.out.2.2.2.2.2.2.1.pub true).below h) (chk_many (by obtain ⟨g, hs⟩ := HS2.out; rw [hs]; exact nm_people) (by obtain ⟨g, hs⟩ := HS2.out; rw [hs]; rfl)))
    have HCG := Lib.hid (fun (W : World) (s : Sch) (x y : Int) (h : Below V.heap.size V W) (hs : SchOk W s) (he : chkS s = (x, y)) => checks_lift x y HRV.out h hs he)
    have HRO := Lib.hid (fun (W : World) (h : Below V.heap.size V W) => redOk (HX.out.2.2.2.2.1.below h))
    have HVW := Lib.hid HX.out.2.2.2.2.2.2.2
    have hB := (Below.refl V.heap.size V).drew
    clear HX HR
    go_region_held3 (fun W => W.cell? ⟨p2, 0, none⟩ = some (.string s1.name) ∧ W.cell? ⟨p2, 1, none⟩ = some (.bool s1.pub) ∧ W.cell? ⟨p2, 2, none⟩ = some (.int .i64 0) ∧ W.cell? ⟨p2, 3, none⟩ = some (.slice s1.ca s1.cols.length s1.cc) ∧ W.cell? ⟨p3, 0, none⟩ = some (.string s2.name) ∧ W.cell? ⟨p3, 1, none⟩ = some (.bool true) ∧ W.cell? ⟨p3, 2, none⟩ = some (.int .i64 s2.many) ∧ W.cell? ⟨p3, 3, none⟩ = some (.slice s2.ca s2.cols.length s2.cc) ∧ W.cell? ⟨p4, 0, none⟩ = some (.string ⟨#[97, 103, 101]⟩) ∧ W.cell? ⟨p4, 1, none⟩ = some (.int .i64 5) ∧ W.cell? ⟨p4, 2, none⟩ = some (.int .i64 4) ∧ W.cell? ⟨p4, 3, none⟩ = some (.slice none 0 0) ∧ W.cell? ⟨p5, 0, none⟩ = some (.string ⟨#[99, 111, 108, 111, 117, 114]⟩) ∧ W.cell? ⟨p5, 1, none⟩ = some (.int .i64 0) ∧ W.cell? ⟨p5, 2, none⟩ = some (.int .i64 1) ∧ W.cell? ⟨p5, 3, none⟩ = some (.slice (some ⟨b5, 0, none⟩) 2 2))
      (first | with_reducible exact HSX.out _ hB | with_reducible exact HSX.out _ (by assumption) | exact HSX.out _ (hB.alloc hB.size _))
      (first
        | (go_at_call 33; have _t := t5; refine (HCG.out _ s6 8 1 hB hs6 (by obtain ⟨g, hs⟩ := HS6; rw [hs]; exact chk_red _ _ _)).mono ?_; rintro e u ⟨rfl, hB⟩)
        | (go_at_call 33; have _t := t4; refine (HCG.out _ s5 2 0 hB hs5 (by obtain ⟨g, hs⟩ := HS5; rw [hs]; exact chk_back _ _ _)).mono ?_; rintro e u ⟨rfl, hB⟩; have t5 := True.intro)
        | (go_at_call 33; have _t := t3; refine (HCG.out _ s4 8 2 hB hs4 (by obtain ⟨g, hs⟩ := HS4; rw [hs]; exact chk_twice _ _ _ _)).mono ?_; rintro e u ⟨rfl, hB⟩; have t4 := True.intro)
        | (go_at_call 33; have _t := t2; refine (HC3.out _ hB).mono ?_; rintro e u ⟨rfl, hB⟩; have t3 := True.intro)
        | (go_at_call 33; have _t := t1; refine (HC2.out _ hB).mono ?_; rintro e u ⟨rfl, hB⟩; have t2 := True.intro)
        | (go_at_call 33; refine (HC1.out _ hB).mono ?_; rintro e u ⟨rfl, hB⟩; have t1 := True.intro)
        | (go_at_call 30; have _t := t5; refine (people_any2 [ageC, redC b5] _ 2 2 hB (colsOk2 (ageOk _) (HRO.out _ hB)) rfl rfl (by show 2 ≤ 3; omega)).mono ?_; rintro e u ⟨s6, HS6, rfl, hs6, hB, _⟩)
        | (go_at_call 30; have _t := t4; refine (people_any2 [backC, colC 1 b6] _ 2 2 hB (colsOk2 (backOk _) (colOk hT6 (by omega) (by omega))) rfl rfl (by show 2 ≤ 3; omega)).mono ?_; rintro e u ⟨s5, HS5, rfl, hs5, hB, _⟩)
        | (go_at_call 30; have _t := t3; refine (people_any2 [ageC, colC 1 b7, colC 1 b8] _ 3 3 hB (colsOk3 (ageOk _) (colOk hT7 (by omega) (by omega)) (colOk hT8 (by omega) (by omega))) rfl rfl (by show 3 ≤ 3; omega)).mono ?_; rintro e u ⟨s4, HS4, rfl, hs4, hB, _⟩)
        | (go_at_call 30; refine (people_any none 0 0 _).mono ?_; rintro e u ⟨rfl, hq⟩; have hB := hB.trans (hq.mono hB.size); clear hq)
        | (go_at_call 31; refine (age_lift hB).mono ?_; rintro e u ⟨rfl, hB⟩)
        | (go_at_call 32; have _t := t4; refine (colour_lift hB).mono ?_; rintro e u ⟨b6, rfl, hT6, hB⟩)
        | (go_at_call 32; refine (colour_keep hB hT9).mono ?_; rintro e u ⟨b8, rfl, hT8, hT7, hB⟩)
        | (go_at_call 32; refine (colour_lift hB).mono ?_; rintro e u ⟨b7, rfl, hT9, hB⟩))
    all_goals
      have HF := Lib.hid (HVW.out.trans (hB.mono HVW.out.size))
      clear hB
      go_wp2_with fail
      go_meet
      exact ⟨rfl, HF⟩
  case rest =>
    obtain ⟨rfl, HB⟩ := hcut
    have hB := HB.out
    go_wp2_with fail
    refine (age_lift hB).mono ?_
    rintro e x1 ⟨rfl, hB⟩
    go_wp2_with fail
    refine (colour_lift hB).mono ?_
    rintro e x2 ⟨b, rfl, hT, hB⟩
    go_wp2_with fail
    refine (people_any2 [ageC, colC 1 b] _ 2 2 hB (twoOk hT (by omega) (by omega)) rfl rfl (by show 2 ≤ 3; omega)).mono ?_
    rintro e x3 ⟨s, HS, rfl, hs, hB, _⟩
    obtain ⟨V, hV⟩ : ∃ V, V = x3.alloc (.cells s.cells 24) := ⟨_, rfl⟩
    have h3V : Below x3.heap.size x3 V := by rw [hV]; exact (Below.refl _ _).alloc (Nat.le_refl _) _
    have hat : SchAt V x3.heap.size s := by rw [hV]; exact heap_alloc_new x3 _
    have HV := Lib.hid (And.intro (hB.trans (h3V.mono hB.size)) (And.intro (hs.below h3V) hat))
    have HRV := Lib.hid (HR.out.of HV.out.1)
    have HSS := Lib.hid HS
    obtain ⟨M, hmk⟩ := make_17
    have d0 := hat.c0
    have d1 := hat.c1
    have d2 := hat.c2
    have d3 := hat.c3
    clear hB hs HS h3V hat hT
    subst hV
    go_wp2_with fail
    obtain ⟨V, hV⟩ : ∃ V, V = x3.alloc (.cells #[.string s.name, .bool s.pub, .int .i64 s.many, .slice s.ca s.cols.length s.cc] 24) := ⟨_, rfl⟩
    rw [show x3.alloc (.cells s.cells 24) = V from hV.symm] at HV HRV
    rw [← hV]
    have hsz : V.heap.size = x3.heap.size + 1 := by rw [hV, World.size_alloc]
    clear hV d0 d1 d2 d3
    obtain ⟨p7, hp7⟩ : ∃ p, p = x3.heap.size := ⟨_, rfl⟩
    rw [← hp7] at HV hsz
    have HSZ := Lib.hid hsz.symm
    clear hsz
    rw [← hp7]
    clear hp7
    have HC := Lib.hid (show chkS s = (0, -1) by obtain ⟨g, hs⟩ := HSS.out; rw [hs]; exact chk_good _ _ _)
    have HN := Lib.hid (show s.name = ⟨#[112, 101, 111, 112, 108, 101]⟩ by obtain ⟨g, hs⟩ := HSS.out; rw [hs])
    have HCO := Lib.hid (show s.cols = [ageC, colC 1 b] by obtain ⟨g, hs⟩ := HSS.out; rw [hs])
    have HD := Lib.hid (fun (W : World) (h : Below V.heap.size V W) => HV.out.2.2.below h)
    refine (all_two HSZ.out HRV.out HV.out.2.1 HC.out (Below.refl _ _)).mono ?_
    rintro e y1 ⟨rfl, hB⟩
    go_wp2_with fail
    refine (all_17 _ _ (hB.alloc hB.size _)).mono ?_
    rintro e y2 ⟨rfl, hB⟩
    have d0 := (HD.out _ hB).c0
    have d1 := (HD.out _ hB).c1
    have d2 := (HD.out _ hB).c2
    have d3 := (HD.out _ hB).c3
    go_wp2_with fail
    refine (find_one HN.out hB).mono ?_
    rintro e y3 ⟨rfl, hB⟩
    have d0 := (HD.out _ hB).c0
    have d1 := (HD.out _ hB).c1
    have d2 := (HD.out _ hB).c2
    have d3 := (HD.out _ hB).c3
    go_wp2_with fail
    refine (column_two HCO.out HV.out.2.1 hB).mono ?_
    rintro e y4 ⟨rfl, hB⟩
    clear d0 d1 d2 d3
    go_wp2_with fail
    refine (colour_lift hB).mono ?_
    rintro e y5 ⟨b', rfl, hT, hB⟩
    go_wp2_with fail
    refine (value_green HRV.out hB hT).mono ?_
    rintro e y6 ⟨rfl, hB⟩
    clear hT
    go_wp2_with fail
    refine (age_lift hB).mono ?_
    rintro e y7 ⟨rfl, hB⟩
    go_wp2_with fail
    refine (value_07 HRV.out hB).mono ?_
    rintro e y8 ⟨rfl, hB⟩
    go_wp2_with fail
    refine (awake_from HRV.out.res hB).mono ?_
    rintro e y9 ⟨rfl, hB⟩
    go_wp2_with fail
    refine (age_lift hB).mono ?_
    rintro e y10 ⟨rfl, hB⟩
    go_wp2_with fail
    refine (width_age HRV.out hB).mono ?_
    rintro e y11 ⟨rfl, hB⟩
    go_wp2_with fail
    refine (colour_lift hB).mono ?_
    rintro e y12 ⟨b2, rfl, hT, hB⟩
    go_wp2_with fail
    refine (width_col HRV.out hB hT).mono ?_
    rintro e y13 ⟨rfl, hB⟩
    clear hT
    go_wp2_with fail
    refine (age_lift hB).mono ?_
    rintro e y14 ⟨rfl, hB⟩
    go_wp2_with fail
    refine (text_age HRV.out hB).mono ?_
    rintro e y15 ⟨rfl, hB⟩
    go_wp2_with fail
    refine (colour_lift hB).mono ?_
    rintro e y16 ⟨b3, rfl, hT, hB⟩
    go_wp2_with fail
    refine (text_col HRV.out hB hT).mono ?_
    rintro e y17 ⟨rfl, hB⟩
    have HF := Lib.hid (HV.out.1.trans (hB.mono HV.out.1.size))
    clear hT hB
    go_wp2
    go_ret
    exact ⟨rfl, HF.out⟩

end Go.Proofs.YtgehldadfaonbaaDoor
