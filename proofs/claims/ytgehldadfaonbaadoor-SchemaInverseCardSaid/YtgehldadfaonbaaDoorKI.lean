/-
  SchemaInverse, walked.
-/
import Derived.Test.YtgehldadfaonbaaDoorKH
namespace Go.Proofs.YtgehldadfaonbaaDoor
open Go.RowKit Go.Shelf Go.ChangeMaps Go.Maps

set_option maxHeartbeats 6400000 in
set_option maxRecDepth 100000 in
theorem inverse_any {w : World} {c : Col} (pick : Int) (s : ByteArray) (hR : WL w) (ho : ColOk w c) (hp0 : -9223372036854775808 ≤ pick) (hp1 : pick ≤ 9223372036854775807) (hs : s.size ≤ 140737488351232) :
    Calls Tryd.prog 8 #[.agg c.cells, .int .i64 pick, .string s] w fun e w' => e = .returned (.bool true) ∧ Below w.heap.size w w' := by
  have hb : Below w.heap.size w (w.alloc (.cells c.cells 44)) := (Below.refl _ _).alloc (Nat.le_refl _) _
  have hat : ColAt (w.alloc (.cells c.cells 44)) w.heap.size c := heap_alloc_new w _
  have HK := Lib.hid (known_any _ (hR.of hb))
  have HA := Lib.hid (And.intro hat (And.intro (ho.below hb) (And.intro (hR.of hb) hb)))
  have hf := ho.few
  have HS := Lib.hid hs
  clear hb hat hR ho
  go_enter Tryd.func8, Tryd.ntmps8
  go_wp2_with fail
  refine HK.out.mono ?_
  rintro e V ⟨rfl, h1⟩
  have HX := Lib.hid (And.intro (HA.out.1.below h1) (And.intro (HA.out.2.1.below h1) (And.intro (HA.out.2.2.1.of h1) (HA.out.2.2.2.trans (h1.mono HA.out.2.2.2.size)))))
  clear h1 HK HA
  have d3 := HX.out.1.c3
  by_cases hl : 100 < c.ws.length
  · have q : decide (100 < (c.ws.length : Int)) = true := decide_eq_true (by omega)
    go_wp2
    go_ret
    exact ⟨rfl, HX.out.2.2.2⟩
  by_cases hl2 : 100 < s.size
  · have q : decide (100 < (c.ws.length : Int)) = false := decide_eq_false (by omega)
    have q2 : decide (100 < (s.size : Int)) = true := decide_eq_true (by omega)
    go_wp2
    go_ret
    exact ⟨rfl, HX.out.2.2.2⟩
  have q : decide (100 < (c.ws.length : Int)) = false := decide_eq_false (by omega)
  have q2 : decide (100 < (s.size : Int)) = false := decide_eq_false (by omega)
  have HD := Lib.hid (fun (W : World) (h : Below V.heap.size V W) => HX.out.1.below h)
  have HVA := Lib.hid (fun (W : World) (x : ByteArray) (hx : ¬ 0 < c.ws.length → x.size ≤ 140737488351232) (h : Below V.heap.size V W) => value_lift x hx HX.out.2.2.1 HX.out.2.1 h)
  have HTX := Lib.hid (fun (W : World) (v : Int) (h : Below V.heap.size V W) (v0 : -9223372036854775808 ≤ v) (v1 : v ≤ 9223372036854775807) => text_lift v HX.out.2.2.1 HX.out.2.1 h v0 v1)
  have HWI := Lib.hid (fun (W : World) (h : Below V.heap.size V W) => width_lift HX.out.2.2.1 HX.out.2.1 h)
  have d0 := HX.out.1.c0
  have d1 := HX.out.1.c1
  have d2 := HX.out.1.c2
  have HV1 := Lib.hid (HVA.out V s (fun _ => HS.out) (Below.refl _ _))
  obtain ⟨n, hn⟩ : ∃ n, n = (valE c s).1 := ⟨_, rfl⟩
  obtain ⟨b, hb⟩ : ∃ b, b = (valE c s).2 := ⟨_, rfl⟩
  rw [← hn, ← hb] at HV1
  go_wp2_with fail
  refine HV1.out.mono ?_
  rintro e w2 ⟨rfl, hB⟩
  have HN := Lib.hid hn
  have HBB := Lib.hid hb
  clear HV1 hn hb d0 d1 d2 d3 hl hl2 hs
  cases b with
  | true =>
    have hy := inv_yes (c := c) (s := s) HBB.out.symm
    rw [← HN.out] at hy
    have HT1 := Lib.hid (HTX.out w2 n hB hy.2.1 hy.2.2)
    rw [hy.1] at HT1
    have n1 : (!(s.toList == s.toList)) = false := by rw [str_same rfl]; rfl
    have hv : vldB c = true := by
      cases h : vldB c with
      | true => rfl
      | false => exfalso; have := HBB.out; unfold valE at this; rw [if_neg (by rw [h]; decide)] at this; cases this
    have hhB := HD.out _ hB
    have d0 := hhB.c0
    have d1 := hhB.c1
    have d2 := hhB.c2
    have d3 := hhB.c3
    clear hy hhB
    go_wp2_with fail
    refine HT1.out.mono ?_
    rintro e w3 ⟨rfl, hB⟩
    clear HT1 d0 d1 d2 d3 n1
    have hhB := HD.out _ hB
    have d0 := hhB.c0
    have d1 := hhB.c1
    have d2 := hhB.c2
    have d3 := hhB.c3
    clear hhB
    have HW1 := Lib.hid (HWI.out _ hB)
    rw [show widE c = c.hi - c.lo + 1 from if_pos hv] at HW1
    have hcs := vld_cases hv
    have l1 := hcs.1
    have l2 := hcs.2.1
    have l3 := hcs.2.2.1
    have HPK := Lib.hid (fun W => Pick_any pick (c.hi - c.lo + 1) (by omega) (by omega) hp0 hp1 W)
    have HLO := Lib.hid (fun W h => HTX.out W (c.lo - 1) h (by omega) (by omega))
    have HHI := Lib.hid (fun W h => HTX.out W (c.hi + 1) h (by omega) (by omega))
    rw [txt_out (v := c.lo - 1) (by omega)] at HLO
    rw [txt_out (v := c.hi + 1) (by omega)] at HHI
    have HVV := Lib.hid hv
    have hz0 : ((c.hi - c.lo + 1) == 0) = false := by rw [beq_eq_false_iff_ne]; omega
    clear hcs hv
    go_wp2_with fail
    refine HW1.out.mono ?_
    rintro e w5 ⟨rfl, hB⟩
    clear HW1 d0 d1 d2 d3
    have HS1 := Lib.hid (fun (W : World) (h : Below V.heap.size V W) => (HD.out W h).c1)
    go_upto_region 10 with fail
    go_cut [11] from 27 to 106 (fun s11 wx => ∃ r : Nat, (r : Int) < c.hi - c.lo + 1 ∧ s11 = .int .i64 (c.lo + (r : Int)) ∧ Hid (Below V.heap.size V wx))
    case first =>
      have hB := hB.drew
      go_region_held3 (fun W => W.cell? ⟨w.heap.size, 1, none⟩ = some (.int .i64 c.lo))
        (first | with_reducible exact HS1.out _ hB | with_reducible exact HS1.out _ (by assumption))
        (first | (go_at_call 37; refine (HPK.out _).mono ?_; rintro e u ⟨⟨r, hr, rfl⟩, rfl⟩))
      all_goals
        go_wp2_with fail
        go_meet
        exact ⟨r, hr, by rw [show IntKind.i64.wrap (c.lo + (r : Int)) = c.lo + (r : Int) by rw [IntKind.wrap_i64]; omega], Lib.hid hB⟩
    case rest =>
      obtain ⟨r, hr, rfl, HB⟩ := hcut
      have hB := HB.out
      have HBK := Lib.hid (inv_back (c := c) (v := c.lo + (r : Int)) HVV.out (by omega) (by omega))
      have HTV := Lib.hid (HTX.out _ (c.lo + (r : Int)) hB (by omega) (by omega))
      have HSZ := Lib.hid (fun h3 => txt_size (c := c) (v := c.lo + (r : Int)) HVV.out (by omega) (by omega) h3)
      obtain ⟨t, ht⟩ : ∃ t, t = txtE c (c.lo + (r : Int)) := ⟨_, rfl⟩
      rw [← ht] at HBK HTV HSZ
      have n1 : ¬ t.toList = [] := fun h => by
        have := str_ne HBK.out.1
        rw [h] at this
        simp [Go.Lib.toList_data] at this
      have HTE := Lib.hid (List.isEmpty_eq_false_iff.2 n1)
      have n2 : ((c.lo + (r : Int)) == (c.lo + (r : Int))) = true := by simp
      have hhB := HD.out _ hB
      have d0 := hhB.c0
      have d1 := hhB.c1
      have d2 := hhB.c2
      have d3 := hhB.c3
      clear hhB ht
      go_wp2_with fail
      refine HTV.out.mono ?_
      rintro e x1 ⟨rfl, hB⟩
      have HV2 := Lib.hid (HVA.out x1 t HSZ.out hB)
      rw [HBK.out.2] at HV2
      clear d0 d1 d2 d3 HTV
      have hhB := HD.out _ hB
      have d0 := hhB.c0
      have d1 := hhB.c1
      have d2 := hhB.c2
      have d3 := hhB.c3
      clear hhB
      go_wp2_with fail
      refine HV2.out.mono ?_
      rintro e x2 ⟨rfl, hB⟩
      clear d0 d1 d2 d3 HV2
      have hhB := HD.out _ hB
      have d0 := hhB.c0
      have d1 := hhB.c1
      have d2 := hhB.c2
      have d3 := hhB.c3
      clear hhB
      go_wp2_with fail
      refine (HLO.out _ hB).mono ?_
      rintro e x3 ⟨rfl, hB⟩
      clear d0 d1 d2 d3
      have hhB := HD.out _ hB
      have d0 := hhB.c0
      have d1 := hhB.c1
      have d2 := hhB.c2
      have d3 := hhB.c3
      clear hhB
      go_wp2_with fail
      refine (HHI.out _ hB).mono ?_
      rintro e x4 ⟨rfl, hB⟩
      have HF := Lib.hid (HX.out.2.2.2.trans (hB.mono HX.out.2.2.2.size))
      clear hB d0 d1 d2 d3
      go_wp2
      go_ret
      exact ⟨by show Ending.returned (Value.bool (!t.toList.isEmpty)) = _; rw [HTE.out]; rfl, HF.out⟩
  | false =>
    have hz := inv_no (c := c) (s := s) HBB.out.symm
    rw [← HN.out] at hz
    subst hz
    by_cases hv : vldB c = true
    · have hhB := HD.out _ hB
      have d0 := hhB.c0
      have d1 := hhB.c1
      have d2 := hhB.c2
      have d3 := hhB.c3
      clear hhB
      have HW1 := Lib.hid (HWI.out _ hB)
      rw [show widE c = c.hi - c.lo + 1 from if_pos hv] at HW1
      have hcs := vld_cases hv
      have l1 := hcs.1
      have l2 := hcs.2.1
      have l3 := hcs.2.2.1
      have HPK := Lib.hid (fun W => Pick_any pick (c.hi - c.lo + 1) (by omega) (by omega) hp0 hp1 W)
      have HLO := Lib.hid (fun W h => HTX.out W (c.lo - 1) h (by omega) (by omega))
      have HHI := Lib.hid (fun W h => HTX.out W (c.hi + 1) h (by omega) (by omega))
      rw [txt_out (v := c.lo - 1) (by omega)] at HLO
      rw [txt_out (v := c.hi + 1) (by omega)] at HHI
      have HVV := Lib.hid hv
      have hz0 : ((c.hi - c.lo + 1) == 0) = false := by rw [beq_eq_false_iff_ne]; omega
      clear hcs hv
      go_wp2_with fail
      refine HW1.out.mono ?_
      rintro e w5 ⟨rfl, hB⟩
      clear HW1 d0 d1 d2 d3
      have HS1 := Lib.hid (fun (W : World) (h : Below V.heap.size V W) => (HD.out W h).c1)
      go_upto_region 10 with fail
      go_cut [11] from 27 to 106 (fun s11 wx => ∃ r : Nat, (r : Int) < c.hi - c.lo + 1 ∧ s11 = .int .i64 (c.lo + (r : Int)) ∧ Hid (Below V.heap.size V wx))
      case first =>
        have hB := hB.drew
        go_region_held3 (fun W => W.cell? ⟨w.heap.size, 1, none⟩ = some (.int .i64 c.lo))
          (first | with_reducible exact HS1.out _ hB | with_reducible exact HS1.out _ (by assumption))
          (first | (go_at_call 37; refine (HPK.out _).mono ?_; rintro e u ⟨⟨r, hr, rfl⟩, rfl⟩))
        all_goals
          go_wp2_with fail
          go_meet
          exact ⟨r, hr, by rw [show IntKind.i64.wrap (c.lo + (r : Int)) = c.lo + (r : Int) by rw [IntKind.wrap_i64]; omega], Lib.hid hB⟩
      case rest =>
        obtain ⟨r, hr, rfl, HB⟩ := hcut
        have hB := HB.out
        have HBK := Lib.hid (inv_back (c := c) (v := c.lo + (r : Int)) HVV.out (by omega) (by omega))
        have HTV := Lib.hid (HTX.out _ (c.lo + (r : Int)) hB (by omega) (by omega))
        have HSZ := Lib.hid (fun h3 => txt_size (c := c) (v := c.lo + (r : Int)) HVV.out (by omega) (by omega) h3)
        obtain ⟨t, ht⟩ : ∃ t, t = txtE c (c.lo + (r : Int)) := ⟨_, rfl⟩
        rw [← ht] at HBK HTV HSZ
        have n1 : ¬ t.toList = [] := fun h => by
          have := str_ne HBK.out.1
          rw [h] at this
          simp [Go.Lib.toList_data] at this
        have HTE := Lib.hid (List.isEmpty_eq_false_iff.2 n1)
        have n2 : ((c.lo + (r : Int)) == (c.lo + (r : Int))) = true := by simp
        have hhB := HD.out _ hB
        have d0 := hhB.c0
        have d1 := hhB.c1
        have d2 := hhB.c2
        have d3 := hhB.c3
        clear hhB ht
        go_wp2_with fail
        refine HTV.out.mono ?_
        rintro e x1 ⟨rfl, hB⟩
        have HV2 := Lib.hid (HVA.out x1 t HSZ.out hB)
        rw [HBK.out.2] at HV2
        clear d0 d1 d2 d3 HTV
        have hhB := HD.out _ hB
        have d0 := hhB.c0
        have d1 := hhB.c1
        have d2 := hhB.c2
        have d3 := hhB.c3
        clear hhB
        go_wp2_with fail
        refine HV2.out.mono ?_
        rintro e x2 ⟨rfl, hB⟩
        clear d0 d1 d2 d3 HV2
        have hhB := HD.out _ hB
        have d0 := hhB.c0
        have d1 := hhB.c1
        have d2 := hhB.c2
        have d3 := hhB.c3
        clear hhB
        go_wp2_with fail
        refine (HLO.out _ hB).mono ?_
        rintro e x3 ⟨rfl, hB⟩
        clear d0 d1 d2 d3
        have hhB := HD.out _ hB
        have d0 := hhB.c0
        have d1 := hhB.c1
        have d2 := hhB.c2
        have d3 := hhB.c3
        clear hhB
        go_wp2_with fail
        refine (HHI.out _ hB).mono ?_
        rintro e x4 ⟨rfl, hB⟩
        have HF := Lib.hid (HX.out.2.2.2.trans (hB.mono HX.out.2.2.2.size))
        clear hB d0 d1 d2 d3
        go_wp2
        go_ret
        exact ⟨by show Ending.returned (Value.bool (!t.toList.isEmpty)) = _; rw [HTE.out]; rfl, HF.out⟩
    · have hhB := HD.out _ hB
      have d0 := hhB.c0
      have d1 := hhB.c1
      have d2 := hhB.c2
      have d3 := hhB.c3
      clear hhB
      have HW1 := Lib.hid (HWI.out _ hB)
      rw [show widE c = 0 from if_neg hv] at HW1
      have HP1 := Lib.hid (fun W h => HTX.out W pick h hp0 hp1)
      rw [txt_out (v := pick) (fun h => hv h.1)] at HP1
      go_wp2_with fail
      refine HW1.out.mono ?_
      rintro e w3 ⟨rfl, hB⟩
      have hhB := HD.out _ hB
      have d0 := hhB.c0
      have d1 := hhB.c1
      have d2 := hhB.c2
      have d3 := hhB.c3
      clear hhB
      go_wp2_with fail
      refine (HP1.out _ hB).mono ?_
      rintro e w4 ⟨rfl, hB⟩
      have HF := Lib.hid (HX.out.2.2.2.trans (hB.mono HX.out.2.2.2.size))
      clear hB
      go_wp2
      go_ret
      exact ⟨rfl, HF.out⟩

end Go.Proofs.YtgehldadfaonbaaDoor
