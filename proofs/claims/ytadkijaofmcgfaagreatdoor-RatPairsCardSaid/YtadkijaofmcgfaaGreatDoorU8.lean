/-
  The reference of rat: Sub, Div, Min, Max.
-/
import Derived.Test.YtadkijaofmcgfaaGreatDoorU7
namespace Go.Proofs.YtadkijaofmcgfaaGreatDoor
open Go.RowKit NV
open Go.Lib (decDigits)

theorem lift_rq {f : Nat} {args : Array Value} {w0 W : World} {v : Value} (h0 : Below w0.heap.size w0 W) (hc : Calls Tryz.prog f args W fun e w' => e = .returned v ∧ Below W.heap.size W w') :
    Calls Tryz.prog f args W fun e w' => e = .returned v ∧ Below w0.heap.size w0 w' :=
  hc.mono fun _ _ ⟨h1, h3⟩ => ⟨h1, h0.trans (h3.mono h0.size)⟩

theorem rover_r {w : World} {v : Value} {p r : Rat} (hp : QQ w v p) (h0 : p ≠ 0) (hr : r = p⁻¹) :
    Calls Tryz.prog 97 #[v] w fun e w' => ∃ z, e = .returned z ∧ QQ w' z r ∧ Below w.heap.size w w' := by
  rw [hr]; exact rover_q hp h0

theorem tp_ne {q : Rat} (h : q ≠ 0) : tp q ≠ 0 := fun e => h (by
  apply Rat.num_eq_zero.1
  unfold tp at e
  omega)

set_option maxHeartbeats 3200000 in
set_option maxRecDepth 100000 in
theorem rSub_q {p q : Rat} (w : World) (op : QOk p) (oq : QOk q) :
    Calls Tryz.prog 30 #[.string (qstr p), .string (qstr q)] w (RQ (p + -q) w) := by
  have HT := Lib.hid (two_q w op oq)
  have HL := Lib.hid (And.intro op.ql oq.ql)
  have HWR := Lib.hid (fun (W : World) (z : Value) (h : QQ W z (p + -q)) => rwrite_q h ((op.ql.add oq.ql.neg).mono (by omega)))
  unfold RQ at HWR ⊢
  generalize wQ (p + -q) = T at HWR ⊢
  obtain ⟨t1, t2⟩ := T
  clear op oq
  generalize qstr p = sp at HT ⊢
  generalize qstr q = sq at HT ⊢
  go_enter Tryz.func30, Tryz.ntmps30
  go_wp2_with fail
  refine HT.out.mono ?_
  rintro e w1 ⟨v, u, rfl, hv, hu, hb1⟩
  obtain ⟨a1, k1, a2, k2, rfl⟩ := hv.form
  obtain ⟨a3, k3, a4, k4, rfl⟩ := hu.form
  obtain ⟨hb2, hq1, hq2⟩ := two_newQ w1 (ng p) (ng q) (.slice a1 (ln (tp p)) k1) (.slice a2 (ln p.den) k2) (.slice a3 (ln (tp q)) k3) (.slice a4 (ln q.den) k4)
  have HV := Lib.hid (hv.below hb2)
  have HU := Lib.hid (hu.below hb2)
  have HB := Lib.hid (hb1.trans (hb2.mono hb1.size))
  have HQ1 := Lib.hid hq1
  have HQ2 := Lib.hid hq2
  clear hv hu hb1 hb2 hq1 hq2 HT
  go_wp2_with fail
  generalize (w1.alloc (.cells #[.bool (ng p), .slice a1 (ln (tp p)) k1, .slice a2 (ln p.den) k2] 78)).alloc (.cells #[.bool (ng q), .slice a3 (ln (tp q)) k3, .slice a4 (ln q.den) k4] 78) = w2 at HV HU HB HQ1 HQ2 ⊢
  have HS := Lib.hid (show ∀ W, Below w2.heap.size w2 W → W.cell? ⟨w1.heap.size, 0, none⟩ = some (.bool (ng p)) ∧ W.cell? ⟨w1.heap.size, 1, none⟩ = some (.slice a1 (ln (tp p)) k1) ∧ W.cell? ⟨w1.heap.size, 2, none⟩ = some (.slice a2 (ln p.den) k2) ∧ W.cell? ⟨w1.heap.size + 1, 0, none⟩ = some (.bool (ng q)) ∧ W.cell? ⟨w1.heap.size + 1, 1, none⟩ = some (.slice a3 (ln (tp q)) k3) ∧ W.cell? ⟨w1.heap.size + 1, 2, none⟩ = some (.slice a4 (ln q.den) k4) from fun W h =>
      ⟨(HQ1.out.keep h).c0, (HQ1.out.keep h).c1, (HQ1.out.keep h).c2, (HQ2.out.keep h).c0, (HQ2.out.keep h).c1, (HQ2.out.keep h).c2⟩)
  have hD0 := (Below.refl w2.heap.size w2).drew
  go_region_held3 (fun W => W.cell? ⟨w1.heap.size, 0, none⟩ = some (.bool (ng p)) ∧ W.cell? ⟨w1.heap.size, 1, none⟩ = some (.slice a1 (ln (tp p)) k1) ∧ W.cell? ⟨w1.heap.size, 2, none⟩ = some (.slice a2 (ln p.den) k2) ∧ W.cell? ⟨w1.heap.size + 1, 0, none⟩ = some (.bool (ng q)) ∧ W.cell? ⟨w1.heap.size + 1, 1, none⟩ = some (.slice a3 (ln (tp q)) k3) ∧ W.cell? ⟨w1.heap.size + 1, 2, none⟩ = some (.slice a4 (ln q.den) k4))
    (first | exact HS.out _ hD0 | exact HS.out _ (by assumption))
    (first
      | (go_at_call 95; refine (lift_qq (w0 := w2) (by assumption) (rneg_q (HU.out.below (by assumption)))).mono ?_; rintro e u1 ⟨z1, rfl, hz1, hb1, hB1⟩; obtain ⟨a5, k5, a6, k6, rfl⟩ := hz1.form)
      | (go_at_call 94; refine (lift_qq (w0 := w2) (by assumption) (rplus_q (HV.out.below (by assumption)) hz1 (HL.out.1.mono (by omega)) (HL.out.2.neg.mono (by omega)) rfl)).mono ?_; rintro e u2 ⟨z2, rfl, hz2, hb2, hB2⟩; obtain ⟨a7, k7, a8, k8, rfl⟩ := hz2.form)
      | (go_at_call 93; refine (lift_rq (w0 := w2) (by assumption) (HWR.out _ _ hz2)).mono ?_; rintro e u3 ⟨rfl, hB3⟩))
  replace HB := Lib.hid (HB.out.trans (hB3.mono HB.out.size))
  go_wp2_with fail
  go_ret2
  exact ⟨rfl, HB.out⟩

set_option maxHeartbeats 3200000 in
set_option maxRecDepth 100000 in
theorem rDiv_q {p q r : Rat} (w : World) (op : QOk p) (oq : QOk q) (h0 : q ≠ 0) (hr : r = q⁻¹) :
    Calls Tryz.prog 32 #[.string (qstr p), .string (qstr q)] w (RQ (p * r) w) := by
  have HT := Lib.hid (two_q w op oq)
  have HL := Lib.hid (And.intro op.ql oq.ql)
  have HWR := Lib.hid (fun (W : World) (z : Value) (h : QQ W z (p * r)) => rwrite_q h ((op.ql.mul (hr ▸ oq.ql.inv h0)).mono (by omega)))
  unfold RQ at HWR ⊢
  generalize wQ (p * r) = T at HWR ⊢
  obtain ⟨t1, t2⟩ := T
  have HN := Lib.hid (And.intro h0 hr)
  have HLR := Lib.hid (show QL 445 r from hr ▸ oq.ql.inv h0)
  have hl : (((ln (tp q) : Nat) : Int) == 0) = false := by
    have := ln_pos (tp_ne h0)
    rw [beq_eq_false_iff_ne]; omega
  clear h0 hr
  clear op oq
  generalize qstr p = sp at HT ⊢
  generalize qstr q = sq at HT ⊢
  go_enter Tryz.func32, Tryz.ntmps32
  go_wp2_with fail
  refine HT.out.mono ?_
  rintro e w1 ⟨v, u, rfl, hv, hu, hb1⟩
  obtain ⟨a1, k1, a2, k2, rfl⟩ := hv.form
  obtain ⟨a3, k3, a4, k4, rfl⟩ := hu.form
  obtain ⟨hb2, hq1, hq2⟩ := two_newQ w1 (ng p) (ng q) (.slice a1 (ln (tp p)) k1) (.slice a2 (ln p.den) k2) (.slice a3 (ln (tp q)) k3) (.slice a4 (ln q.den) k4)
  have HV := Lib.hid (hv.below hb2)
  have HU := Lib.hid (hu.below hb2)
  have HB := Lib.hid (hb1.trans (hb2.mono hb1.size))
  have HQ1 := Lib.hid hq1
  have HQ2 := Lib.hid hq2
  clear hv hu hb1 hb2 hq1 hq2 HT
  go_wp2_with fail
  generalize (w1.alloc (.cells #[.bool (ng p), .slice a1 (ln (tp p)) k1, .slice a2 (ln p.den) k2] 78)).alloc (.cells #[.bool (ng q), .slice a3 (ln (tp q)) k3, .slice a4 (ln q.den) k4] 78) = w2 at HV HU HB HQ1 HQ2 ⊢
  have HS := Lib.hid (show ∀ W, Below w2.heap.size w2 W → W.cell? ⟨w1.heap.size, 0, none⟩ = some (.bool (ng p)) ∧ W.cell? ⟨w1.heap.size, 1, none⟩ = some (.slice a1 (ln (tp p)) k1) ∧ W.cell? ⟨w1.heap.size, 2, none⟩ = some (.slice a2 (ln p.den) k2) ∧ W.cell? ⟨w1.heap.size + 1, 0, none⟩ = some (.bool (ng q)) ∧ W.cell? ⟨w1.heap.size + 1, 1, none⟩ = some (.slice a3 (ln (tp q)) k3) ∧ W.cell? ⟨w1.heap.size + 1, 2, none⟩ = some (.slice a4 (ln q.den) k4) from fun W h =>
      ⟨(HQ1.out.keep h).c0, (HQ1.out.keep h).c1, (HQ1.out.keep h).c2, (HQ2.out.keep h).c0, (HQ2.out.keep h).c1, (HQ2.out.keep h).c2⟩)
  have hD0 := (Below.refl w2.heap.size w2).drew
  go_region_held3 (fun W => W.cell? ⟨w1.heap.size, 0, none⟩ = some (.bool (ng p)) ∧ W.cell? ⟨w1.heap.size, 1, none⟩ = some (.slice a1 (ln (tp p)) k1) ∧ W.cell? ⟨w1.heap.size, 2, none⟩ = some (.slice a2 (ln p.den) k2) ∧ W.cell? ⟨w1.heap.size + 1, 0, none⟩ = some (.bool (ng q)) ∧ W.cell? ⟨w1.heap.size + 1, 1, none⟩ = some (.slice a3 (ln (tp q)) k3) ∧ W.cell? ⟨w1.heap.size + 1, 2, none⟩ = some (.slice a4 (ln q.den) k4))
    (first | exact HS.out _ hD0 | exact HS.out _ (by assumption))
    (first
      | (go_at_call 97; refine (lift_qq (w0 := w2) (by assumption) (rover_r (HU.out.below (by assumption)) HN.out.1 HN.out.2)).mono ?_; rintro e u1 ⟨z1, rfl, hz1, hb1, hB1⟩; obtain ⟨a5, k5, a6, k6, rfl⟩ := hz1.form)
      | (go_at_call 96; refine (lift_qq (w0 := w2) (by assumption) (rtimes_q (HV.out.below (by assumption)) hz1 (HL.out.1.mono (by omega)) (HLR.out.mono (by omega)) rfl)).mono ?_; rintro e u2 ⟨z2, rfl, hz2, hb2, hB2⟩; obtain ⟨a7, k7, a8, k8, rfl⟩ := hz2.form)
      | (go_at_call 93; refine (lift_rq (w0 := w2) (by assumption) (HWR.out _ _ hz2)).mono ?_; rintro e u3 ⟨rfl, hB3⟩))
  replace HB := Lib.hid (HB.out.trans (hB3.mono HB.out.size))
  go_wp2_with fail
  go_ret2
  exact ⟨rfl, HB.out⟩

set_option maxHeartbeats 3200000 in
set_option maxRecDepth 100000 in
theorem rDiv_z {p q : Rat} (w : World) (op : QOk p) (oq : QOk q) (h0 : q = 0) :
    Calls Tryz.prog 32 #[.string (qstr p), .string (qstr q)] w (E2 6 w) := by
  have HT := Lib.hid (two_q w op oq)
  have HL := Lib.hid (And.intro op.ql oq.ql)
  have hl : ln (tp q) = 0 := by rw [h0]; exact ln_zero
  unfold E2
  clear op oq h0
  generalize qstr p = sp at HT ⊢
  generalize qstr q = sq at HT ⊢
  go_enter Tryz.func32, Tryz.ntmps32
  go_wp2_with fail
  refine HT.out.mono ?_
  rintro e w1 ⟨v, u, rfl, hv, hu, hb1⟩
  obtain ⟨a1, k1, a2, k2, rfl⟩ := hv.form
  obtain ⟨a3, k3, a4, k4, rfl⟩ := hu.form
  obtain ⟨hb2, hq1, hq2⟩ := two_newQ w1 (ng p) (ng q) (.slice a1 (ln (tp p)) k1) (.slice a2 (ln p.den) k2) (.slice a3 (ln (tp q)) k3) (.slice a4 (ln q.den) k4)
  have HV := Lib.hid (hv.below hb2)
  have HU := Lib.hid (hu.below hb2)
  have HB := Lib.hid (hb1.trans (hb2.mono hb1.size))
  have HQ1 := Lib.hid hq1
  have HQ2 := Lib.hid hq2
  clear hv hu hb1 hb2 hq1 hq2 HT
  rw [hl] at HB
  go_wp2_with fail
  go_ret2
  exact ⟨rfl, HB.out⟩

set_option maxHeartbeats 1600000 in
theorem rMin_err {s t : ByteArray} (w : World) (hs : s.size ≤ 140737488351232) (ht : t.size ≤ 140737488351232) {c : Nat} (hc : (if rchk s ≠ 0 then rchk s else rchk t) = c) (h0 : c ≠ 0) :
    Calls Tryz.prog 35 #[.string s, .string t] w (E2 c w) := by
  have HT := Lib.hid (rCmp_err w hs ht hc h0)
  have hne := errne h0
  unfold E2
  unfold E2i at HT
  clear hs ht hc h0
  go_enter Tryz.func35, Tryz.ntmps35
  go_wp2_with fail
  refine HT.out.mono ?_
  rintro e w1 ⟨rfl, hb1⟩
  go_wp2_with fail
  go_ret2
  exact ⟨rfl, hb1⟩

set_option maxHeartbeats 1600000 in
theorem rMin_q {p q : Rat} (w : World) (op : QOk p) (oq : QOk q) :
    Calls Tryz.prog 35 #[.string (qstr p), .string (qstr q)] w fun e w' => e = .returned (.tuple #[.string (qstr (if cmpQ p q ≤ 0 then p else q)), .int .i64 0]) ∧ Below w.heap.size w w' := by
  have HT := Lib.hid (rCmp_q w op oq)
  clear op oq
  generalize cmpQ p q = C at HT ⊢
  by_cases h : C ≤ 0
  · rw [if_pos h]
    generalize qstr p = sp at HT ⊢
    generalize qstr q = sq at HT ⊢
    go_enter Tryz.func35, Tryz.ntmps35
    go_wp2_with fail
    refine HT.out.mono ?_
    rintro e w1 ⟨rfl, hb1⟩
    go_wp2_with fail
    go_ret2
    exact ⟨rfl, hb1⟩
  · rw [if_neg h]
    generalize qstr p = sp at HT ⊢
    generalize qstr q = sq at HT ⊢
    go_enter Tryz.func35, Tryz.ntmps35
    go_wp2_with fail
    refine HT.out.mono ?_
    rintro e w1 ⟨rfl, hb1⟩
    go_wp2_with fail
    go_ret2
    exact ⟨rfl, hb1⟩

set_option maxHeartbeats 1600000 in
theorem rMax_err {s t : ByteArray} (w : World) (hs : s.size ≤ 140737488351232) (ht : t.size ≤ 140737488351232) {c : Nat} (hc : (if rchk s ≠ 0 then rchk s else rchk t) = c) (h0 : c ≠ 0) :
    Calls Tryz.prog 36 #[.string s, .string t] w (E2 c w) := by
  have HT := Lib.hid (rCmp_err w hs ht hc h0)
  have hne := errne h0
  unfold E2
  unfold E2i at HT
  clear hs ht hc h0
  go_enter Tryz.func36, Tryz.ntmps36
  go_wp2_with fail
  refine HT.out.mono ?_
  rintro e w1 ⟨rfl, hb1⟩
  go_wp2_with fail
  go_ret2
  exact ⟨rfl, hb1⟩

set_option maxHeartbeats 1600000 in
theorem rMax_q {p q : Rat} (w : World) (op : QOk p) (oq : QOk q) :
    Calls Tryz.prog 36 #[.string (qstr p), .string (qstr q)] w fun e w' => e = .returned (.tuple #[.string (qstr (if 0 ≤ cmpQ p q then p else q)), .int .i64 0]) ∧ Below w.heap.size w w' := by
  have HT := Lib.hid (rCmp_q w op oq)
  clear op oq
  generalize cmpQ p q = C at HT ⊢
  by_cases h : 0 ≤ C
  · rw [if_pos h]
    generalize qstr p = sp at HT ⊢
    generalize qstr q = sq at HT ⊢
    go_enter Tryz.func36, Tryz.ntmps36
    go_wp2_with fail
    refine HT.out.mono ?_
    rintro e w1 ⟨rfl, hb1⟩
    go_wp2_with fail
    go_ret2
    exact ⟨rfl, hb1⟩
  · rw [if_neg h]
    generalize qstr p = sp at HT ⊢
    generalize qstr q = sq at HT ⊢
    go_enter Tryz.func36, Tryz.ntmps36
    go_wp2_with fail
    refine HT.out.mono ?_
    rintro e w1 ⟨rfl, hb1⟩
    go_wp2_with fail
    go_ret2
    exact ⟨rfl, hb1⟩

end Go.Proofs.YtadkijaofmcgfaaGreatDoor
