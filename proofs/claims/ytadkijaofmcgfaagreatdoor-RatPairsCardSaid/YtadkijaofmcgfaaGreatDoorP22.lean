/-
  The functions that rat hands to withOne and withTwo.
-/
import Derived.Test.YtadkijaofmcgfaaGreatDoorP16
import Derived.Test.YtadkijaofmcgfaaGreatDoorP20
namespace Go.Proofs.YtadkijaofmcgfaaGreatDoor
open Go.RowKit NV
open Go.Lib (decDigits)

theorem FQ.form {w : World} {v : Value} {q : Rat} (h : FQ w v q) : ∃ a1 k1 a2 k2, v = .agg #[.bool (ng q), .slice a1 (ln (tp q)) k1, .slice a2 (ln q.den) k2] := by
  obtain ⟨x, y, rfl, hx, hy⟩ := h
  obtain ⟨a1, k1, rfl⟩ := slice_any hx
  obtain ⟨a2, k2, rfl⟩ := slice_any hy
  exact ⟨a1, k1, a2, k2, rfl⟩

theorem lift_q {f : Nat} {args : Array Value} {w0 W : World} {q : Rat} (h0 : Below w0.heap.size w0 W) (hc : Calls Tryz.prog f args W fun e w' => ∃ v, e = .returned v ∧ FQ w' v q ∧ Below W.heap.size W w') :
    Calls Tryz.prog f args W fun e w' => ∃ v, e = .returned v ∧ FQ w' v q ∧ Below W.heap.size W w' ∧ Below w0.heap.size w0 w' :=
  hc.mono fun _ _ ⟨v, h1, h2, h3⟩ => ⟨v, h1, h2, h3, h0.trans (h3.mono h0.size)⟩

/-- What the functions return of a number. -/
def RQ (q : Rat) (w : World) (e : Ending) (w' : World) : Prop := e = .returned (.tuple #[.string (wQ q).1, .int .i64 ((wQ q).2 : Int)]) ∧ Below w.heap.size w w'

set_option maxHeartbeats 3200000 in
set_option maxRecDepth 100000 in
theorem add_clo {w : World} {v u : Value} {p q : Rat} (hp : FQ w v p) (hq : FQ w u q) (lp : QL 445 p) (lq : QL 445 q) (htab : Tab w) :
    Calls Tryz.prog 87 #[v, u] w (RQ (p + q) w) := by
  obtain ⟨a1, k1, a2, k2, rfl⟩ := hp.form
  obtain ⟨a3, k3, a4, k4, rfl⟩ := hq.form
  obtain ⟨hb0, hq1, hq2⟩ := two_frac w (ng p) (ng q) (.slice a1 (ln (tp p)) k1) (.slice a2 (ln p.den) k2) (.slice a3 (ln (tp q)) k3) (.slice a4 (ln q.den) k4)
  have HP := Lib.hid (hp.below hb0)
  have HQ := Lib.hid (hq.below hb0)
  have HT := Lib.hid (htab.below hb0)
  have HB := Lib.hid hb0
  have HL := Lib.hid (And.intro lp lq)
  clear hp hq htab hb0 hq1 hq2 lp lq
  go_enter Tryz.func87, Tryz.ntmps87
  go_wp2_with fail
  generalize (w.alloc (.cells #[.bool (ng p), .slice a1 (ln (tp p)) k1, .slice a2 (ln p.den) k2] 49)).alloc (.cells #[.bool (ng q), .slice a3 (ln (tp q)) k3, .slice a4 (ln q.den) k4] 49) = w0 at HP HQ HT HB ⊢
  refine (plus_q HP.out HQ.out (HL.out.1.mono (by omega)) (HL.out.2.mono (by omega))).mono ?_
  rintro e w1 ⟨z, rfl, hz, hb1⟩
  obtain ⟨a5, k5, a6, k6, rfl⟩ := hz.form
  have HZ := Lib.hid hz
  replace HT := Lib.hid (HT.out.below hb1)
  replace HB := Lib.hid (HB.out.trans (hb1.mono HB.out.size))
  clear hz hb1
  go_wp2_with fail
  refine (write_q HZ.out ((QL.add HL.out.1 HL.out.2).mono (by omega)) HT.out).mono ?_
  rintro e w2 ⟨rfl, hb2⟩
  replace HB := Lib.hid (HB.out.trans (hb2.mono HB.out.size))
  clear hb2
  go_wp2_with fail
  go_ret2
  exact ⟨rfl, HB.out⟩

set_option maxHeartbeats 3200000 in
set_option maxRecDepth 100000 in
theorem mul_clo {w : World} {v u : Value} {p q : Rat} (hp : FQ w v p) (hq : FQ w u q) (lp : QL 445 p) (lq : QL 445 q) (htab : Tab w) :
    Calls Tryz.prog 66 #[v, u] w (RQ (p * q) w) := by
  obtain ⟨a1, k1, a2, k2, rfl⟩ := hp.form
  obtain ⟨a3, k3, a4, k4, rfl⟩ := hq.form
  obtain ⟨hb0, hq1, hq2⟩ := two_frac w (ng p) (ng q) (.slice a1 (ln (tp p)) k1) (.slice a2 (ln p.den) k2) (.slice a3 (ln (tp q)) k3) (.slice a4 (ln q.den) k4)
  have HP := Lib.hid (hp.below hb0)
  have HQ := Lib.hid (hq.below hb0)
  have HT := Lib.hid (htab.below hb0)
  have HB := Lib.hid hb0
  have HL := Lib.hid (And.intro lp lq)
  clear hp hq htab hb0 hq1 hq2 lp lq
  go_enter Tryz.func66, Tryz.ntmps66
  go_wp2_with fail
  generalize (w.alloc (.cells #[.bool (ng p), .slice a1 (ln (tp p)) k1, .slice a2 (ln p.den) k2] 49)).alloc (.cells #[.bool (ng q), .slice a3 (ln (tp q)) k3, .slice a4 (ln q.den) k4] 49) = w0 at HP HQ HT HB ⊢
  refine (times_q HP.out HQ.out (HL.out.1.mono (by omega)) (HL.out.2.mono (by omega))).mono ?_
  rintro e w1 ⟨z, rfl, hz, hb1⟩
  obtain ⟨a5, k5, a6, k6, rfl⟩ := hz.form
  have HZ := Lib.hid hz
  replace HT := Lib.hid (HT.out.below hb1)
  replace HB := Lib.hid (HB.out.trans (hb1.mono HB.out.size))
  clear hz hb1
  go_wp2_with fail
  refine (write_q HZ.out ((QL.mul HL.out.1 HL.out.2).mono (by omega)) HT.out).mono ?_
  rintro e w2 ⟨rfl, hb2⟩
  replace HB := Lib.hid (HB.out.trans (hb2.mono HB.out.size))
  clear hb2
  go_wp2_with fail
  go_ret2
  exact ⟨rfl, HB.out⟩

set_option maxHeartbeats 3200000 in
set_option maxRecDepth 100000 in
theorem neg_clo {w : World} {v : Value} {p : Rat} (hp : FQ w v p) (lp : QL 445 p) (htab : Tab w) :
    Calls Tryz.prog 103 #[v] w (RQ (-p) w) := by
  obtain ⟨a1, k1, a2, k2, rfl⟩ := hp.form
  have hb0 : Below w.heap.size w (w.alloc (.cells #[.bool (ng p), .slice a1 (ln (tp p)) k1, .slice a2 (ln p.den) k2] 49)) := (Below.refl _ _).alloc (Nat.le_refl _) _
  have HP := Lib.hid (hp.below hb0)
  have HT := Lib.hid (htab.below hb0)
  have HB := Lib.hid hb0
  have HL := Lib.hid lp
  clear hp htab hb0 lp
  go_enter Tryz.func103, Tryz.ntmps103
  go_wp2_with fail
  generalize w.alloc (.cells #[.bool (ng p), .slice a1 (ln (tp p)) k1, .slice a2 (ln p.den) k2] 49) = w0 at HP HT HB ⊢
  refine (negated_q HP.out).mono ?_
  rintro e w1 ⟨z, rfl, hz, hb1⟩
  obtain ⟨a5, k5, a6, k6, rfl⟩ := hz.form
  have HZ := Lib.hid hz
  replace HT := Lib.hid (HT.out.below hb1)
  replace HB := Lib.hid (HB.out.trans (hb1.mono HB.out.size))
  clear hz hb1
  go_wp2_with fail
  refine (write_q HZ.out (HL.out.neg.mono (by omega)) HT.out).mono ?_
  rintro e w2 ⟨rfl, hb2⟩
  replace HB := Lib.hid (HB.out.trans (hb2.mono HB.out.size))
  clear hb2
  go_wp2_with fail
  go_ret2
  exact ⟨rfl, HB.out⟩

set_option maxHeartbeats 3200000 in
set_option maxRecDepth 100000 in
theorem div_zero_clo {w : World} {v u : Value} {p q : Rat} (hp : FQ w v p) (hq : FQ w u q) (h0 : q = 0) :
    Calls Tryz.prog 68 #[v, u] w fun e w' => e = .returned (.tuple #[.string ⟨#[]⟩, .int .i64 6]) ∧ Below w.heap.size w w' := by
  obtain ⟨a1, k1, a2, k2, rfl⟩ := hp.form
  obtain ⟨a3, k3, a4, k4, rfl⟩ := hq.form
  obtain ⟨hb0, hq1, hq2⟩ := two_frac w (ng p) (ng q) (.slice a1 (ln (tp p)) k1) (.slice a2 (ln p.den) k2) (.slice a3 (ln (tp q)) k3) (.slice a4 (ln q.den) k4)
  have HZ := Lib.hid (fzero_q (hq.below hb0))
  rw [decide_eq_true h0] at HZ
  have HB := Lib.hid hb0
  clear hp hq hb0 hq1 hq2 h0
  go_enter Tryz.func68, Tryz.ntmps68
  go_wp2_with fail
  refine HZ.out.mono ?_
  rintro e w1 ⟨rfl, hb1⟩
  replace HB := Lib.hid (HB.out.trans (hb1.mono HB.out.size))
  clear hb1
  go_wp2_with fail
  go_ret2
  exact ⟨rfl, HB.out⟩

set_option maxHeartbeats 6400000 in
set_option maxRecDepth 100000 in
theorem sub_clo {w : World} {v u : Value} {p q : Rat} (hp : FQ w v p) (hq : FQ w u q) (lp : QL 445 p) (lq : QL 445 q) (htab : Tab w)  :
    Calls Tryz.prog 62 #[v, u] w (RQ (p + -q) w) := by
  obtain ⟨a1, k1, a2, k2, rfl⟩ := hp.form
  obtain ⟨a3, k3, a4, k4, rfl⟩ := hq.form
  obtain ⟨hb0, hq1, hq2⟩ := two_frac w (ng p) (ng q) (.slice a1 (ln (tp p)) k1) (.slice a2 (ln p.den) k2) (.slice a3 (ln (tp q)) k3) (.slice a4 (ln q.den) k4)
  have HP := Lib.hid (hp.below hb0)
  have HQ := Lib.hid (hq.below hb0)
  have HT := Lib.hid (htab.below hb0)
  have HB := Lib.hid hb0
  have HF1 := Lib.hid hq1
  have HF2 := Lib.hid hq2
  have HL := Lib.hid (And.intro lp (show QL 445 (-q) from lq.neg))
  clear hp hq htab hb0 hq1 hq2 lp lq 
  go_enter Tryz.func62, Tryz.ntmps62
  go_wp2_with fail
  generalize (w.alloc (.cells #[.bool (ng p), .slice a1 (ln (tp p)) k1, .slice a2 (ln p.den) k2] 49)).alloc (.cells #[.bool (ng q), .slice a3 (ln (tp q)) k3, .slice a4 (ln q.den) k4] 49) = w0 at HP HQ HT HB HF1 HF2 ⊢
  have HS := Lib.hid (show ∀ W, Below w0.heap.size w0 W → W.cell? ⟨w.heap.size, 0, none⟩ = some (.bool (ng p)) ∧ W.cell? ⟨w.heap.size, 1, none⟩ = some (.slice a1 (ln (tp p)) k1) ∧ W.cell? ⟨w.heap.size, 2, none⟩ = some (.slice a2 (ln p.den) k2) ∧
      W.cell? ⟨w.heap.size + 1, 0, none⟩ = some (.bool (ng q)) ∧ W.cell? ⟨w.heap.size + 1, 1, none⟩ = some (.slice a3 (ln (tp q)) k3) ∧ W.cell? ⟨w.heap.size + 1, 2, none⟩ = some (.slice a4 (ln q.den) k4) from fun W h =>
      ⟨(HF1.out.keep h).c0, (HF1.out.keep h).c1, (HF1.out.keep h).c2, (HF2.out.keep h).c0, (HF2.out.keep h).c1, (HF2.out.keep h).c2⟩)
  have hD0 := (Below.refl w0.heap.size w0).drew
  go_region_held3 (fun W => W.cell? ⟨w.heap.size, 0, none⟩ = some (.bool (ng p)) ∧ W.cell? ⟨w.heap.size, 1, none⟩ = some (.slice a1 (ln (tp p)) k1) ∧ W.cell? ⟨w.heap.size, 2, none⟩ = some (.slice a2 (ln p.den) k2) ∧
      W.cell? ⟨w.heap.size + 1, 0, none⟩ = some (.bool (ng q)) ∧ W.cell? ⟨w.heap.size + 1, 1, none⟩ = some (.slice a3 (ln (tp q)) k3) ∧ W.cell? ⟨w.heap.size + 1, 2, none⟩ = some (.slice a4 (ln q.den) k4))
    (first | exact HS.out _ hD0 | exact HS.out _ (by assumption))
    (first
      | (go_at_call 65; refine (lift_q (w0 := w0) (by assumption) (negated_q (HQ.out.below (by assumption)))).mono ?_; rintro e w1 ⟨z1, rfl, hz1, hb1, hB1⟩; obtain ⟨a5, k5, a6, k6, rfl⟩ := hz1.form)
      | (go_at_call 64; refine (lift_q (w0 := w0) (by assumption) (plus_q (HP.out.below (by assumption)) hz1 (HL.out.1.mono (by omega)) (HL.out.2.mono (by omega)))).mono ?_; rintro e w2 ⟨z2, rfl, hz2, hb2, hB2⟩; obtain ⟨a7, k7, a8, k8, rfl⟩ := hz2.form)
      | (go_at_call 63; refine (write_q hz2 ((QL.add HL.out.1 HL.out.2).mono (by omega)) (HT.out.below (by assumption))).mono ?_; rintro e w3 ⟨rfl, hb3⟩; have hB3 := hB2.trans (hb3.mono hB2.size)))
  replace HB := Lib.hid (HB.out.trans (hB3.mono HB.out.size))
  clear hz1 hb1 hB1 hz2 hb2 hB2 hb3 hB3 hD0
  go_wp2_with fail
  go_ret2
  exact ⟨rfl, HB.out⟩

set_option maxHeartbeats 6400000 in
set_option maxRecDepth 100000 in
theorem div_clo {w : World} {v u : Value} {p q : Rat} (hp : FQ w v p) (hq : FQ w u q) (lp : QL 445 p) (lq : QL 445 q) (htab : Tab w) (h0 : q ≠ 0) (r : Rat) (hr : r = q⁻¹) :
    Calls Tryz.prog 68 #[v, u] w (RQ (p * r) w) := by
  obtain ⟨a1, k1, a2, k2, rfl⟩ := hp.form
  obtain ⟨a3, k3, a4, k4, rfl⟩ := hq.form
  obtain ⟨hb0, hq1, hq2⟩ := two_frac w (ng p) (ng q) (.slice a1 (ln (tp p)) k1) (.slice a2 (ln p.den) k2) (.slice a3 (ln (tp q)) k3) (.slice a4 (ln q.den) k4)
  have HP := Lib.hid (hp.below hb0)
  have HQ := Lib.hid (hq.below hb0)
  have HT := Lib.hid (htab.below hb0)
  have HB := Lib.hid hb0
  have HF1 := Lib.hid hq1
  have HF2 := Lib.hid hq2
  have HL := Lib.hid (And.intro lp (show QL 445 (r) from hr ▸ lq.inv h0))
  have HZ := Lib.hid (fzero_q (hq.below hb0))
  rw [decide_eq_false h0] at HZ
  have HN := Lib.hid (show ∀ W v, FQ W v q → Calls Tryz.prog 70 #[v] W fun e w' => ∃ z, e = .returned z ∧ FQ w' z r ∧ Below W.heap.size W w' from fun W v h => hr ▸ inverse_q h h0)
  clear hp hq htab hb0 hq1 hq2 lp lq h0 hr
  go_enter Tryz.func68, Tryz.ntmps68
  go_wp2_with fail
  generalize (w.alloc (.cells #[.bool (ng p), .slice a1 (ln (tp p)) k1, .slice a2 (ln p.den) k2] 49)).alloc (.cells #[.bool (ng q), .slice a3 (ln (tp q)) k3, .slice a4 (ln q.den) k4] 49) = w0 at HP HQ HT HB HF1 HF2 HZ ⊢
  refine HZ.out.mono ?_
  rintro e w9 ⟨rfl, hb9⟩
  replace HP := Lib.hid (HP.out.below hb9)
  replace HQ := Lib.hid (HQ.out.below hb9)
  replace HT := Lib.hid (HT.out.below hb9)
  replace HF1 := Lib.hid (HF1.out.keep hb9)
  replace HF2 := Lib.hid (HF2.out.keep hb9)
  replace HB := Lib.hid (HB.out.trans (hb9.mono HB.out.size))
  clear hb9 HZ
  go_wp2_with fail
  have HS := Lib.hid (show ∀ W, Below w9.heap.size w9 W → W.cell? ⟨w.heap.size, 0, none⟩ = some (.bool (ng p)) ∧ W.cell? ⟨w.heap.size, 1, none⟩ = some (.slice a1 (ln (tp p)) k1) ∧ W.cell? ⟨w.heap.size, 2, none⟩ = some (.slice a2 (ln p.den) k2) ∧
      W.cell? ⟨w.heap.size + 1, 0, none⟩ = some (.bool (ng q)) ∧ W.cell? ⟨w.heap.size + 1, 1, none⟩ = some (.slice a3 (ln (tp q)) k3) ∧ W.cell? ⟨w.heap.size + 1, 2, none⟩ = some (.slice a4 (ln q.den) k4) from fun W h =>
      ⟨(HF1.out.keep h).c0, (HF1.out.keep h).c1, (HF1.out.keep h).c2, (HF2.out.keep h).c0, (HF2.out.keep h).c1, (HF2.out.keep h).c2⟩)
  have hD0 := (Below.refl w9.heap.size w9).drew
  go_region_held3 (fun W => W.cell? ⟨w.heap.size, 0, none⟩ = some (.bool (ng p)) ∧ W.cell? ⟨w.heap.size, 1, none⟩ = some (.slice a1 (ln (tp p)) k1) ∧ W.cell? ⟨w.heap.size, 2, none⟩ = some (.slice a2 (ln p.den) k2) ∧
      W.cell? ⟨w.heap.size + 1, 0, none⟩ = some (.bool (ng q)) ∧ W.cell? ⟨w.heap.size + 1, 1, none⟩ = some (.slice a3 (ln (tp q)) k3) ∧ W.cell? ⟨w.heap.size + 1, 2, none⟩ = some (.slice a4 (ln q.den) k4))
    (first | exact HS.out _ hD0 | exact HS.out _ (by assumption))
    (first
      | (go_at_call 70; refine (lift_q (w0 := w9) (by assumption) (HN.out _ _ (HQ.out.below (by assumption)))).mono ?_; rintro e w1 ⟨z1, rfl, hz1, hb1, hB1⟩; obtain ⟨a5, k5, a6, k6, rfl⟩ := hz1.form)
      | (go_at_call 67; refine (lift_q (w0 := w9) (by assumption) (times_q (HP.out.below (by assumption)) hz1 (HL.out.1.mono (by omega)) (HL.out.2.mono (by omega)))).mono ?_; rintro e w2 ⟨z2, rfl, hz2, hb2, hB2⟩; obtain ⟨a7, k7, a8, k8, rfl⟩ := hz2.form)
      | (go_at_call 63; refine (write_q hz2 ((QL.mul HL.out.1 HL.out.2).mono (by omega)) (HT.out.below (by assumption))).mono ?_; rintro e w3 ⟨rfl, hb3⟩; have hB3 := hB2.trans (hb3.mono hB2.size)))
  replace HB := Lib.hid (HB.out.trans (hB3.mono HB.out.size))
  clear hz1 hb1 hB1 hz2 hb2 hB2 hb3 hB3 hD0
  go_wp2_with fail
  go_ret2
  exact ⟨rfl, HB.out⟩

end Go.Proofs.YtadkijaofmcgfaaGreatDoor
