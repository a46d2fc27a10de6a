/-
  rat's Pow of a number.
-/
import Derived.Test.YtadkijaofmcgfaaGreatDoorP23
namespace Go.Proofs.YtadkijaofmcgfaaGreatDoor
open Go.RowKit NV
open Go.Lib (decDigits)

/-- Block b holds an int. -/
def Iv (w : World) (b : Nat) (n : Int) : Prop := w.heap[b]? = some (.cells #[.int .i64 n] 3 (0, 0))
theorem Iv.keep {w w' : World} {b : Nat} {n : Int} (hf : Iv w b n) (hb : Below w.heap.size w w') : Iv w' b n := (hb.block _ (Array.getElem?_eq_some_iff.1 hf).1).trans hf
theorem Iv.c0 {w : World} {b : Nat} {n : Int} (hf : Iv w b n) : w.cell? ⟨b, 0, none⟩ = some (.int .i64 n) := by rw [Lib.cell_of_heap hf]; rfl

theorem pow_fits {q : Rat} {k : Nat} : (fitB (tp q ^ k) && fitB (q.den ^ k)) = true ↔ QOk (q ^ k) := by
  obtain ⟨h1, h2, _⟩ := pow_parts q k
  unfold QOk
  rw [h1, h2, Bool.and_eq_true, fitB_iff, fitB_iff]

theorem wQ_no {q : Rat} (h : ¬ QOk q) : wQ q = (⟨#[]⟩, 5) := if_neg h

/-- The tail of Pow's function: the power, and its text. -/
theorem pow_num {w : World} {q : Rat} {k : Nat} {m : Bool} {v u : Value} (h : QOk (q ^ k)) (hh : Ok (tp q ^ k) → Ok (q.den ^ k) → m = (ng q && decide (k % 2 = 1)) ∧ Num w v (tp q ^ k) ∧ Num w u (q.den ^ k)) :
    FQ w (.agg #[.bool m, v, u]) (q ^ k) := by
  obtain ⟨h1, h2, h3⟩ := pow_parts q k
  have h' := h
  unfold QOk at h'
  rw [h1, h2] at h'
  obtain ⟨e1, e2, e3⟩ := hh h'.1 h'.2
  exact fnum_of ⟨_, _, rfl, e2, e3⟩ (h3.trans e1.symm) h1 h2

set_option maxHeartbeats 6400000 in
set_option maxRecDepth 100000 in
theorem pow_clo_pos {w : World} {v : Value} {q : Rat} {k bn : Nat} (hq : FQ w v q) (lq : QOk q) (hk : k < 9223372036854775808) (hn : Iv w bn (k : Int)) (htab : Tab w) :
    Calls Tryz.prog 72 #[v, .pointer (some ⟨bn, 0, none⟩)] w (RQ (q ^ k) w) := by
  obtain ⟨a1, k1, a2, k2, rfl⟩ := hq.form
  have hb0 : Below w.heap.size w (w.alloc (.cells #[.bool (ng q), .slice a1 (ln (tp q)) k1, .slice a2 (ln q.den) k2] 49)) := (Below.refl _ _).alloc (Nat.le_refl _) _
  have c0 := (hn.keep hb0).c0
  obtain ⟨x1, y1, hxy, hx1, hy1⟩ := hq
  obtain ⟨rfl, rfl⟩ : x1 = .slice a1 (ln (tp q)) k1 ∧ y1 = .slice a2 (ln q.den) k2 := by simpa using hxy.symm
  have HX := Lib.hid (hx1.below hb0)
  have HY := Lib.hid (hy1.below hb0)
  have HT := Lib.hid (htab.below hb0)
  have HB := Lib.hid hb0
  have HO := Lib.hid lq
  have hk1 : (k : Int) < 9223372036854775808 := by omega
  have hw : IntKind.u64.wrap (k : Int) = (k : Int) := by simp [IntKind.wrap, IntKind.signed, IntKind.bits]; omega
  have hneg : ¬ ((k : Int) < 0) := by omega
  clear hx1 hy1 htab hb0 lq hn hxy
  go_enter Tryz.func72, Tryz.ntmps72
  go_wp2_with fail
  refine (fpower_any (k := k) HX.out HY.out HO.out.1 HO.out.2 (by omega)).mono ?_
  rintro e w1 ⟨⟨m', b1, L1, l1, b2, L2, l2, rfl, hh⟩, hb1⟩
  replace HT := Lib.hid (HT.out.below hb1)
  replace HB := Lib.hid (HB.out.trans (hb1.mono HB.out.size))
  by_cases ho : QOk (q ^ k)
  · have hf := pow_num ho hh
    have hfb := pow_fits.2 ho
    rw [hfb]
    have hb3 : Below w1.heap.size w1 (w1.alloc (.cells #[.bool m', .slice b1 L1 l1, .slice b2 L2 l2] 49)) := (Below.refl _ _).alloc (Nat.le_refl _) _
    have HW := Lib.hid (write_q (hf.below hb3) (ho.ql.mono (by omega)) (HT.out.below hb3))
    replace HB := Lib.hid (HB.out.trans (hb3.mono HB.out.size))
    clear hh hf hfb hb3 hb1 ho
    go_wp2_with fail
    refine HW.out.mono ?_
    rintro e w4 ⟨rfl, hb4⟩
    replace HB := Lib.hid (HB.out.trans (hb4.mono HB.out.size))
    clear hb4 HW
    go_wp2_with fail
    go_ret2
    exact ⟨rfl, HB.out⟩
  · have hfb : (fitB (tp q ^ k) && fitB (q.den ^ k)) = false := by
      cases h : (fitB (tp q ^ k) && fitB (q.den ^ k)) with
      | false => rfl
      | true => exact absurd (pow_fits.1 h) ho
    rw [hfb]
    have HW := Lib.hid (wQ_no ho)
    replace HB := Lib.hid (HB.out.alloc HB.out.size (.cells #[.bool m', .slice b1 L1 l1, .slice b2 L2 l2] 49))
    clear hh hfb hb1 ho
    go_wp2_with fail
    go_ret2
    exact ⟨by rw [HW.out]; rfl, HB.out⟩

set_option maxHeartbeats 6400000 in
set_option maxRecDepth 100000 in
theorem pow_clo_zero {w : World} {v : Value} {q : Rat} {n : Int} {bn : Nat} (hq : FQ w v q) (h0 : q = 0) (hn0 : n < 0) (hn : Iv w bn n) :
    Calls Tryz.prog 72 #[v, .pointer (some ⟨bn, 0, none⟩)] w fun e w' => e = .returned (.tuple #[.string ⟨#[]⟩, .int .i64 6]) ∧ Below w.heap.size w w' := by
  obtain ⟨a1, k1, a2, k2, rfl⟩ := hq.form
  have hb0 : Below w.heap.size w (w.alloc (.cells #[.bool (ng q), .slice a1 (ln (tp q)) k1, .slice a2 (ln q.den) k2] 49)) := (Below.refl _ _).alloc (Nat.le_refl _) _
  have c0 := (hn.keep hb0).c0
  have HZ := Lib.hid (fzero_q (hq.below hb0))
  rw [decide_eq_true h0] at HZ
  have HB := Lib.hid hb0
  clear hq hb0 hn h0
  go_enter Tryz.func72, Tryz.ntmps72
  go_wp2_with fail
  refine HZ.out.mono ?_
  rintro e w1 ⟨rfl, hb1⟩
  replace HB := Lib.hid (HB.out.trans (hb1.mono HB.out.size))
  clear hb1 HZ
  go_wp2_with fail
  go_ret2
  exact ⟨rfl, HB.out⟩

theorem wrap_neg {k : Nat} (h1 : 0 < k) (h2 : k ≤ 9223372036854775808) : ∃ t : Int, IntKind.u64.wrap (-(k : Int)) = t ∧ IntKind.u64.wrap (-t) = (k : Int) := by
  refine ⟨18446744073709551616 - (k : Int), ?_, ?_⟩
  · simp [IntKind.wrap, IntKind.signed, IntKind.bits]; omega
  · simp [IntKind.wrap, IntKind.signed, IntKind.bits]; omega

set_option maxHeartbeats 6400000 in
set_option maxRecDepth 100000 in
theorem pow_clo_neg {w : World} {v : Value} {q : Rat} {k bn : Nat} (hq : FQ w v q) (lq : QOk q) (hk0 : 0 < k) (hk : k ≤ 9223372036854775808) (hn : Iv w bn (-(k : Int))) (htab : Tab w) (h0 : q ≠ 0) (r : Rat) (hr : r = q⁻¹) :
    Calls Tryz.prog 72 #[v, .pointer (some ⟨bn, 0, none⟩)] w (RQ (r ^ k) w) := by
  have lr : QOk r := by
    obtain ⟨h1, h2, _⟩ := inv_parts h0
    rw [hr]; exact ⟨by rw [h1]; exact lq.2, by rw [h2]; exact lq.1⟩
  obtain ⟨a1, k1, a2, k2, rfl⟩ := hq.form
  have hb0 : Below w.heap.size w (w.alloc (.cells #[.bool (ng q), .slice a1 (ln (tp q)) k1, .slice a2 (ln q.den) k2] 49)) := (Below.refl _ _).alloc (Nat.le_refl _) _
  have HF := Lib.hid (FR.new w (ng q) (.slice a1 (ln (tp q)) k1) (.slice a2 (ln q.den) k2))
  have c0 := (hn.keep hb0).c0
  have HZ := Lib.hid (fzero_q (hq.below hb0))
  rw [decide_eq_false h0] at HZ
  have HI := Lib.hid (show ∀ W v, FQ W v q → Calls Tryz.prog 70 #[v] W fun e w' => ∃ z, e = .returned z ∧ FQ w' z r ∧ Below W.heap.size W w' from fun W v h => hr ▸ inverse_q h h0)
  have HQ := Lib.hid (hq.below hb0)
  have HT := Lib.hid (htab.below hb0)
  have HB := Lib.hid hb0
  have HO := Lib.hid lr
  obtain ⟨t, ht1, ht2⟩ := wrap_neg hk0 hk
  have hneg : -(k : Int) < 0 := by omega
  have HK := Lib.hid (show k < 18446744073709551616 by omega)
  have HT0 := Lib.hid htab
  clear hq htab hb0 lq lr hn h0 hr hk0 hk
  go_enter Tryz.func72, Tryz.ntmps72
  go_wp2_with fail
  generalize w.alloc (.cells #[.bool (ng q), .slice a1 (ln (tp q)) k1, .slice a2 (ln q.den) k2] 49) = w0 at HQ HT HB HF HZ c0 ⊢
  refine HZ.out.mono ?_
  rintro e w1 ⟨rfl, hb1⟩
  replace HQ := Lib.hid (HQ.out.below hb1)
  replace HT := Lib.hid (HT.out.below hb1)
  replace HF := Lib.hid (HF.out.keep hb1)
  replace HB := Lib.hid (HB.out.trans (hb1.mono HB.out.size))
  have f0 := HF.out.c0
  have f1 := HF.out.c1
  have f2 := HF.out.c2
  clear hb1 HZ c0
  go_wp2_with fail
  refine (HI.out _ _ HQ.out).mono ?_
  rintro e w2 ⟨z, rfl, hz, hb2⟩
  obtain ⟨a5, k5, a6, k6, rfl⟩ := hz.form
  replace HT := Lib.hid (HT.out.below hb2)
  replace HF := Lib.hid (HF.out.keep hb2)
  replace HB := Lib.hid (HB.out.trans (hb2.mono HB.out.size))
  clear f0 f1 f2 HQ HI hb2
  have i0 := HF.out.c0
  have i1 := HF.out.c1
  have i2 := HF.out.c2
  have j0 := HF.out.z0
  have j1 := HF.out.z1
  have j2 := HF.out.z2
  obtain ⟨x1, y1, hxy, hx1, hy1⟩ := hz
  obtain ⟨rfl, rfl⟩ : x1 = .slice a5 (ln (tp r)) k5 ∧ y1 = .slice a6 (ln r.den) k6 := by simpa using hxy.symm
  have HX := Lib.hid (hx1.st3 i0 (ng r) (.slice a5 (ln (tp r)) k5) (.slice a6 (ln r.den) k6))
  have HY := Lib.hid (hy1.st3 i0 (ng r) (.slice a5 (ln (tp r)) k5) (.slice a6 (ln r.den) k6))
  replace HF := Lib.hid (HF.out.st (ng r) (.slice a5 (ln (tp r)) k5) (.slice a6 (ln r.den) k6))
  replace HB := Lib.hid (below_st3 HB.out (Nat.le_refl w.heap.size) (ng r) (.slice a5 (ln (tp r)) k5) (.slice a6 (ln r.den) k6))
  replace HT := Lib.hid (HT0.out.below HB.out)
  clear hx1 hy1 hxy
  go_wp2_with fail
  change Calls Tryz.prog 73 _ (st3 w2 w.heap.size (ng r) (.slice a5 (ln (tp r)) k5) (.slice a6 (ln r.den) k6)) _
  clear i0 i1 i2 j0 j1 j2
  generalize st3 w2 w.heap.size (ng r) (.slice a5 (ln (tp r)) k5) (.slice a6 (ln r.den) k6) = w3 at HX HY HF HB HT ⊢
  refine (fpower_any (k := k) HX.out HY.out HO.out.1 HO.out.2 HK.out).mono ?_
  rintro e w5 ⟨⟨m', b1, L1, l1, b2, L2, l2, rfl, hh⟩, hb1⟩
  replace HT := Lib.hid (HT.out.below hb1)
  replace HB := Lib.hid (HB.out.trans (hb1.mono HB.out.size))
  by_cases ho : QOk (r ^ k)
  · have hf := pow_num ho hh
    have hfb := pow_fits.2 ho
    rw [hfb]
    have hb3 : Below w5.heap.size w5 (w5.alloc (.cells #[.bool m', .slice b1 L1 l1, .slice b2 L2 l2] 49)) := (Below.refl _ _).alloc (Nat.le_refl _) _
    have HW := Lib.hid (write_q (hf.below hb3) (ho.ql.mono (by omega)) (HT.out.below hb3))
    replace HB := Lib.hid (HB.out.trans (hb3.mono HB.out.size))
    clear hh hf hfb hb3 hb1 ho
    go_wp2_with fail
    refine HW.out.mono ?_
    rintro e w4 ⟨rfl, hb4⟩
    replace HB := Lib.hid (HB.out.trans (hb4.mono HB.out.size))
    clear hb4 HW
    go_wp2_with fail
    go_ret2
    exact ⟨rfl, HB.out⟩
  · have hfb : (fitB (tp r ^ k) && fitB (r.den ^ k)) = false := by
      cases h : (fitB (tp r ^ k) && fitB (r.den ^ k)) with
      | false => rfl
      | true => exact absurd (pow_fits.1 h) ho
    rw [hfb]
    have HW := Lib.hid (wQ_no ho)
    replace HB := Lib.hid (HB.out.alloc HB.out.size (.cells #[.bool m', .slice b1 L1 l1, .slice b2 L2 l2] 49))
    clear hh hfb hb1 ho
    go_wp2_with fail
    go_ret2
    exact ⟨by rw [HW.out]; rfl, HB.out⟩

set_option maxHeartbeats 1600000 in
/-- Pow hands its function on. -/
theorem Pow_any (s : ByteArray) (n : Int) (w : World) (hs : s.size ≤ 1000000) (hm : ML w) (h0 : rchk s = 0) (r1 r2 : Value)
    (hp : ∀ W v, Below w.heap.size w W → Iv W w.heap.size n → FNum W v (minusB (numS s)) (dv (restS (numS s)).data.toList) (dv (denS s).data.toList) → Calls Tryz.prog 72 #[v, .pointer (some ⟨w.heap.size, 0, none⟩)] W fun e w' => e = .returned (.tuple #[r1, r2]) ∧ Below W.heap.size W w') :
    Calls Tryz.prog 17 #[.string s, .int .i64 n] w fun e w' => e = .returned (.tuple #[r1, r2]) ∧ Below w.heap.size w w' := by
  have hmf : ∀ (fn : Fn) (first cap : Array Value) (w : World), (Instr.makeFunc fn first cap).run Tryz.prog w = .ok (.func fn first cap) w := fun _ _ _ _ => rfl
  have e1 : ∀ args w, (callFunc 72 args).run Tryz.prog w = .ok (.enter 72 args) w := enters_of Tryz.func72 (by kernel_rfl) rfl
  have hb0 : Below w.heap.size w (w.alloc (.cells #[.int .i64 n] 3)) := (Below.refl _ _).alloc (Nat.le_refl _) _
  have hi0 : Iv (w.alloc (.cells #[.int .i64 n] 3)) w.heap.size n := heap_alloc_new w _
  have HB := Lib.hid hb0
  have HC := Lib.hid (withOne_ok 72 #[.pointer (some ⟨w.heap.size, 0, none⟩)] e1 s _ hs (ml_keep hm (ml_pos hm) hb0) h0 r1 r2 (fun W v hb hv => hp W v (hb0.trans (hb.mono hb0.size)) (hi0.keep hb) hv))
  clear hp hm hb0 hi0
  go_enter Tryz.func17, Tryz.ntmps17
  go_wp2_with fail
  refine HC.out.mono ?_
  rintro e w2 ⟨rfl, hb⟩
  have HB2 := Lib.hid (HB.out.trans (hb.mono HB.out.size))
  clear hb HC
  go_wp2_with fail
  go_ret2
  exact ⟨rfl, HB2.out⟩

/-- Pow of a number. -/
theorem Pow_pos (q : Rat) (hq : QOk q) (k : Nat) (hk : k < 9223372036854775808) (w : World) (htab : Tab w) (hm : ML w) :
    Calls Tryz.prog 17 #[.string (qstr q), .int .i64 (k : Int)] w (RQ (q ^ k) w) :=
  Pow_any (qstr q) k w (qsmall hq) hm (qstr_chk hq) _ _ (fun _ _ hb hi hv => pow_clo_pos (fq_of hv) hq hk hi (htab.below hb))
theorem Pow_neg (q : Rat) (hq : QOk q) (k : Nat) (hk0 : 0 < k) (hk : k ≤ 9223372036854775808) (w : World) (htab : Tab w) (hm : ML w) (h0 : q ≠ 0) (r : Rat) (hr : r = q⁻¹) :
    Calls Tryz.prog 17 #[.string (qstr q), .int .i64 (-(k : Int))] w (RQ (r ^ k) w) :=
  Pow_any (qstr q) _ w (qsmall hq) hm (qstr_chk hq) _ _ (fun _ _ hb hi hv => pow_clo_neg (fq_of hv) hq hk0 hk hi (htab.below hb) h0 r hr)
theorem Pow_zero (n : Int) (hn : n < 0) (w : World) (hm : ML w) :
    Calls Tryz.prog 17 #[.string (qstr 0), .int .i64 n] w fun e w' => e = .returned (.tuple #[.string ⟨#[]⟩, .int .i64 6]) ∧ Below w.heap.size w w' :=
  Pow_any (qstr 0) n w (qsmall zero_ok') hm (qstr_chk zero_ok') _ _ (fun _ _ _ hi hv => pow_clo_zero (fq_of hv) rfl hn hi)

end Go.Proofs.YtadkijaofmcgfaaGreatDoor
