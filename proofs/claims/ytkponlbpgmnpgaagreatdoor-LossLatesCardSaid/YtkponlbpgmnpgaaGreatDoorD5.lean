/-
  LossLates is walked.
-/
import Derived.Test.YtkponlbpgmnpgaaGreatDoorD4
import Derived.WalkSmall
namespace Go.Proofs.YtkponlbpgmnpgaaGreatDoor
open Go.RowKit NV Go.Maps Go.Sort Go.Shelf
open Go.Lib (decDigits)
set_option exponentiation.threshold 4000 in
theorem lates_num {P Q X Y : List MI} {r s : Nat → Nat} {NX NY : Nat} {f d : Rat} (hp : DiL P) (hq : DiL Q) (sp : ∀ i, i < P.length → Sz 24 (qZ P i)) (sq : ∀ i, i < Q.length → Sz 24 (qZ Q i)) (lp : P.length ≤ 12) (lq : Q.length ≤ 12) (hr : ∀ i, r i < 4) (hs : ∀ i, s i < 4) (hX : LateX P r X NX) (hY : LateX Q s Y NY) (hf : Sz 12 f) (f1 : 1 ≤ f) (hd : mxQ (dl P Q f) (dl Q P f) = d) :
  ∃ x y, dltE X Y (qstr f) = (qstr x, 0) ∧ dltE Y X (qstr f) = (qstr y, 0) ∧ QOk x ∧ QOk y ∧ mxQ x y ≤ mn1 (d + (f + 1) * mxQ (lateU P r P.length) (lateU Q s Q.length)) := by
 have f0 : (0 : Rat) ≤ f := by grind
 have hf24 : Sz 24 f := hf.mono (by omega)
 have dX := DiL.of hX.chk
 have dY := DiL.of hY.chk
 have px := Nat.lt_trans (latD_lt (show P.length ≤ 16 by omega) sp) (Nat.pow_lt_pow_right (show 1 < 10 by omega) (show 400 < 792 by omega))
 have py := Nat.lt_trans (latD_lt (show Q.length ≤ 16 by omega) sq) (Nat.pow_lt_pow_right (show 1 < 10 by omega) (show 400 < 792 by omega))
 have hx0 : 0 < pd P P.length * 8 := Nat.mul_pos (pd_pos _) (by omega)
 have hy0 : 0 < pd Q Q.length * 8 := Nat.mul_pos (pd_pos _) (by omega)
 obtain ⟨e1, z1⟩ := dlt_mix hX.chk hY.chk hX.zd hY.zd hx0 hy0 px py hf24 f0
 obtain ⟨e2, z2⟩ := dlt_mix hY.chk hX.chk hY.zd hX.zd hy0 hx0 py px hf24 f0
 have u1 := lateU_sz hp sp hr (Nat.le_refl _) lp
 have u2 := lateU_sz hq sq hs (Nat.le_refl _) lq
 have g1 := dl_late (f := f) (u := mxQ (lateU P r P.length) (lateU Q s Q.length)) hp hq dX f0 hX.val hY.val (lateA_nn hp sp hr) (lateA_nn hq sq hs) (lateA_ks dX.srt hq sq hs) u1.2.1 u2.2.1 mxQ_ge1 mxQ_ge2
 have g2 := dl_late (f := f) (u := mxQ (lateU P r P.length) (lateU Q s Q.length)) hq hp dY f0 hY.val hX.val (lateA_nn hq sq hs) (lateA_nn hp sp hr) (lateA_ks dY.srt hp sp hr) u2.2.1 u1.2.1 mxQ_ge2 mxQ_ge1
 have h1 : dl P Q f ≤ d := by rw [← hd]; exact mxQ_ge1
 have h2 : dl Q P f ≤ d := by rw [← hd]; exact mxQ_ge2
 refine ⟨_, _, e1, e2, z1.qok (by omega) (by omega), z2.qok (by omega) (by omega), mxQ_le (mn1_ge ?_ (dl_le1 dX dY f0)) (mn1_ge ?_ (dl_le1 dY dX f0))⟩
 ·generalize (f + 1) * mxQ (lateU P r P.length) (lateU Q s Q.length) = z at *
  grind
 ·generalize (f + 1) * mxQ (lateU P r P.length) (lateU Q s Q.length) = z at *
  grind
set_option maxHeartbeats 12800000 in
set_option maxRecDepth 100000 in
theorem lates_any {A0 : Option Addr} {n0 c0 : Nat} {L0 : List MI} {A1 : Option Addr} {n1 c1 : Nat} {L1 : List MI} {s : ByteArray} {m n : Int} {w : World} (h0 : MR w A0 n0 L0 ∧ n0 ≤ 9223372036854775807 ∧ MX L0) (h1 : MR w A1 n1 L1 ∧ n1 ≤ 9223372036854775807 ∧ MX L1) (hs : s.size ≤ 140737488351232) (hm0 : -9223372036854775808 ≤ m) (hm1 : m ≤ 9223372036854775807) (hn0 : -9223372036854775808 ≤ n) (hn1 : n ≤ 9223372036854775807) (htab : Tab w) (hm : ML w) :
  Calls Tryz.prog 7 #[.slice A0 n0 c0, .slice A1 n1 c1, .string s, .int .i64 m, .int .i64 n] w fun e w' => e = .returned (.bool true) ∧ Below w.heap.size w w' := by
 have HL := Lib.hid (lives9_any w htab hm)
 have HTM := Lib.hid (fun W (hb : Below w.heap.size w W) => And.intro (htab.below hb) (ml_keep hm (ml_pos hm) hb))
 have HMD := Lib.hid (fun W (hb : Below w.heap.size w W) => made92_any (c0 := c0) (c1 := c1) (w := W) ⟨h0.1.below hb, h0.2⟩ ⟨h1.1.below hb, h1.2⟩)
 have HFC := Lib.hid (fun W => fac9_any s hs W)
 have HNN := Lib.hid (And.intro hm0 (And.intro hm1 (And.intro hn0 hn1)))
 clear h0 h1 hs htab hm hm0 hm1 hn0 hn1
 cases hf : facB s with
 | false =>
  rw [hf] at HFC
  clear hf HTM HNN
  go_enter Tryz.func7, Tryz.ntmps7
  go_wp2_with fail
  refine HL.out.mono ?_
  rintro e w1 ⟨rfl, hb⟩
  have HB := Lib.hid hb
  clear hb HL
  go_wp2_with fail
  refine (HMD.out _ HB.out).mono ?_
  rintro e w2 ⟨v, r, rfl, hr, hb⟩
  have HB2 := Lib.hid (HB.out.trans (hb.mono HB.out.size))
  clear hb HMD HB
  cases r with
  | false =>
   clear hr HFC
   go_wp2_with fail
   go_ret
   exact ⟨rfl, HB2.out⟩
  | true =>
   clear hr
   go_wp2_with fail
   refine (HFC.out _).mono ?_
   rintro e w3 ⟨rfl, hb⟩
   have HE := Lib.hid (HB2.out.trans (hb.mono HB2.out.size))
   clear hb HFC HB2
   go_wp2_with fail
   go_ret
   exact ⟨rfl, HE.out⟩
 | true =>
  rw [hf] at HFC
  obtain ⟨f, hsf, hfo, hf1, hsz⟩ := facB_yes hf
  have HFF := Lib.hid (And.intro hsf (And.intro hsz (And.intro hf1 hfo)))
  clear hf hsf hfo hf1 hsz
  go_enter Tryz.func7, Tryz.ntmps7
  go_wp2_with fail
  refine HL.out.mono ?_
  rintro e w1 ⟨rfl, hb⟩
  have HB := Lib.hid hb
  clear hb HL
  go_wp2_with fail
  refine (HMD.out _ HB.out).mono ?_
  rintro e w2 ⟨v, r, rfl, hr, hb⟩
  have HB2 := Lib.hid (HB.out.trans (hb.mono HB.out.size))
  clear hb HMD HB
  cases r with
  | false =>
   clear hr HFC
   go_wp2_with fail
   go_ret
   exact ⟨rfl, HB2.out⟩
  | true =>
   obtain ⟨g, cl, u0, u1, D0, D1, rfl, hg, hc0, hc1, d0, d1⟩ := hr rfl
   obtain ⟨hk0, hl0⟩ := chk_df d0
   obtain ⟨a0, q0, rfl, m0, _⟩ := d0
   obtain ⟨P, hP⟩ : ∃ P, P = tZ D0 := ⟨_, rfl⟩
   have hlen0 : P.length = D0.length := by rw [hP, tZ_len]
   rw [← hP] at m0 hl0 hk0
   obtain ⟨N0, hN0⟩ : ∃ N0, D0.length = N0 := ⟨_, rfl⟩
   rw [hN0] at m0 hlen0 hc0
   have hs0 := (fewB_yes hl0).1
   rw [hlen0] at hs0
   have p0 := DiL.of hk0
   have li0 := few_lit hl0
   have z0 : ∀ i, i < P.length → Sz 24 (qZ P i) := fun i hi => lit_sz li0 p0.ok i hi
   obtain ⟨hk1, hl1⟩ := chk_df d1
   obtain ⟨a1, q1, rfl, m1, _⟩ := d1
   obtain ⟨Q, hQ⟩ : ∃ Q, Q = tZ D1 := ⟨_, rfl⟩
   have hlen1 : Q.length = D1.length := by rw [hQ, tZ_len]
   rw [← hQ] at m1 hl1 hk1
   obtain ⟨N1, hN1⟩ : ∃ N1, D1.length = N1 := ⟨_, rfl⟩
   rw [hN1] at m1 hlen1 hc1
   have hs1 := (fewB_yes hl1).1
   rw [hlen1] at hs1
   have p1 := DiL.of hk1
   have li1 := few_lit hl1
   have z1 : ∀ i, i < Q.length → Sz 24 (qZ Q i) := fun i hi => lit_sz li1 p1.ok i hi
   obtain ⟨hsf, hf12, hf1, ofo⟩ := HFF.out
   have hf0 : (0 : Rat) ≤ f := by grind
   have hf60 : Sz 60 f := hf12.mono (by omega)
   have HTW := Lib.hid (fun W (hb : Below w2.heap.size w2 W) => HTM.out W (HB2.out.trans (hb.mono HB2.out.size)))
   have HLC := Lib.hid (show ∀ W, Below w2.heap.size w2 W → W.cell? ⟨g, 0, none⟩ = some (.slice a0 N0 q0) ∧ W.cell? ⟨g, 1, none⟩ = some (.slice a1 N1 q1) from fun W hb => ⟨(hb.cell (p := ⟨g, 0, none⟩) hg).trans hc0, (hb.cell (p := ⟨g, 1, none⟩) hg).trans hc1⟩)
   obtain ⟨d, hd⟩ : ∃ d, mxQ (dl P Q f) (dl Q P f) = d := ⟨_, rfl⟩
   obtain ⟨e0, sd0⟩ := dlt_run2 li0 li1 p0.ok p1.ok hf60
   obtain ⟨e1, sd1⟩ := dlt_run2 li1 li0 p1.ok p0.ok hf60
   have sd : Sz 1800 d := by rw [← hd]; exact mxQ_sz sd0 sd1
   have hdn : 0 ≤ d := by rw [← hd]; exact Rat.le_trans dl_nn mxQ_ge1
   have hd1 : d ≤ 1 := by rw [← hd]; exact mxQ_le (dl_le1 p0 p1 hf0) (dl_le1 p1 p0 hf0)
   have lq : LQ f d := ⟨ofo, sd.qok (by omega) (by omega), hf1, hdn, hd1⟩
   have HDA := Lib.hid (show ∀ W, Below w2.heap.size w2 W → Calls Tryz.prog 111 #[.slice a0 N0 q0, .slice a1 N1 q1, .string s] W (fun e w' => e = .returned (.tuple #[.string (qstr (dl P Q f)), .int .i64 0]) ∧ Below W.heap.size W w') from fun W hb => by
    have h := rDelta_any (c1 := q0) (c2 := q1) (sf := qstr f) (m0.below hb) (m1.below hb) (by omega) (by omega) (litB_ml li0) (litB_ml li1) (Nat.le_trans (qstr_size ofo) (by omega))
    rw [dlt_is2 li0 li1 hk0 hk1 hf60 hf0, ← hsf] at h
    exact h)
   have HDB := Lib.hid (show ∀ W, Below w2.heap.size w2 W → Calls Tryz.prog 111 #[.slice a1 N1 q1, .slice a0 N0 q0, .string s] W (fun e w' => e = .returned (.tuple #[.string (qstr (dl Q P f)), .int .i64 0]) ∧ Below W.heap.size W w') from fun W hb => by
    have h := rDelta_any (c1 := q1) (c2 := q0) (sf := qstr f) (m1.below hb) (m0.below hb) (by omega) (by omega) (litB_ml li1) (litB_ml li0) (Nat.le_trans (qstr_size ofo) (by omega))
    rw [dlt_is2 li1 li0 hk1 hk0 hf60 hf0, ← hsf] at h
    exact h)
   have HLE := Lib.hid (show ∀ W, Below w2.heap.size w2 W → Calls Tryz.prog 43 #[.slice a0 N0 q0, .slice a1 N1 q1, .string s] W (fun e w' => e = .returned (.agg #[.string s, .string (qstr d)]) ∧ Below W.heap.size W w') from fun W hb => least9 (fun W3 hb3 => HDA.out W3 (hb.trans (hb3.mono hb.size))) (fun W3 hb3 => HDB.out W3 (hb.trans (hb3.mono hb.size))) (fun W3 => by
    rw [← hd]
    exact rMax_oQ _ _ (sd0.qok (by omega) (by omega)) (sd1.qok (by omega) (by omega)) W3))
   have HT0 := Lib.hid (fun W (hb : Below w2.heap.size w2 W) => late9_any (cap := q0) (n := m) (m0.below hb) hs0 p0 (litB_ml li0) z0 HNN.out.1 HNN.out.2.1)
   have HT1 := Lib.hid (fun W (hb : Below w2.heap.size w2 W) => late9_any (cap := q1) (n := n) (m1.below hb) hs1 p1 (litB_ml li1) z1 HNN.out.2.2.1 HNN.out.2.2.2)
   have HMX := Lib.hid (show ∀ W (r r' : Nat → Nat), (∀ i, r i < 4) → (∀ i, r' i < 4) → Calls Tryz.prog 47 #[.string (qstr (lateU P r P.length)), .string (qstr (lateU Q r' Q.length))] W (fun e w' => e = .returned (.tuple #[.string (qstr (mxQ (lateU P r P.length) (lateU Q r' Q.length))), .int .i64 0]) ∧ Below W.heap.size W w') from fun W r r' h1 h2 => rMax_oQ _ _ ((lateU_sz p0 z0 h1 (Nat.le_refl _) (by omega)).1.qok (by omega) (by omega)) ((lateU_sz p1 z1 h2 (Nat.le_refl _) (by omega)).1.qok (by omega) (by omega)) W)
   have HLA := Lib.hid (show ∀ W (r r' : Nat → Nat), (∀ i, r i < 4) → (∀ i, r' i < 4) → Below w2.heap.size w2 W → Calls Tryz.prog 25 #[.agg #[.string s, .string (qstr d)], .string (qstr (mxQ (lateU P r P.length) (lateU Q r' Q.length)))] W (Rl s (qstr (mn1 (d + (f + 1) * mxQ (lateU P r P.length) (lateU Q r' Q.length)))) W) from fun W r r' h1 h2 hb => by
    obtain ⟨su, u0, u1⟩ := lateU_sz p0 z0 h1 (Nat.le_refl _) (by omega)
    obtain ⟨sv, v0, v1⟩ := lateU_sz p1 z1 h2 (Nat.le_refl _) (by omega)
    have sm := mxQ_sz su sv
    have s1 : Sz 14 (f + 1) := Sz.add hf12 (show Sz 1 (1 : Rat) from ⟨by decide, by decide⟩)
    have s2 := Sz.mul s1 sm
    have s3 := Sz.add sd s2
    rw [hsf]
    exact lLate_q lq (sm.qok (by omega) (by omega)) (Rat.le_trans u0 mxQ_ge1) (mxQ_le u1 v1) (s1.qok (by omega) (by omega)) (s2.qok (by omega) (by omega)) (s3.qok (by omega) (by omega)) (fun W3 hb3 => HTW.out W3 (hb.trans (hb3.mono hb.size))))
   have HHD := Lib.hid (show ∀ W (r r' : Nat → Nat) (X Y : List MI) (NX NY xc yc : Nat) (xo yo : Option Addr), (∀ i, r i < 4) → (∀ i, r' i < 4) → LateX P r X NX → LateX Q r' Y NY → MR W xo NX X → MR W yo NY Y → Below w2.heap.size w2 W → Calls Tryz.prog 45 #[.agg #[.string s, .string (qstr (mn1 (d + (f + 1) * mxQ (lateU P r P.length) (lateU Q r' Q.length))))], .int .i64 0, .slice xo NX xc, .slice yo NY yc] W (fun e w' => e = .returned (.bool true) ∧ Below W.heap.size W w') from fun W r r' X Y NX NY xc yc xo yo h1 h2 hX hY mx my hb => by
    obtain ⟨x, y, ex, ey, ox, oy, hle⟩ := lates_num p0 p1 z0 z1 (by omega) (by omega) h1 h2 hX hY hf12 hf1 hd
    obtain ⟨su, u0, u1⟩ := lateU_sz p0 z0 h1 (Nat.le_refl _) (by omega)
    obtain ⟨sv, v0, v1⟩ := lateU_sz p1 z1 h2 (Nat.le_refl _) (by omega)
    have sm := mxQ_sz su sv
    have s1 : Sz 14 (f + 1) := Sz.add hf12 (show Sz 1 (1 : Rat) from ⟨by decide, by decide⟩)
    have s3 := Sz.add sd (Sz.mul s1 sm)
    have n2 := Rat.mul_nonneg (show 0 ≤ f + 1 by grind) (Rat.le_trans u0 (mxQ_ge1 (b := lateU Q r' Q.length)))
    have lq2 : LQ f (mn1 (d + (f + 1) * mxQ (lateU P r P.length) (lateU Q r' Q.length))) := ⟨ofo, mn1_ok (s3.qok (by omega) (by omega)), hf1, mn1_nn (Rat.add_nonneg hdn n2), mn1_le⟩
    have hx := hX.le
    have hy := hY.le
    refine holds9 fun W3 hb3 => ?_
    have h := lHolds_q (c1 := xc) (c2 := yc) lq2 ex ey ox oy (by omega) (by omega) hX.ml hY.ml (mx.below hb3) (my.below hb3) (fun W4 hb4 => HTW.out W4 (hb.trans ((hb3.trans (hb4.mono hb3.size)).mono hb.size)))
    rw [decide_eq_true hle, ← hsf] at h
    exact h)
   clear hr hc0 hc1 m0 m1 hk0 hk1 hl0 hl1 li0 li1 hlen0 hlen1 hP hQ hN0 hN1 p0 p1 hs0 hs1 z0 z1 HFF hsf hf12 hf1 ofo hf0 hf60 hd e0 sd0 e1 sd1 sd hdn hd1 lq HDA HDB HTM HTW HNN
   obtain ⟨sd, hsd⟩ : ∃ sd, sd = qstr d := ⟨_, rfl⟩
   rw [← hsd] at HLE HLA
   clear hsd
   go_wp2_with fail
   refine (HFC.out _).mono ?_
   rintro e w3 ⟨rfl, hb⟩
   have HB3 := Lib.hid hb
   clear hb HFC
   go_wp2_with fail
   refine wp_world (Below.refl w3.heap.size w3) (fun wx hbx => ?_)
   have HB4 := Lib.hid (HB3.out.trans (hbx.mono HB3.out.size))
   clear hbx HB3
   refine wp_region_held (S := fun W => Below wx.heap.size wx W) (by kernel_rfl) ?_
   change wpAnyH _ _ _ _ _ 10 _ _ wx.drew
   have hD0 := (Below.refl wx.heap.size wx).drew
   generalize wx.drew = W at *
   refine wpHz_take (i := 0) (d := 36) (v := .slice (some ⟨g, 0, none⟩) 2 cl) rfl rfl (by kernel_rfl) (by kernel_rfl) (by kernel_rfl) (fun _ _ _ h => h) rfl (fun W _ => by go_simp) hD0 ?_
   simp only [Act.put, sA, sB, sC]
   refine wpHz_take (i := 1) (d := 37) (v := .pointer (some ⟨g, 0, none⟩)) rfl rfl (by kernel_rfl) (by kernel_rfl) (by kernel_rfl) (fun _ _ _ h => h) rfl (fun W _ => by go_simp) hD0 ?_
   simp only [Act.put, sA, sB, sC]
   refine wpHz_take (i := 2) (d := 38) (v := .slice a0 N0 q0) rfl rfl (by kernel_rfl) (by kernel_rfl) (by kernel_rfl) (fun _ _ _ h => h) rfl (fun W hW => by have e0 := (HLC.out W (HB4.out.trans (hW.mono HB4.out.size))).1; go_simp) hD0 ?_
   simp only [Act.put, sA, sB, sC]
   refine wpHz_take (i := 3) (d := 39) (v := .slice (some ⟨g, 0, none⟩) 2 cl) rfl rfl (by kernel_rfl) (by kernel_rfl) (by kernel_rfl) (fun _ _ _ h => h) rfl (fun W _ => by go_simp) hD0 ?_
   simp only [Act.put, sA, sB, sC]
   refine wpHz_take (i := 4) (d := 40) (v := .pointer (some ⟨g, 1, none⟩)) rfl rfl (by kernel_rfl) (by kernel_rfl) (by kernel_rfl) (fun _ _ _ h => h) rfl (fun W _ => by go_simp) hD0 ?_
   simp only [Act.put, sA, sB, sC]
   refine wpHz_take (i := 5) (d := 41) (v := .slice a1 N1 q1) rfl rfl (by kernel_rfl) (by kernel_rfl) (by kernel_rfl) (fun _ _ _ h => h) rfl (fun W hW => by have e0 := (HLC.out W (HB4.out.trans (hW.mono HB4.out.size))).2; go_simp) hD0 ?_
   simp only [Act.put, sA, sB, sC]
   refine wpHz_take (i := 6) (d := 42) (v := .string s) rfl rfl (by kernel_rfl) (by kernel_rfl) (by kernel_rfl) (fun _ _ _ h => h) rfl (fun W _ => by go_simp) hD0 ?_
   simp only [Act.put, sA, sB, sC]
   refine wpHz_two (i := 7) (j := 8) (by kernel_rfl) ?wa ?wb
   case' wa =>
    refine wpOz_run rfl rfl (wpz_enter (d := 43) rfl (by go_simp) ((HLE.out _ (HB4.out.trans (hD0.mono HB4.out.size))).mono ?_))
    rintro e u1 ⟨rfl, hb⟩
    have hD1 : Below wx.heap.size wx u1 := hD0.trans (hb.mono hD0.size)
    clear hb
    refine ⟨_, rfl, hD1, ?_⟩
    simp only [Act.put, sA, sB, sC]
    refine wpHz_one (i := 8) (by kernel_rfl) ?_
    have hD2 := hD1.alloc hD1.size (.cells #[.string ⟨#[]⟩, .string ⟨#[]⟩] 24)
    have hgz : wx.heap.size ≤ u1.heap.size := hD1.size
    have hz0 : RB w2 (u1.alloc (.cells #[.string ⟨#[]⟩, .string ⟨#[]⟩] 24)) u1.heap.size ⟨#[]⟩ ⟨#[]⟩ := RB.new ((HB4.out.trans (hD1.mono HB4.out.size))).size
    refine wpOz_run rfl rfl (wpz_value (v := .pointer (some ⟨u1.heap.size, 0, none⟩)) (w' := u1.alloc (.cells #[.string ⟨#[]⟩, .string ⟨#[]⟩] 24)) (d := 13) rfl (by go_simp) ⟨hD2, ?_⟩)
    simp only [Act.put, sA, sB, sC]
    generalize u1.heap.size = gz at hz0 hgz ⊢
    generalize u1.alloc (.cells #[.string ⟨#[]⟩, .string ⟨#[]⟩] 24) = u2 at hz0 hD2 ⊢
   case' wb =>
    have hD1 := hD0.alloc hD0.size (.cells #[.string ⟨#[]⟩, .string ⟨#[]⟩] 24)
    have hgz : wx.heap.size ≤ W.heap.size := hD0.size
    have hz0 : RB w2 (W.alloc (.cells #[.string ⟨#[]⟩, .string ⟨#[]⟩] 24)) W.heap.size ⟨#[]⟩ ⟨#[]⟩ := RB.new ((HB4.out.trans (hD0.mono HB4.out.size))).size
    refine wpOz_run rfl rfl (wpz_value (v := .pointer (some ⟨W.heap.size, 0, none⟩)) (w' := W.alloc (.cells #[.string ⟨#[]⟩, .string ⟨#[]⟩] 24)) (d := 13) rfl (by go_simp) ⟨hD1, ?_⟩)
    simp only [Act.put, sA, sB, sC]
    generalize W.heap.size = gz at hz0 hgz ⊢
    generalize W.alloc (.cells #[.string ⟨#[]⟩, .string ⟨#[]⟩] 24) = u1 at hz0 hD1 ⊢
    refine wpHz_one (i := 7) (by kernel_rfl) ?_
    refine wpOz_run rfl rfl (wpz_enter (d := 43) rfl (by go_simp) ((HLE.out _ (HB4.out.trans (hD1.mono HB4.out.size))).mono ?_))
    rintro e u2 ⟨rfl, hb⟩
    have hD2 : Below wx.heap.size wx u2 := hD1.trans (hb.mono hD1.size)
    have hz0 := hz0.below hb
    clear hb
    refine ⟨_, rfl, hD2, ?_⟩
    simp only [Act.put, sA, sB, sC]
   all_goals (
    refine wpHz_one (i := 9) (by kernel_rfl) ?_
    have hset := hz0.set s sd
    have hD4 := (hD2.setCell (p := ⟨gz, 0, none⟩) hgz (.string s)).setCell (p := ⟨gz, 1, none⟩) hgz (.string sd)
    obtain ⟨_, _, zz0, zz1, zz2, zz3⟩ := hz0
    refine wpOz_run rfl rfl (wpz_skip (w' := ((u2.setCell ⟨gz, 0, none⟩ (.string s)).setCell ⟨gz, 1, none⟩ (.string sd))) rfl (by go_simp) ⟨hD4, ?_⟩)
    clear zz0 zz1 zz2 zz3 hgz hD2 hD1 hD0
    generalize ((u2.setCell ⟨gz, 0, none⟩ (.string s)).setCell ⟨gz, 1, none⟩ (.string sd)) = u4 at hset hD4 ⊢
    refine wpAnyH_done (by kernel_rfl) ?_ _
    have HB5 := Lib.hid (HB4.out.trans (hD4.mono HB4.out.size))
    have HX := Lib.hid hset
    clear hset hD4 HB4 HLE
    have c0 := (HLC.out _ HB5.out).1
    go_wp2_with fail
    refine (HT0.out _ HB5.out).mono ?_
    rintro e w6 ⟨r, X, NX, xc, xo, hr, rfl, mx, hX, hb⟩
    have HB6 := Lib.hid (HB5.out.trans (hb.mono HB5.out.size))
    have HX6 := Lib.hid (HX.out.below hb)
    have HR := Lib.hid hr
    have HLX := Lib.hid hX
    have HMX0 := Lib.hid mx
    clear hb HT0 HX HB5 hr hX mx c0
    have c1 := (HLC.out _ HB6.out).2
    go_wp2_with fail
    refine (HT1.out _ HB6.out).mono ?_
    rintro e w7 ⟨r', Y, NY, yc, yo, hr, rfl, my, hY, hb⟩
    have HB7 := Lib.hid (HB6.out.trans (hb.mono HB6.out.size))
    have HX7 := Lib.hid (HX6.out.below hb)
    have HR2 := Lib.hid hr
    have HLY := Lib.hid hY
    have HMY := Lib.hid my
    have HMX1 := Lib.hid (HMX0.out.below hb)
    clear hb HT1 HX6 HB6 hr hY my c1 HMX0 HLC
    have HM := Lib.hid (HMX.out w7 r r' HR.out HR2.out)
    have HL2 := Lib.hid (fun W (hb : Below w2.heap.size w2 W) => HLA.out W r r' HR.out HR2.out hb)
    have HH2 := Lib.hid (fun W (hb : Below w2.heap.size w2 W) (mx : MR W xo NX X) (my : MR W yo NY Y) => HHD.out W r r' X Y NX NY xc yc xo yo HR.out HR2.out HLX.out HLY.out mx my hb)
    clear HMX HLA HHD HR HR2 HLX HLY
    generalize qstr (mn1 (d + (f + 1) * mxQ (lateU P r P.length) (lateU Q r' Q.length))) = sy at *
    generalize qstr (mxQ (lateU P r P.length) (lateU Q r' Q.length)) = su at *
    generalize qstr (lateU P r P.length) = s1 at *
    generalize qstr (lateU Q r' Q.length) = s2 at *
    go_wp2_with fail
    refine HM.out.mono ?_
    rintro e w8 ⟨rfl, hb⟩
    have HB8 := Lib.hid (HB7.out.trans (hb.mono HB7.out.size))
    have hx8 := HX7.out.below hb
    have HMX2 := Lib.hid (And.intro (HMX1.out.below hb) (HMY.out.below hb))
    clear hb HM HX7 HB7 HMX1 HMY
    have c0 := hx8.c0
    have c1 := hx8.c1
    clear hx8
    go_wp2_with fail
    refine (HL2.out _ HB8.out).mono ?_
    rintro e w9 ⟨rfl, hb⟩
    have HB9 := Lib.hid ((HB8.out.trans (hb.mono HB8.out.size)).alloc (HB8.out.trans (hb.mono HB8.out.size)).size (.cells #[.string s, .string sy] 24))
    have HMX3 := Lib.hid (And.intro ((HMX2.out.1.below hb).below ((Below.refl w9.heap.size w9).alloc (Nat.le_refl _) (.cells #[.string s, .string sy] 24))) ((HMX2.out.2.below hb).below ((Below.refl w9.heap.size w9).alloc (Nat.le_refl _) (.cells #[.string s, .string sy] 24))))
    clear hb HL2 HB8 HMX2 c0 c1
    go_wp2_with fail
    refine (HH2.out _ HB9.out HMX3.out.1 HMX3.out.2).mono ?_
    rintro e w10 ⟨rfl, hb⟩
    have HE := Lib.hid (HB2.out.trans ((HB9.out.trans (hb.mono HB9.out.size)).mono HB2.out.size))
    clear hb HH2 HB9 HMX3
    go_wp2_with fail
    go_ret
    exact ⟨rfl, HE.out⟩)
end Go.Proofs.YtkponlbpgmnpgaaGreatDoor
