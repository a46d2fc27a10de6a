/-
  LossAdds is walked.
-/
import Derived.Test.YtkponlbpgmnpgaaGreatDoorDB
import Derived.Test.YtkponlbpgmnpgaaGreatDoorD7
import Derived.WalkSmall
namespace Go.Proofs.YtkponlbpgmnpgaaGreatDoor
open Go.RowKit NV Go.Maps Go.Sort Go.Shelf
open Go.Lib (decDigits)
section
variable {P : Program} {ops : Array Oper} {Q : Exit → Act → World → Prop} {md : Region.Mode} {S : World → Prop}
theorem wpHz_three {i j k fuel : Nat} {l : Array Bool} {a : Act} {w : World} (hr : Region.ready md ops l = [i, j, k]) (h : wpOp P ops Q i (fun a' w' => S w' ∧ wpAnyH P md ops Q S fuel (l.setIfInBounds i true) a' w') a w) (h2 : wpOp P ops Q j (fun a' w' => S w' ∧ wpAnyH P md ops Q S fuel (l.setIfInBounds j true) a' w') a w) (h3 : wpOp P ops Q k (fun a' w' => S w' ∧ wpAnyH P md ops Q S fuel (l.setIfInBounds k true) a' w') a w) : wpAnyH P md ops Q S (fuel + 1) l a w :=
 wpAnyH_all hr (by simp) fun x hx => by
  rcases List.mem_cons.1 hx with rfl | hx
  ·exact h
  ·rcases List.mem_cons.1 hx with rfl | hx
   ·exact h2
   ·rw [List.mem_singleton] at hx
    subst hx; exact h3
end
theorem cut3 (H : World → Nat → Nat → Prop) {G : World → Nat → Nat → Prop} {K : Prop} (h2 : (∀ u x y, H u x y → G u x y) → K) (h1 : ∀ u x y, H u x y → G u x y) : K := h2 h1
theorem adds_num {P Q R T X Y : List MI} {NX NY : Nat} {f g d e : Rat} (hp : DiL P) (hq : DiL Q) (hr : DiL R) (ht : DiL T) (lp : litB P = true) (lq : litB Q = true) (lr : litB R = true) (lt : litB T = true) (hX : ProdX P R X NX) (hY : ProdX Q T Y NY) (hf : Sz 12 f) (hg : Sz 12 g) (f1 : 1 ≤ f) (g1 : 1 ≤ g) (hd : mxQ (dl P Q f) (dl Q P f) = d) (he : mxQ (dl R T g) (dl T R g) = e) :
  ∃ x y, dltE X Y (qstr (f * g)) = (qstr x, 0) ∧ dltE Y X (qstr (f * g)) = (qstr y, 0) ∧ QOk x ∧ QOk y ∧ mxQ x y ≤ mn1 (d + e) := by
 have f0 : (0 : Rat) ≤ f := by grind
 have g0 : (0 : Rat) ≤ g := by grind
 have fg0 : 0 ≤ f * g := Rat.mul_nonneg f0 g0
 have hfg : Sz 24 (f * g) := Sz.mul hf hg
 have dX := DiL.of hX.chk
 have dY := DiL.of hY.chk
 have px := prodD_lt (litB_yes lp).1 (litB_yes lr).1 (fun i hi => lit_sz lp hp.ok i hi) (fun i hi => lit_sz lr hr.ok i hi)
 have py := prodD_lt (litB_yes lq).1 (litB_yes lt).1 (fun i hi => lit_sz lq hq.ok i hi) (fun i hi => lit_sz lt ht.ok i hi)
 have hx0 : 0 < pd P P.length * pd R R.length := Nat.mul_pos (pd_pos _) (pd_pos _)
 have hy0 : 0 < pd Q Q.length * pd T T.length := Nat.mul_pos (pd_pos _) (pd_pos _)
 obtain ⟨e1, z1⟩ := dlt_mix hX.chk hY.chk hX.zd hY.zd hx0 hy0 px py hfg fg0
 obtain ⟨e2, z2⟩ := dlt_mix hY.chk hX.chk hY.zd hX.zd hy0 hx0 py px hfg fg0
 have h1 := dl_prod (f := f) (g := g) hp hq hr ht dX f0 g0 hX.val hY.val
 have h2 := dl_prod (f := f) (g := g) hq hp ht hr dY f0 g0 hY.val hX.val
 have a1 : dl P Q f ≤ d := by rw [← hd]; exact mxQ_ge1
 have a2 : dl Q P f ≤ d := by rw [← hd]; exact mxQ_ge2
 have b1 : dl R T g ≤ e := by rw [← he]; exact mxQ_ge1
 have b2 : dl T R g ≤ e := by rw [← he]; exact mxQ_ge2
 exact ⟨_, _, e1, e2, z1.qok (by omega) (by omega), z2.qok (by omega) (by omega), mxQ_le (mn1_ge (by grind) (dl_le1 dX dY fg0)) (mn1_ge (by grind) (dl_le1 dY dX fg0))⟩
set_option maxHeartbeats 51200000 in
set_option maxRecDepth 100000 in
theorem adds_any {A0 : Option Addr} {n0 c0 : Nat} {L0 : List MI} {A1 : Option Addr} {n1 c1 : Nat} {L1 : List MI} {A2 : Option Addr} {n2 c2 : Nat} {L2 : List MI} {A3 : Option Addr} {n3 c3 : Nat} {L3 : List MI} {s s2 : ByteArray} {w : World} (h0 : MR w A0 n0 L0 ∧ n0 ≤ 9223372036854775807 ∧ MX L0) (h1 : MR w A1 n1 L1 ∧ n1 ≤ 9223372036854775807 ∧ MX L1) (h2 : MR w A2 n2 L2 ∧ n2 ≤ 9223372036854775807 ∧ MX L2) (h3 : MR w A3 n3 L3 ∧ n3 ≤ 9223372036854775807 ∧ MX L3) (hs : s.size ≤ 140737488351232) (hs2 : s2.size ≤ 140737488351232) (htab : Tab w) (hm : ML w) :
  Calls Tryz.prog 5 #[.slice A0 n0 c0, .slice A1 n1 c1, .slice A2 n2 c2, .slice A3 n3 c3, .string s, .string s2] w fun e w' => e = .returned (.bool true) ∧ Below w.heap.size w w' := by
 have HL := Lib.hid (lives9_any w htab hm)
 have HTM := Lib.hid (fun W (hb : Below w.heap.size w W) => And.intro (htab.below hb) (ml_keep hm (ml_pos hm) hb))
 have HMD := Lib.hid (fun W (hb : Below w.heap.size w W) => made94_any (c0 := c0) (c1 := c1) (c2 := c2) (c3 := c3) (w := W) ⟨h0.1.below hb, h0.2⟩ ⟨h1.1.below hb, h1.2⟩ ⟨h2.1.below hb, h2.2⟩ ⟨h3.1.below hb, h3.2⟩)
 have HFC := Lib.hid (fun W => fac9_any s hs W)
 have HGC := Lib.hid (fun W => fac9_any s2 hs2 W)
 clear h0 h1 h2 h3 hs hs2 htab hm
 cases hf : facB s with
 | false =>
  rw [hf] at HFC
  clear hf HTM HGC
  go_enter Tryz.func5, Tryz.ntmps5
  go_wp2_with fail
  refine HL.out.mono ?_
  rintro e w1 ⟨rfl, hb⟩
  have HB := Lib.hid hb
  clear hb HL
  go_wp2_with fail
  refine (HMD.out _ HB.out).mono ?_
  rintro e w2 ⟨v, r, rfl, hr, hb⟩
  have HB2 := Lib.hid (HB.out.trans (hb.mono HB.out.size))
  clear hb HMD HB
  cases r with
  | false =>
   clear hr
   go_wp2_with fail
   go_ret
   exact ⟨rfl, HB2.out⟩
  | true =>
   clear hr
   go_wp2_with fail
   refine (HFC.out _).mono ?_
   rintro e y0 ⟨rfl, hb⟩
   have HE0 := Lib.hid (HB2.out.trans (hb.mono HB2.out.size))
   clear hb HFC
   go_wp2_with fail
   go_ret
   exact ⟨rfl, HE0.out⟩
 | true =>
  rw [hf] at HFC
  obtain ⟨f, hsf, hfo, hf1, hsz⟩ := facB_yes hf
  have HFF := Lib.hid (And.intro hsf (And.intro hsz (And.intro hf1 hfo)))
  clear hf hsf hfo hf1 hsz
  cases hg : facB s2 with
  | false =>
   rw [hg] at HGC
   clear hg HTM HFF
   go_enter Tryz.func5, Tryz.ntmps5
   go_wp2_with fail
   refine HL.out.mono ?_
   rintro e w1 ⟨rfl, hb⟩
   have HB := Lib.hid hb
   clear hb HL
   go_wp2_with fail
   refine (HMD.out _ HB.out).mono ?_
   rintro e w2 ⟨v, r, rfl, hr, hb⟩
   have HB2 := Lib.hid (HB.out.trans (hb.mono HB.out.size))
   clear hb HMD HB
   cases r with
   | false =>
    clear hr
    go_wp2_with fail
    go_ret
    exact ⟨rfl, HB2.out⟩
   | true =>
    clear hr
    go_wp2_with fail
    refine (HFC.out _).mono ?_
    rintro e y0 ⟨rfl, hb⟩
    have HE0 := Lib.hid (HB2.out.trans (hb.mono HB2.out.size))
    clear hb HFC
    go_wp2_with fail
    refine (HGC.out _).mono ?_
    rintro e y1 ⟨rfl, hb⟩
    have HE1 := Lib.hid (HE0.out.trans (hb.mono HE0.out.size))
    clear hb HGC
    go_wp2_with fail
    go_ret
    exact ⟨rfl, HE1.out⟩
  | true =>
   rw [hg] at HGC
   obtain ⟨z, hsf, hfo, hf1, hsz⟩ := facB_yes hg
   have HGG := Lib.hid (And.intro hsf (And.intro hsz (And.intro hf1 hfo)))
   clear hg hsf hfo hf1 hsz
   go_enter Tryz.func5, Tryz.ntmps5
   go_wp2_with fail
   refine HL.out.mono ?_
   rintro e w1 ⟨rfl, hb⟩
   have HB := Lib.hid hb
   clear hb HL
   go_wp2_with fail
   refine (HMD.out _ HB.out).mono ?_
   rintro e w2 ⟨v, r, rfl, hr, hb⟩
   have HB2 := Lib.hid (HB.out.trans (hb.mono HB.out.size))
   clear hb HMD HB
   cases r with
   | false =>
    clear hr
    go_wp2_with fail
    go_ret
    exact ⟨rfl, HB2.out⟩
   | true =>
    obtain ⟨g, cl, u0, u1, u2, u3, D0, D1, D2, D3, rfl, hg, hc0, hc1, hc2, hc3, d0, d1, d2, d3⟩ := hr rfl
    obtain ⟨hk0, hl0⟩ := chk_df d0
    obtain ⟨a0, q0, rfl, m0, _⟩ := d0
    obtain ⟨P, hP⟩ : ∃ P, P = tZ D0 := ⟨_, rfl⟩
    have hlen0 : P.length = D0.length := by rw [hP, tZ_len]
    rw [← hP] at m0 hl0 hk0
    obtain ⟨N0, hN0⟩ : ∃ N0, D0.length = N0 := ⟨_, rfl⟩
    rw [hN0] at m0 hlen0 hc0
    have hs0 := (fewB_yes hl0).1
    rw [hlen0] at hs0
    have p0 := DiL.of hk0
    have li0 := few_lit hl0
    obtain ⟨hk1, hl1⟩ := chk_df d1
    obtain ⟨a1, q1, rfl, m1, _⟩ := d1
    obtain ⟨Q, hQ⟩ : ∃ Q, Q = tZ D1 := ⟨_, rfl⟩
    have hlen1 : Q.length = D1.length := by rw [hQ, tZ_len]
    rw [← hQ] at m1 hl1 hk1
    obtain ⟨N1, hN1⟩ : ∃ N1, D1.length = N1 := ⟨_, rfl⟩
    rw [hN1] at m1 hlen1 hc1
    have hs1 := (fewB_yes hl1).1
    rw [hlen1] at hs1
    have p1 := DiL.of hk1
    have li1 := few_lit hl1
    obtain ⟨hk2, hl2⟩ := chk_df d2
    obtain ⟨a2, q2, rfl, m2, _⟩ := d2
    obtain ⟨R, hR⟩ : ∃ R, R = tZ D2 := ⟨_, rfl⟩
    have hlen2 : R.length = D2.length := by rw [hR, tZ_len]
    rw [← hR] at m2 hl2 hk2
    obtain ⟨N2, hN2⟩ : ∃ N2, D2.length = N2 := ⟨_, rfl⟩
    rw [hN2] at m2 hlen2 hc2
    have hs2 := (fewB_yes hl2).1
    rw [hlen2] at hs2
    have p2 := DiL.of hk2
    have li2 := few_lit hl2
    obtain ⟨hk3, hl3⟩ := chk_df d3
    obtain ⟨a3, q3, rfl, m3, _⟩ := d3
    obtain ⟨T, hT⟩ : ∃ T, T = tZ D3 := ⟨_, rfl⟩
    have hlen3 : T.length = D3.length := by rw [hT, tZ_len]
    rw [← hT] at m3 hl3 hk3
    obtain ⟨N3, hN3⟩ : ∃ N3, D3.length = N3 := ⟨_, rfl⟩
    rw [hN3] at m3 hlen3 hc3
    have hs3 := (fewB_yes hl3).1
    rw [hlen3] at hs3
    have p3 := DiL.of hk3
    have li3 := few_lit hl3
    obtain ⟨hsf, hf12, hf1, ofo⟩ := HFF.out
    obtain ⟨hsh, hz12, hz1, oho⟩ := HGG.out
    have hf0 : (0 : Rat) ≤ f := by grind
    have hz0 : (0 : Rat) ≤ z := by grind
    have hf60 : Sz 60 f := hf12.mono (by omega)
    have hz60 : Sz 60 z := hz12.mono (by omega)
    have HTW := Lib.hid (fun W (hb : Below w2.heap.size w2 W) => HTM.out W (HB2.out.trans (hb.mono HB2.out.size)))
    have HLC := Lib.hid (show ∀ W, Below w2.heap.size w2 W → W.cell? ⟨g, 0, none⟩ = some (.slice a0 N0 q0) ∧ W.cell? ⟨g, 1, none⟩ = some (.slice a1 N1 q1) ∧ W.cell? ⟨g, 2, none⟩ = some (.slice a2 N2 q2) ∧ W.cell? ⟨g, 3, none⟩ = some (.slice a3 N3 q3) from fun W hb => ⟨(hb.cell (p := ⟨g, 0, none⟩) hg).trans hc0, (hb.cell (p := ⟨g, 1, none⟩) hg).trans hc1, (hb.cell (p := ⟨g, 2, none⟩) hg).trans hc2, (hb.cell (p := ⟨g, 3, none⟩) hg).trans hc3⟩)
    obtain ⟨d, hd⟩ : ∃ e, mxQ (dl P Q f) (dl Q P f) = e := ⟨_, rfl⟩
    have sad := (dlt_run2 li0 li1 p0.ok p1.ok hf60).2
    have sbd := (dlt_run2 li1 li0 p1.ok p0.ok hf60).2
    have szd : Sz 1800 d := by rw [← hd]; exact mxQ_sz sad sbd
    have en_d : 0 ≤ d := by rw [← hd]; exact Rat.le_trans dl_nn mxQ_ge1
    have eod : d ≤ 1 := by rw [← hd]; exact mxQ_le (dl_le1 p0 p1 hf0) (dl_le1 p1 p0 hf0)
    have lqd : LQ f d := ⟨ofo, szd.qok (by omega) (by omega), hf1, en_d, eod⟩
    have HLE := Lib.hid (show ∀ W, Below w2.heap.size w2 W → Calls Tryz.prog 43 #[.slice a0 N0 q0, .slice a1 N1 q1, .string s] W (fun e' w' => e' = .returned (.agg #[.string s, .string (qstr d)]) ∧ Below W.heap.size W w') from fun W hb => least9 (tx := qstr (dl P Q f)) (ty := qstr (dl Q P f))
     (fun W3 hb3 => by
      have hb := hb.trans (hb3.mono hb.size)
      have h := rDelta_any (c1 := q0) (c2 := q1) (sf := qstr f) (m0.below hb) (m1.below hb) (by omega) (by omega) (litB_ml li0) (litB_ml li1) (Nat.le_trans (qstr_size ofo) (by omega))
      rw [dlt_is2 li0 li1 hk0 hk1 hf60 hf0, ← hsf] at h
      exact h)
     (fun W3 hb3 => by
      have hb := hb.trans (hb3.mono hb.size)
      have h := rDelta_any (c1 := q1) (c2 := q0) (sf := qstr f) (m1.below hb) (m0.below hb) (by omega) (by omega) (litB_ml li1) (litB_ml li0) (Nat.le_trans (qstr_size ofo) (by omega))
      rw [dlt_is2 li1 li0 hk1 hk0 hf60 hf0, ← hsf] at h
      exact h)
     (fun W3 => by
      rw [← hd]
      exact rMax_oQ _ _ (sad.qok (by omega) (by omega)) (sbd.qok (by omega) (by omega)) W3))
    have HH1 := Lib.hid (show ∀ W, Below w2.heap.size w2 W → Calls Tryz.prog 45 #[.agg #[.string s, .string (qstr d)], .int .i64 0, .slice a0 N0 q0, .slice a1 N1 q1] W (fun e' w' => e' = .returned (.bool true) ∧ Below W.heap.size W w') from fun W hb => holds9 fun W3 hb3 => by
     have hb := hb.trans (hb3.mono hb.size)
     have h := lHolds_q (c1 := q0) (c2 := q1) lqd (dlt_is2 li0 li1 hk0 hk1 hf60 hf0) (dlt_is2 li1 li0 hk1 hk0 hf60 hf0) (sad.qok (by omega) (by omega)) (sbd.qok (by omega) (by omega)) (by omega) (by omega) (litB_ml li0) (litB_ml li1) (m0.below hb) (m1.below hb) (fun W4 hb4 => HTW.out W4 (hb.trans (hb4.mono hb.size)))
     rw [decide_eq_true (show mxQ (dl P Q f) (dl Q P f) ≤ d by rw [hd]; exact Rat.le_refl), ← hsf] at h
     exact h)
    obtain ⟨e, he⟩ : ∃ e, mxQ (dl R T z) (dl T R z) = e := ⟨_, rfl⟩
    have sae := (dlt_run2 li2 li3 p2.ok p3.ok hz60).2
    have sbe := (dlt_run2 li3 li2 p3.ok p2.ok hz60).2
    have sze : Sz 1800 e := by rw [← he]; exact mxQ_sz sae sbe
    have ene : 0 ≤ e := by rw [← he]; exact Rat.le_trans dl_nn mxQ_ge1
    have eoe : e ≤ 1 := by rw [← he]; exact mxQ_le (dl_le1 p2 p3 hz0) (dl_le1 p3 p2 hz0)
    have lqe : LQ z e := ⟨oho, sze.qok (by omega) (by omega), hz1, ene, eoe⟩
    have HLF := Lib.hid (show ∀ W, Below w2.heap.size w2 W → Calls Tryz.prog 43 #[.slice a2 N2 q2, .slice a3 N3 q3, .string s2] W (fun e' w' => e' = .returned (.agg #[.string s2, .string (qstr e)]) ∧ Below W.heap.size W w') from fun W hb => least9 (tx := qstr (dl R T z)) (ty := qstr (dl T R z))
     (fun W3 hb3 => by
      have hb := hb.trans (hb3.mono hb.size)
      have h := rDelta_any (c1 := q2) (c2 := q3) (sf := qstr z) (m2.below hb) (m3.below hb) (by omega) (by omega) (litB_ml li2) (litB_ml li3) (Nat.le_trans (qstr_size oho) (by omega))
      rw [dlt_is2 li2 li3 hk2 hk3 hz60 hz0, ← hsh] at h
      exact h)
     (fun W3 hb3 => by
      have hb := hb.trans (hb3.mono hb.size)
      have h := rDelta_any (c1 := q3) (c2 := q2) (sf := qstr z) (m3.below hb) (m2.below hb) (by omega) (by omega) (litB_ml li3) (litB_ml li2) (Nat.le_trans (qstr_size oho) (by omega))
      rw [dlt_is2 li3 li2 hk3 hk2 hz60 hz0, ← hsh] at h
      exact h)
     (fun W3 => by
      rw [← he]
      exact rMax_oQ _ _ (sae.qok (by omega) (by omega)) (sbe.qok (by omega) (by omega)) W3))
    have HH2 := Lib.hid (show ∀ W, Below w2.heap.size w2 W → Calls Tryz.prog 45 #[.agg #[.string s2, .string (qstr e)], .int .i64 0, .slice a2 N2 q2, .slice a3 N3 q3] W (fun e' w' => e' = .returned (.bool true) ∧ Below W.heap.size W w') from fun W hb => holds9 fun W3 hb3 => by
     have hb := hb.trans (hb3.mono hb.size)
     have h := lHolds_q (c1 := q2) (c2 := q3) lqe (dlt_is2 li2 li3 hk2 hk3 hz60 hz0) (dlt_is2 li3 li2 hk3 hk2 hz60 hz0) (sae.qok (by omega) (by omega)) (sbe.qok (by omega) (by omega)) (by omega) (by omega) (litB_ml li2) (litB_ml li3) (m2.below hb) (m3.below hb) (fun W4 hb4 => HTW.out W4 (hb.trans (hb4.mono hb.size)))
     rw [decide_eq_true (show mxQ (dl R T z) (dl T R z) ≤ e by rw [he]; exact Rat.le_refl), ← hsh] at h
     exact h)
    have HP1 := Lib.hid (fun W (hb : Below w2.heap.size w2 W) => rProduct_any (c1 := q0) (c2 := q2) (m0.below hb) (m2.below hb) li0 li2 hk0 hk2)
    have HP2 := Lib.hid (fun W (hb : Below w2.heap.size w2 W) => rProduct_any (c1 := q1) (c2 := q3) (m1.below hb) (m3.below hb) li1 li3 hk1 hk3)
    have sfh : Sz 24 (f * z) := Sz.mul hf12 hz12
    have sde := Sz.add szd sze
    have HAD := Lib.hid (show ∀ W, Below w2.heap.size w2 W → Calls Tryz.prog 17 #[.agg #[.string s, .string (qstr d)], .agg #[.string s2, .string (qstr e)]] W (Rl (qstr (f * z)) (qstr (mn1 (d + e))) W) from fun W hb => by
     rw [hsf, hsh]
     exact lAdd_q lqd lqe (sfh.qok (by omega) (by omega)) (sde.qok (by omega) (by omega)) (fun W3 hb3 => HTW.out W3 (hb.trans (hb3.mono hb.size))))
    have lq3 : LQ (f * z) (mn1 (d + e)) := ⟨sfh.qok (by omega) (by omega), mn1_ok (sde.qok (by omega) (by omega)), by
     have h1 := Rat.mul_nonneg (show 0 ≤ f - 1 by grind) (show 0 ≤ z by grind)
     grind, mn1_nn (Rat.add_nonneg lqd.d0 lqe.d0), mn1_le⟩
    have HH3 := Lib.hid (show ∀ W (X Y : List MI) (NX NY xc yc : Nat) (xo yo : Option Addr), ProdX P R X NX → ProdX Q T Y NY → MR W xo NX X → MR W yo NY Y → Below w2.heap.size w2 W → Calls Tryz.prog 45 #[.agg #[.string (qstr (f * z)), .string (qstr (mn1 (d + e)))], .int .i64 0, .slice xo NX xc, .slice yo NY yc] W (fun e' w' => e' = .returned (.bool true) ∧ Below W.heap.size W w') from fun W X Y NX NY xc yc xo yo hX hY mx my hb => by
     obtain ⟨x, y, ex, ey, ox, oy, hle⟩ := adds_num p0 p1 p2 p3 li0 li1 li2 li3 hX hY hf12 hz12 hf1 hz1 hd he
     have hx := hX.le
     have hy := hY.le
     refine holds9 fun W3 hb3 => ?_
     have h := lHolds_q (c1 := xc) (c2 := yc) lq3 ex ey ox oy (by omega) (by omega) hX.ml hY.ml (mx.below hb3) (my.below hb3) (fun W4 hb4 => HTW.out W4 (hb.trans ((hb3.trans (hb4.mono hb3.size)).mono hb.size)))
     rw [decide_eq_true hle] at h
     exact h)
    clear hr hc0 hc1 hc2 hc3 m0 m1 m2 m3 hk0 hk1 hk2 hk3 hl0 hl1 hl2 hl3 li0 li1 li2 li3 hlen0 hlen1 hlen2 hlen3 hN0 hN1 hN2 hN3 p0 p1 p2 p3 hs0 hs1 hs2 hs3 hP hQ hR hT hd sad sbd szd eod lqd he sae sbe sze eoe lqe en_d ene sfh sde lq3 HFF HGG hsf hf12 hf1 ofo hf0 hf60 hsh hz12 hz1 oho hz0 hz60 HTM HTW
    generalize qstr (mn1 (d + e)) = sg at HAD HH3
    generalize qstr (f * z) = sf at HAD HH3
    generalize qstr d = sd at HLE HH1 HAD
    generalize qstr e = se at HLF HH2 HAD
    have HBR := Lib.hid (Below.refl w2.heap.size w2)
    go_wp2_with fail
    refine (HFC.out _).mono ?_
    rintro e w3 ⟨rfl, hb⟩
    have HBS := Lib.hid (HBR.out.trans (hb.mono HBR.out.size))
    clear hb HFC
    go_wp2_with fail
    refine (HGC.out _).mono ?_
    rintro e w4 ⟨rfl, hb⟩
    have HB3 := Lib.hid (HBS.out.trans (hb.mono HBS.out.size))
    clear hb HGC
    go_wp2_with fail
    refine wp_world (Below.refl w4.heap.size w4) (fun wx hbx => ?_)
    have HB4 := Lib.hid (HB3.out.trans (hbx.mono HB3.out.size))
    clear hbx
    refine wp_region_held (S := fun W => Below wx.heap.size wx W) (by kernel_rfl) ?_
    change wpAnyH _ _ _ _ _ 20 _ _ wx.drew
    have hD0 := (Below.refl wx.heap.size wx).drew
    generalize wx.drew = W at *
    refine wpHz_take (i := 0) (d := 46) (v := .slice (some ⟨g, 0, none⟩) 4 cl) rfl rfl (by kernel_rfl) (by kernel_rfl) (by kernel_rfl) (fun _ _ _ h => h) rfl (fun W _ => by go_simp) hD0 ?_
    simp only [Act.put, sA, sB, sC]
    refine wpHz_take (i := 1) (d := 47) (v := .pointer (some ⟨g, 0, none⟩)) rfl rfl (by kernel_rfl) (by kernel_rfl) (by kernel_rfl) (fun _ _ _ h => h) rfl (fun W _ => by go_simp) hD0 ?_
    simp only [Act.put, sA, sB, sC]
    refine wpHz_take (i := 2) (d := 48) (v := .slice a0 N0 q0) rfl rfl (by kernel_rfl) (by kernel_rfl) (by kernel_rfl) (fun _ _ _ h => h) rfl (fun W hW => by have e0 := (HLC.out W (HB4.out.trans (hW.mono HB4.out.size))).1; go_simp) hD0 ?_
    simp only [Act.put, sA, sB, sC]
    refine wpHz_take (i := 3) (d := 49) (v := .slice (some ⟨g, 0, none⟩) 4 cl) rfl rfl (by kernel_rfl) (by kernel_rfl) (by kernel_rfl) (fun _ _ _ h => h) rfl (fun W _ => by go_simp) hD0 ?_
    simp only [Act.put, sA, sB, sC]
    refine wpHz_take (i := 4) (d := 50) (v := .pointer (some ⟨g, 1, none⟩)) rfl rfl (by kernel_rfl) (by kernel_rfl) (by kernel_rfl) (fun _ _ _ h => h) rfl (fun W _ => by go_simp) hD0 ?_
    simp only [Act.put, sA, sB, sC]
    refine wpHz_take (i := 5) (d := 51) (v := .slice a1 N1 q1) rfl rfl (by kernel_rfl) (by kernel_rfl) (by kernel_rfl) (fun _ _ _ h => h) rfl (fun W hW => by have e0 := (HLC.out W (HB4.out.trans (hW.mono HB4.out.size))).2.1; go_simp) hD0 ?_
    simp only [Act.put, sA, sB, sC]
    refine wpHz_take (i := 6) (d := 52) (v := .string s) rfl rfl (by kernel_rfl) (by kernel_rfl) (by kernel_rfl) (fun _ _ _ h => h) rfl (fun W _ => by go_simp) hD0 ?_
    simp only [Act.put, sA, sB, sC]
    refine wpHz_take (i := 8) (d := 54) (v := .slice (some ⟨g, 0, none⟩) 4 cl) rfl rfl (by kernel_rfl) (by kernel_rfl) (by kernel_rfl) (fun _ _ _ h => h) rfl (fun W _ => by go_simp) hD0 ?_
    simp only [Act.put, sA, sB, sC]
    refine wpHz_take (i := 9) (d := 55) (v := .pointer (some ⟨g, 2, none⟩)) rfl rfl (by kernel_rfl) (by kernel_rfl) (by kernel_rfl) (fun _ _ _ h => h) rfl (fun W _ => by go_simp) hD0 ?_
    simp only [Act.put, sA, sB, sC]
    refine wpHz_take (i := 10) (d := 56) (v := .slice a2 N2 q2) rfl rfl (by kernel_rfl) (by kernel_rfl) (by kernel_rfl) (fun _ _ _ h => h) rfl (fun W hW => by have e0 := (HLC.out W (HB4.out.trans (hW.mono HB4.out.size))).2.2.1; go_simp) hD0 ?_
    simp only [Act.put, sA, sB, sC]
    refine wpHz_take (i := 11) (d := 57) (v := .slice (some ⟨g, 0, none⟩) 4 cl) rfl rfl (by kernel_rfl) (by kernel_rfl) (by kernel_rfl) (fun _ _ _ h => h) rfl (fun W _ => by go_simp) hD0 ?_
    simp only [Act.put, sA, sB, sC]
    refine wpHz_take (i := 12) (d := 58) (v := .pointer (some ⟨g, 3, none⟩)) rfl rfl (by kernel_rfl) (by kernel_rfl) (by kernel_rfl) (fun _ _ _ h => h) rfl (fun W _ => by go_simp) hD0 ?_
    simp only [Act.put, sA, sB, sC]
    refine wpHz_take (i := 13) (d := 59) (v := .slice a3 N3 q3) rfl rfl (by kernel_rfl) (by kernel_rfl) (by kernel_rfl) (fun _ _ _ h => h) rfl (fun W hW => by have e0 := (HLC.out W (HB4.out.trans (hW.mono HB4.out.size))).2.2.2; go_simp) hD0 ?_
    simp only [Act.put, sA, sB, sC]
    refine wpHz_take (i := 14) (d := 60) (v := .string s2) rfl rfl (by kernel_rfl) (by kernel_rfl) (by kernel_rfl) (fun _ _ _ h => h) rfl (fun W _ => by go_simp) hD0 ?_
    simp only [Act.put, sA, sB, sC]
    apply cut3 (fun u x y => RB w2 u x ⟨#[]⟩ ⟨#[]⟩ ∧ RB w2 u y ⟨#[]⟩ ⟨#[]⟩ ∧ x ≠ y ∧ wx.heap.size ≤ x ∧ wx.heap.size ≤ y ∧ Below wx.heap.size wx u)
    intro KEY
    refine wpHz_three (i := 7) (j := 16) (k := 17) (by kernel_rfl) ?k0_7 ?k0_16 ?k0_17
    case' k0_7 =>
     refine wpOz_run rfl rfl (wpz_enter (d := 53) rfl (by go_simp) ((HLE.out _ (HB4.out.trans (hD0.mono HB4.out.size))).mono ?_))
     rintro e u1x ⟨rfl, hb⟩
     have hD1x : Below wx.heap.size wx u1x := hD0.trans (hb.mono hD0.size)
     clear hb
     refine ⟨_, rfl, hD1x, ?_⟩
     simp only [Act.put, sA, sB, sC]
     refine wpHz_three (i := 15) (j := 16) (k := 17) (by kernel_rfl) ?k1_15 ?k1_16 ?k1_17
     case' k1_15 =>
      refine wpOz_run rfl rfl (wpz_enter (d := 61) rfl (by go_simp) ((HLF.out _ (HB4.out.trans (hD1x.mono HB4.out.size))).mono ?_))
      rintro e u2x ⟨rfl, hb⟩
      have hD2x : Below wx.heap.size wx u2x := hD1x.trans (hb.mono hD1x.size)
      clear hb
      refine ⟨_, rfl, hD2x, ?_⟩
      simp only [Act.put, sA, sB, sC]
      refine wpHz_two (i := 16) (j := 17) (by kernel_rfl) ?k2_16 ?k2_17
      case' k2_16 =>
       have hD3x := hD2x.alloc hD2x.size (.cells #[.string ⟨#[]⟩, .string ⟨#[]⟩] 24)
       have hgx : wx.heap.size ≤ u2x.heap.size := hD2x.size
       have hzx : RB w2 (u2x.alloc (.cells #[.string ⟨#[]⟩, .string ⟨#[]⟩] 24)) u2x.heap.size ⟨#[]⟩ ⟨#[]⟩ := RB.new ((HB4.out.trans (hD2x.mono HB4.out.size))).size
       refine wpOz_run rfl rfl (wpz_value (v := .pointer (some ⟨u2x.heap.size, 0, none⟩)) (w' := u2x.alloc (.cells #[.string ⟨#[]⟩, .string ⟨#[]⟩] 24)) (d := 15) rfl (by go_simp) ⟨hD3x, ?_⟩)
       simp only [Act.put, sA, sB, sC]
       generalize u2x.heap.size = gx at hzx hgx  ⊢
       generalize u2x.alloc (.cells #[.string ⟨#[]⟩, .string ⟨#[]⟩] 24) = u3x at hzx  hD3x ⊢
       refine wpHz_one (i := 17) (by kernel_rfl) ?_
       have hD4x := hD3x.alloc hD3x.size (.cells #[.string ⟨#[]⟩, .string ⟨#[]⟩] 24)
       have hgy : wx.heap.size ≤ u3x.heap.size := hD3x.size
       have hzy : RB w2 (u3x.alloc (.cells #[.string ⟨#[]⟩, .string ⟨#[]⟩] 24)) u3x.heap.size ⟨#[]⟩ ⟨#[]⟩ := RB.new ((HB4.out.trans (hD3x.mono HB4.out.size))).size
       have hne : gx ≠ u3x.heap.size := by have := hzx.lt; omega
       have hzx := hzx.below ((Below.refl u3x.heap.size u3x).alloc (Nat.le_refl _) (.cells #[.string ⟨#[]⟩, .string ⟨#[]⟩] 24))
       refine wpOz_run rfl rfl (wpz_value (v := .pointer (some ⟨u3x.heap.size, 0, none⟩)) (w' := u3x.alloc (.cells #[.string ⟨#[]⟩, .string ⟨#[]⟩] 24)) (d := 16) rfl (by go_simp) ⟨hD4x, ?_⟩)
       simp only [Act.put, sA, sB, sC]
       generalize u3x.heap.size = gy at hzy hgy hne ⊢
       generalize u3x.alloc (.cells #[.string ⟨#[]⟩, .string ⟨#[]⟩] 24) = u4x at hzy hzx hD4x ⊢
       exact KEY _ _ _ ⟨hzx, hzy, hne, hgx, hgy, hD4x⟩
      case' k2_17 =>
       have hD5x := hD2x.alloc hD2x.size (.cells #[.string ⟨#[]⟩, .string ⟨#[]⟩] 24)
       have hgy : wx.heap.size ≤ u2x.heap.size := hD2x.size
       have hzy : RB w2 (u2x.alloc (.cells #[.string ⟨#[]⟩, .string ⟨#[]⟩] 24)) u2x.heap.size ⟨#[]⟩ ⟨#[]⟩ := RB.new ((HB4.out.trans (hD2x.mono HB4.out.size))).size
       refine wpOz_run rfl rfl (wpz_value (v := .pointer (some ⟨u2x.heap.size, 0, none⟩)) (w' := u2x.alloc (.cells #[.string ⟨#[]⟩, .string ⟨#[]⟩] 24)) (d := 16) rfl (by go_simp) ⟨hD5x, ?_⟩)
       simp only [Act.put, sA, sB, sC]
       generalize u2x.heap.size = gy at hzy hgy  ⊢
       generalize u2x.alloc (.cells #[.string ⟨#[]⟩, .string ⟨#[]⟩] 24) = u5x at hzy  hD5x ⊢
       refine wpHz_one (i := 16) (by kernel_rfl) ?_
       have hD6x := hD5x.alloc hD5x.size (.cells #[.string ⟨#[]⟩, .string ⟨#[]⟩] 24)
       have hgx : wx.heap.size ≤ u5x.heap.size := hD5x.size
       have hzx : RB w2 (u5x.alloc (.cells #[.string ⟨#[]⟩, .string ⟨#[]⟩] 24)) u5x.heap.size ⟨#[]⟩ ⟨#[]⟩ := RB.new ((HB4.out.trans (hD5x.mono HB4.out.size))).size
       have hne : u5x.heap.size ≠ gy := by have := hzy.lt; omega
       have hzy := hzy.below ((Below.refl u5x.heap.size u5x).alloc (Nat.le_refl _) (.cells #[.string ⟨#[]⟩, .string ⟨#[]⟩] 24))
       refine wpOz_run rfl rfl (wpz_value (v := .pointer (some ⟨u5x.heap.size, 0, none⟩)) (w' := u5x.alloc (.cells #[.string ⟨#[]⟩, .string ⟨#[]⟩] 24)) (d := 15) rfl (by go_simp) ⟨hD6x, ?_⟩)
       simp only [Act.put, sA, sB, sC]
       generalize u5x.heap.size = gx at hzx hgx hne ⊢
       generalize u5x.alloc (.cells #[.string ⟨#[]⟩, .string ⟨#[]⟩] 24) = u6x at hzx hzy hD6x ⊢
       exact KEY _ _ _ ⟨hzx, hzy, hne, hgx, hgy, hD6x⟩
     case' k1_16 =>
      have hD7x := hD1x.alloc hD1x.size (.cells #[.string ⟨#[]⟩, .string ⟨#[]⟩] 24)
      have hgx : wx.heap.size ≤ u1x.heap.size := hD1x.size
      have hzx : RB w2 (u1x.alloc (.cells #[.string ⟨#[]⟩, .string ⟨#[]⟩] 24)) u1x.heap.size ⟨#[]⟩ ⟨#[]⟩ := RB.new ((HB4.out.trans (hD1x.mono HB4.out.size))).size
      refine wpOz_run rfl rfl (wpz_value (v := .pointer (some ⟨u1x.heap.size, 0, none⟩)) (w' := u1x.alloc (.cells #[.string ⟨#[]⟩, .string ⟨#[]⟩] 24)) (d := 15) rfl (by go_simp) ⟨hD7x, ?_⟩)
      simp only [Act.put, sA, sB, sC]
      generalize u1x.heap.size = gx at hzx hgx  ⊢
      generalize u1x.alloc (.cells #[.string ⟨#[]⟩, .string ⟨#[]⟩] 24) = u7x at hzx  hD7x ⊢
      refine wpHz_two (i := 15) (j := 17) (by kernel_rfl) ?k7_15 ?k7_17
      case' k7_15 =>
       refine wpOz_run rfl rfl (wpz_enter (d := 61) rfl (by go_simp) ((HLF.out _ (HB4.out.trans (hD7x.mono HB4.out.size))).mono ?_))
       rintro e u8x ⟨rfl, hb⟩
       have hD8x : Below wx.heap.size wx u8x := hD7x.trans (hb.mono hD7x.size)
       have hzx := hzx.below hb
       clear hb
       refine ⟨_, rfl, hD8x, ?_⟩
       simp only [Act.put, sA, sB, sC]
       refine wpHz_one (i := 17) (by kernel_rfl) ?_
       have hD9x := hD8x.alloc hD8x.size (.cells #[.string ⟨#[]⟩, .string ⟨#[]⟩] 24)
       have hgy : wx.heap.size ≤ u8x.heap.size := hD8x.size
       have hzy : RB w2 (u8x.alloc (.cells #[.string ⟨#[]⟩, .string ⟨#[]⟩] 24)) u8x.heap.size ⟨#[]⟩ ⟨#[]⟩ := RB.new ((HB4.out.trans (hD8x.mono HB4.out.size))).size
       have hne : gx ≠ u8x.heap.size := by have := hzx.lt; omega
       have hzx := hzx.below ((Below.refl u8x.heap.size u8x).alloc (Nat.le_refl _) (.cells #[.string ⟨#[]⟩, .string ⟨#[]⟩] 24))
       refine wpOz_run rfl rfl (wpz_value (v := .pointer (some ⟨u8x.heap.size, 0, none⟩)) (w' := u8x.alloc (.cells #[.string ⟨#[]⟩, .string ⟨#[]⟩] 24)) (d := 16) rfl (by go_simp) ⟨hD9x, ?_⟩)
       simp only [Act.put, sA, sB, sC]
       generalize u8x.heap.size = gy at hzy hgy hne ⊢
       generalize u8x.alloc (.cells #[.string ⟨#[]⟩, .string ⟨#[]⟩] 24) = u9x at hzy hzx hD9x ⊢
       exact KEY _ _ _ ⟨hzx, hzy, hne, hgx, hgy, hD9x⟩
      case' k7_17 =>
       have hD10x := hD7x.alloc hD7x.size (.cells #[.string ⟨#[]⟩, .string ⟨#[]⟩] 24)
       have hgy : wx.heap.size ≤ u7x.heap.size := hD7x.size
       have hzy : RB w2 (u7x.alloc (.cells #[.string ⟨#[]⟩, .string ⟨#[]⟩] 24)) u7x.heap.size ⟨#[]⟩ ⟨#[]⟩ := RB.new ((HB4.out.trans (hD7x.mono HB4.out.size))).size
       have hne : gx ≠ u7x.heap.size := by have := hzx.lt; omega
       have hzx := hzx.below ((Below.refl u7x.heap.size u7x).alloc (Nat.le_refl _) (.cells #[.string ⟨#[]⟩, .string ⟨#[]⟩] 24))
       refine wpOz_run rfl rfl (wpz_value (v := .pointer (some ⟨u7x.heap.size, 0, none⟩)) (w' := u7x.alloc (.cells #[.string ⟨#[]⟩, .string ⟨#[]⟩] 24)) (d := 16) rfl (by go_simp) ⟨hD10x, ?_⟩)
       simp only [Act.put, sA, sB, sC]
       generalize u7x.heap.size = gy at hzy hgy hne ⊢
       generalize u7x.alloc (.cells #[.string ⟨#[]⟩, .string ⟨#[]⟩] 24) = u10x at hzy hzx hD10x ⊢
       refine wpHz_one (i := 15) (by kernel_rfl) ?_
       refine wpOz_run rfl rfl (wpz_enter (d := 61) rfl (by go_simp) ((HLF.out _ (HB4.out.trans (hD10x.mono HB4.out.size))).mono ?_))
       rintro e u11x ⟨rfl, hb⟩
       have hD11x : Below wx.heap.size wx u11x := hD10x.trans (hb.mono hD10x.size)
       have hzx := hzx.below hb
       have hzy := hzy.below hb
       clear hb
       refine ⟨_, rfl, hD11x, ?_⟩
       simp only [Act.put, sA, sB, sC]
       exact KEY _ _ _ ⟨hzx, hzy, hne, hgx, hgy, hD11x⟩
     case' k1_17 =>
      have hD12x := hD1x.alloc hD1x.size (.cells #[.string ⟨#[]⟩, .string ⟨#[]⟩] 24)
      have hgy : wx.heap.size ≤ u1x.heap.size := hD1x.size
      have hzy : RB w2 (u1x.alloc (.cells #[.string ⟨#[]⟩, .string ⟨#[]⟩] 24)) u1x.heap.size ⟨#[]⟩ ⟨#[]⟩ := RB.new ((HB4.out.trans (hD1x.mono HB4.out.size))).size
      refine wpOz_run rfl rfl (wpz_value (v := .pointer (some ⟨u1x.heap.size, 0, none⟩)) (w' := u1x.alloc (.cells #[.string ⟨#[]⟩, .string ⟨#[]⟩] 24)) (d := 16) rfl (by go_simp) ⟨hD12x, ?_⟩)
      simp only [Act.put, sA, sB, sC]
      generalize u1x.heap.size = gy at hzy hgy  ⊢
      generalize u1x.alloc (.cells #[.string ⟨#[]⟩, .string ⟨#[]⟩] 24) = u12x at hzy  hD12x ⊢
      refine wpHz_two (i := 15) (j := 16) (by kernel_rfl) ?k12_15 ?k12_16
      case' k12_15 =>
       refine wpOz_run rfl rfl (wpz_enter (d := 61) rfl (by go_simp) ((HLF.out _ (HB4.out.trans (hD12x.mono HB4.out.size))).mono ?_))
       rintro e u13x ⟨rfl, hb⟩
       have hD13x : Below wx.heap.size wx u13x := hD12x.trans (hb.mono hD12x.size)
       have hzy := hzy.below hb
       clear hb
       refine ⟨_, rfl, hD13x, ?_⟩
       simp only [Act.put, sA, sB, sC]
       refine wpHz_one (i := 16) (by kernel_rfl) ?_
       have hD14x := hD13x.alloc hD13x.size (.cells #[.string ⟨#[]⟩, .string ⟨#[]⟩] 24)
       have hgx : wx.heap.size ≤ u13x.heap.size := hD13x.size
       have hzx : RB w2 (u13x.alloc (.cells #[.string ⟨#[]⟩, .string ⟨#[]⟩] 24)) u13x.heap.size ⟨#[]⟩ ⟨#[]⟩ := RB.new ((HB4.out.trans (hD13x.mono HB4.out.size))).size
       have hne : u13x.heap.size ≠ gy := by have := hzy.lt; omega
       have hzy := hzy.below ((Below.refl u13x.heap.size u13x).alloc (Nat.le_refl _) (.cells #[.string ⟨#[]⟩, .string ⟨#[]⟩] 24))
       refine wpOz_run rfl rfl (wpz_value (v := .pointer (some ⟨u13x.heap.size, 0, none⟩)) (w' := u13x.alloc (.cells #[.string ⟨#[]⟩, .string ⟨#[]⟩] 24)) (d := 15) rfl (by go_simp) ⟨hD14x, ?_⟩)
       simp only [Act.put, sA, sB, sC]
       generalize u13x.heap.size = gx at hzx hgx hne ⊢
       generalize u13x.alloc (.cells #[.string ⟨#[]⟩, .string ⟨#[]⟩] 24) = u14x at hzx hzy hD14x ⊢
       exact KEY _ _ _ ⟨hzx, hzy, hne, hgx, hgy, hD14x⟩
      case' k12_16 =>
       have hD15x := hD12x.alloc hD12x.size (.cells #[.string ⟨#[]⟩, .string ⟨#[]⟩] 24)
       have hgx : wx.heap.size ≤ u12x.heap.size := hD12x.size
       have hzx : RB w2 (u12x.alloc (.cells #[.string ⟨#[]⟩, .string ⟨#[]⟩] 24)) u12x.heap.size ⟨#[]⟩ ⟨#[]⟩ := RB.new ((HB4.out.trans (hD12x.mono HB4.out.size))).size
       have hne : u12x.heap.size ≠ gy := by have := hzy.lt; omega
       have hzy := hzy.below ((Below.refl u12x.heap.size u12x).alloc (Nat.le_refl _) (.cells #[.string ⟨#[]⟩, .string ⟨#[]⟩] 24))
       refine wpOz_run rfl rfl (wpz_value (v := .pointer (some ⟨u12x.heap.size, 0, none⟩)) (w' := u12x.alloc (.cells #[.string ⟨#[]⟩, .string ⟨#[]⟩] 24)) (d := 15) rfl (by go_simp) ⟨hD15x, ?_⟩)
       simp only [Act.put, sA, sB, sC]
       generalize u12x.heap.size = gx at hzx hgx hne ⊢
       generalize u12x.alloc (.cells #[.string ⟨#[]⟩, .string ⟨#[]⟩] 24) = u15x at hzx hzy hD15x ⊢
       refine wpHz_one (i := 15) (by kernel_rfl) ?_
       refine wpOz_run rfl rfl (wpz_enter (d := 61) rfl (by go_simp) ((HLF.out _ (HB4.out.trans (hD15x.mono HB4.out.size))).mono ?_))
       rintro e u16x ⟨rfl, hb⟩
       have hD16x : Below wx.heap.size wx u16x := hD15x.trans (hb.mono hD15x.size)
       have hzy := hzy.below hb
       have hzx := hzx.below hb
       clear hb
       refine ⟨_, rfl, hD16x, ?_⟩
       simp only [Act.put, sA, sB, sC]
       exact KEY _ _ _ ⟨hzx, hzy, hne, hgx, hgy, hD16x⟩
    case' k0_16 =>
     have hD17x := hD0.alloc hD0.size (.cells #[.string ⟨#[]⟩, .string ⟨#[]⟩] 24)
     have hgx : wx.heap.size ≤ W.heap.size := hD0.size
     have hzx : RB w2 (W.alloc (.cells #[.string ⟨#[]⟩, .string ⟨#[]⟩] 24)) W.heap.size ⟨#[]⟩ ⟨#[]⟩ := RB.new ((HB4.out.trans (hD0.mono HB4.out.size))).size
     refine wpOz_run rfl rfl (wpz_value (v := .pointer (some ⟨W.heap.size, 0, none⟩)) (w' := W.alloc (.cells #[.string ⟨#[]⟩, .string ⟨#[]⟩] 24)) (d := 15) rfl (by go_simp) ⟨hD17x, ?_⟩)
     simp only [Act.put, sA, sB, sC]
     generalize W.heap.size = gx at hzx hgx  ⊢
     generalize W.alloc (.cells #[.string ⟨#[]⟩, .string ⟨#[]⟩] 24) = u17x at hzx  hD17x ⊢
     refine wpHz_two (i := 7) (j := 17) (by kernel_rfl) ?k17_7 ?k17_17
     case' k17_7 =>
      refine wpOz_run rfl rfl (wpz_enter (d := 53) rfl (by go_simp) ((HLE.out _ (HB4.out.trans (hD17x.mono HB4.out.size))).mono ?_))
      rintro e u18x ⟨rfl, hb⟩
      have hD18x : Below wx.heap.size wx u18x := hD17x.trans (hb.mono hD17x.size)
      have hzx := hzx.below hb
      clear hb
      refine ⟨_, rfl, hD18x, ?_⟩
      simp only [Act.put, sA, sB, sC]
      refine wpHz_two (i := 15) (j := 17) (by kernel_rfl) ?k18_15 ?k18_17
      case' k18_15 =>
       refine wpOz_run rfl rfl (wpz_enter (d := 61) rfl (by go_simp) ((HLF.out _ (HB4.out.trans (hD18x.mono HB4.out.size))).mono ?_))
       rintro e u19x ⟨rfl, hb⟩
       have hD19x : Below wx.heap.size wx u19x := hD18x.trans (hb.mono hD18x.size)
       have hzx := hzx.below hb
       clear hb
       refine ⟨_, rfl, hD19x, ?_⟩
       simp only [Act.put, sA, sB, sC]
       refine wpHz_one (i := 17) (by kernel_rfl) ?_
       have hD20x := hD19x.alloc hD19x.size (.cells #[.string ⟨#[]⟩, .string ⟨#[]⟩] 24)
       have hgy : wx.heap.size ≤ u19x.heap.size := hD19x.size
       have hzy : RB w2 (u19x.alloc (.cells #[.string ⟨#[]⟩, .string ⟨#[]⟩] 24)) u19x.heap.size ⟨#[]⟩ ⟨#[]⟩ := RB.new ((HB4.out.trans (hD19x.mono HB4.out.size))).size
       have hne : gx ≠ u19x.heap.size := by have := hzx.lt; omega
       have hzx := hzx.below ((Below.refl u19x.heap.size u19x).alloc (Nat.le_refl _) (.cells #[.string ⟨#[]⟩, .string ⟨#[]⟩] 24))
       refine wpOz_run rfl rfl (wpz_value (v := .pointer (some ⟨u19x.heap.size, 0, none⟩)) (w' := u19x.alloc (.cells #[.string ⟨#[]⟩, .string ⟨#[]⟩] 24)) (d := 16) rfl (by go_simp) ⟨hD20x, ?_⟩)
       simp only [Act.put, sA, sB, sC]
       generalize u19x.heap.size = gy at hzy hgy hne ⊢
       generalize u19x.alloc (.cells #[.string ⟨#[]⟩, .string ⟨#[]⟩] 24) = u20x at hzy hzx hD20x ⊢
       exact KEY _ _ _ ⟨hzx, hzy, hne, hgx, hgy, hD20x⟩
      case' k18_17 =>
       have hD21x := hD18x.alloc hD18x.size (.cells #[.string ⟨#[]⟩, .string ⟨#[]⟩] 24)
       have hgy : wx.heap.size ≤ u18x.heap.size := hD18x.size
       have hzy : RB w2 (u18x.alloc (.cells #[.string ⟨#[]⟩, .string ⟨#[]⟩] 24)) u18x.heap.size ⟨#[]⟩ ⟨#[]⟩ := RB.new ((HB4.out.trans (hD18x.mono HB4.out.size))).size
       have hne : gx ≠ u18x.heap.size := by have := hzx.lt; omega
       have hzx := hzx.below ((Below.refl u18x.heap.size u18x).alloc (Nat.le_refl _) (.cells #[.string ⟨#[]⟩, .string ⟨#[]⟩] 24))
       refine wpOz_run rfl rfl (wpz_value (v := .pointer (some ⟨u18x.heap.size, 0, none⟩)) (w' := u18x.alloc (.cells #[.string ⟨#[]⟩, .string ⟨#[]⟩] 24)) (d := 16) rfl (by go_simp) ⟨hD21x, ?_⟩)
       simp only [Act.put, sA, sB, sC]
       generalize u18x.heap.size = gy at hzy hgy hne ⊢
       generalize u18x.alloc (.cells #[.string ⟨#[]⟩, .string ⟨#[]⟩] 24) = u21x at hzy hzx hD21x ⊢
       refine wpHz_one (i := 15) (by kernel_rfl) ?_
       refine wpOz_run rfl rfl (wpz_enter (d := 61) rfl (by go_simp) ((HLF.out _ (HB4.out.trans (hD21x.mono HB4.out.size))).mono ?_))
       rintro e u22x ⟨rfl, hb⟩
       have hD22x : Below wx.heap.size wx u22x := hD21x.trans (hb.mono hD21x.size)
       have hzx := hzx.below hb
       have hzy := hzy.below hb
       clear hb
       refine ⟨_, rfl, hD22x, ?_⟩
       simp only [Act.put, sA, sB, sC]
       exact KEY _ _ _ ⟨hzx, hzy, hne, hgx, hgy, hD22x⟩
     case' k17_17 =>
      have hD23x := hD17x.alloc hD17x.size (.cells #[.string ⟨#[]⟩, .string ⟨#[]⟩] 24)
      have hgy : wx.heap.size ≤ u17x.heap.size := hD17x.size
      have hzy : RB w2 (u17x.alloc (.cells #[.string ⟨#[]⟩, .string ⟨#[]⟩] 24)) u17x.heap.size ⟨#[]⟩ ⟨#[]⟩ := RB.new ((HB4.out.trans (hD17x.mono HB4.out.size))).size
      have hne : gx ≠ u17x.heap.size := by have := hzx.lt; omega
      have hzx := hzx.below ((Below.refl u17x.heap.size u17x).alloc (Nat.le_refl _) (.cells #[.string ⟨#[]⟩, .string ⟨#[]⟩] 24))
      refine wpOz_run rfl rfl (wpz_value (v := .pointer (some ⟨u17x.heap.size, 0, none⟩)) (w' := u17x.alloc (.cells #[.string ⟨#[]⟩, .string ⟨#[]⟩] 24)) (d := 16) rfl (by go_simp) ⟨hD23x, ?_⟩)
      simp only [Act.put, sA, sB, sC]
      generalize u17x.heap.size = gy at hzy hgy hne ⊢
      generalize u17x.alloc (.cells #[.string ⟨#[]⟩, .string ⟨#[]⟩] 24) = u23x at hzy hzx hD23x ⊢
      refine wpHz_one (i := 7) (by kernel_rfl) ?_
      refine wpOz_run rfl rfl (wpz_enter (d := 53) rfl (by go_simp) ((HLE.out _ (HB4.out.trans (hD23x.mono HB4.out.size))).mono ?_))
      rintro e u24x ⟨rfl, hb⟩
      have hD24x : Below wx.heap.size wx u24x := hD23x.trans (hb.mono hD23x.size)
      have hzx := hzx.below hb
      have hzy := hzy.below hb
      clear hb
      refine ⟨_, rfl, hD24x, ?_⟩
      simp only [Act.put, sA, sB, sC]
      refine wpHz_one (i := 15) (by kernel_rfl) ?_
      refine wpOz_run rfl rfl (wpz_enter (d := 61) rfl (by go_simp) ((HLF.out _ (HB4.out.trans (hD24x.mono HB4.out.size))).mono ?_))
      rintro e u25x ⟨rfl, hb⟩
      have hD25x : Below wx.heap.size wx u25x := hD24x.trans (hb.mono hD24x.size)
      have hzx := hzx.below hb
      have hzy := hzy.below hb
      clear hb
      refine ⟨_, rfl, hD25x, ?_⟩
      simp only [Act.put, sA, sB, sC]
      exact KEY _ _ _ ⟨hzx, hzy, hne, hgx, hgy, hD25x⟩
    case' k0_17 =>
     have hD26x := hD0.alloc hD0.size (.cells #[.string ⟨#[]⟩, .string ⟨#[]⟩] 24)
     have hgy : wx.heap.size ≤ W.heap.size := hD0.size
     have hzy : RB w2 (W.alloc (.cells #[.string ⟨#[]⟩, .string ⟨#[]⟩] 24)) W.heap.size ⟨#[]⟩ ⟨#[]⟩ := RB.new ((HB4.out.trans (hD0.mono HB4.out.size))).size
     refine wpOz_run rfl rfl (wpz_value (v := .pointer (some ⟨W.heap.size, 0, none⟩)) (w' := W.alloc (.cells #[.string ⟨#[]⟩, .string ⟨#[]⟩] 24)) (d := 16) rfl (by go_simp) ⟨hD26x, ?_⟩)
     simp only [Act.put, sA, sB, sC]
     generalize W.heap.size = gy at hzy hgy  ⊢
     generalize W.alloc (.cells #[.string ⟨#[]⟩, .string ⟨#[]⟩] 24) = u26x at hzy  hD26x ⊢
     refine wpHz_two (i := 7) (j := 16) (by kernel_rfl) ?k26_7 ?k26_16
     case' k26_7 =>
      refine wpOz_run rfl rfl (wpz_enter (d := 53) rfl (by go_simp) ((HLE.out _ (HB4.out.trans (hD26x.mono HB4.out.size))).mono ?_))
      rintro e u27x ⟨rfl, hb⟩
      have hD27x : Below wx.heap.size wx u27x := hD26x.trans (hb.mono hD26x.size)
      have hzy := hzy.below hb
      clear hb
      refine ⟨_, rfl, hD27x, ?_⟩
      simp only [Act.put, sA, sB, sC]
      refine wpHz_two (i := 15) (j := 16) (by kernel_rfl) ?k27_15 ?k27_16
      case' k27_15 =>
       refine wpOz_run rfl rfl (wpz_enter (d := 61) rfl (by go_simp) ((HLF.out _ (HB4.out.trans (hD27x.mono HB4.out.size))).mono ?_))
       rintro e u28x ⟨rfl, hb⟩
       have hD28x : Below wx.heap.size wx u28x := hD27x.trans (hb.mono hD27x.size)
       have hzy := hzy.below hb
       clear hb
       refine ⟨_, rfl, hD28x, ?_⟩
       simp only [Act.put, sA, sB, sC]
       refine wpHz_one (i := 16) (by kernel_rfl) ?_
       have hD29x := hD28x.alloc hD28x.size (.cells #[.string ⟨#[]⟩, .string ⟨#[]⟩] 24)
       have hgx : wx.heap.size ≤ u28x.heap.size := hD28x.size
       have hzx : RB w2 (u28x.alloc (.cells #[.string ⟨#[]⟩, .string ⟨#[]⟩] 24)) u28x.heap.size ⟨#[]⟩ ⟨#[]⟩ := RB.new ((HB4.out.trans (hD28x.mono HB4.out.size))).size
       have hne : u28x.heap.size ≠ gy := by have := hzy.lt; omega
       have hzy := hzy.below ((Below.refl u28x.heap.size u28x).alloc (Nat.le_refl _) (.cells #[.string ⟨#[]⟩, .string ⟨#[]⟩] 24))
       refine wpOz_run rfl rfl (wpz_value (v := .pointer (some ⟨u28x.heap.size, 0, none⟩)) (w' := u28x.alloc (.cells #[.string ⟨#[]⟩, .string ⟨#[]⟩] 24)) (d := 15) rfl (by go_simp) ⟨hD29x, ?_⟩)
       simp only [Act.put, sA, sB, sC]
       generalize u28x.heap.size = gx at hzx hgx hne ⊢
       generalize u28x.alloc (.cells #[.string ⟨#[]⟩, .string ⟨#[]⟩] 24) = u29x at hzx hzy hD29x ⊢
       exact KEY _ _ _ ⟨hzx, hzy, hne, hgx, hgy, hD29x⟩
      case' k27_16 =>
       have hD30x := hD27x.alloc hD27x.size (.cells #[.string ⟨#[]⟩, .string ⟨#[]⟩] 24)
       have hgx : wx.heap.size ≤ u27x.heap.size := hD27x.size
       have hzx : RB w2 (u27x.alloc (.cells #[.string ⟨#[]⟩, .string ⟨#[]⟩] 24)) u27x.heap.size ⟨#[]⟩ ⟨#[]⟩ := RB.new ((HB4.out.trans (hD27x.mono HB4.out.size))).size
       have hne : u27x.heap.size ≠ gy := by have := hzy.lt; omega
       have hzy := hzy.below ((Below.refl u27x.heap.size u27x).alloc (Nat.le_refl _) (.cells #[.string ⟨#[]⟩, .string ⟨#[]⟩] 24))
       refine wpOz_run rfl rfl (wpz_value (v := .pointer (some ⟨u27x.heap.size, 0, none⟩)) (w' := u27x.alloc (.cells #[.string ⟨#[]⟩, .string ⟨#[]⟩] 24)) (d := 15) rfl (by go_simp) ⟨hD30x, ?_⟩)
       simp only [Act.put, sA, sB, sC]
       generalize u27x.heap.size = gx at hzx hgx hne ⊢
       generalize u27x.alloc (.cells #[.string ⟨#[]⟩, .string ⟨#[]⟩] 24) = u30x at hzx hzy hD30x ⊢
       refine wpHz_one (i := 15) (by kernel_rfl) ?_
       refine wpOz_run rfl rfl (wpz_enter (d := 61) rfl (by go_simp) ((HLF.out _ (HB4.out.trans (hD30x.mono HB4.out.size))).mono ?_))
       rintro e u31x ⟨rfl, hb⟩
       have hD31x : Below wx.heap.size wx u31x := hD30x.trans (hb.mono hD30x.size)
       have hzy := hzy.below hb
       have hzx := hzx.below hb
       clear hb
       refine ⟨_, rfl, hD31x, ?_⟩
       simp only [Act.put, sA, sB, sC]
       exact KEY _ _ _ ⟨hzx, hzy, hne, hgx, hgy, hD31x⟩
     case' k26_16 =>
      have hD32x := hD26x.alloc hD26x.size (.cells #[.string ⟨#[]⟩, .string ⟨#[]⟩] 24)
      have hgx : wx.heap.size ≤ u26x.heap.size := hD26x.size
      have hzx : RB w2 (u26x.alloc (.cells #[.string ⟨#[]⟩, .string ⟨#[]⟩] 24)) u26x.heap.size ⟨#[]⟩ ⟨#[]⟩ := RB.new ((HB4.out.trans (hD26x.mono HB4.out.size))).size
      have hne : u26x.heap.size ≠ gy := by have := hzy.lt; omega
      have hzy := hzy.below ((Below.refl u26x.heap.size u26x).alloc (Nat.le_refl _) (.cells #[.string ⟨#[]⟩, .string ⟨#[]⟩] 24))
      refine wpOz_run rfl rfl (wpz_value (v := .pointer (some ⟨u26x.heap.size, 0, none⟩)) (w' := u26x.alloc (.cells #[.string ⟨#[]⟩, .string ⟨#[]⟩] 24)) (d := 15) rfl (by go_simp) ⟨hD32x, ?_⟩)
      simp only [Act.put, sA, sB, sC]
      generalize u26x.heap.size = gx at hzx hgx hne ⊢
      generalize u26x.alloc (.cells #[.string ⟨#[]⟩, .string ⟨#[]⟩] 24) = u32x at hzx hzy hD32x ⊢
      refine wpHz_one (i := 7) (by kernel_rfl) ?_
      refine wpOz_run rfl rfl (wpz_enter (d := 53) rfl (by go_simp) ((HLE.out _ (HB4.out.trans (hD32x.mono HB4.out.size))).mono ?_))
      rintro e u33x ⟨rfl, hb⟩
      have hD33x : Below wx.heap.size wx u33x := hD32x.trans (hb.mono hD32x.size)
      have hzy := hzy.below hb
      have hzx := hzx.below hb
      clear hb
      refine ⟨_, rfl, hD33x, ?_⟩
      simp only [Act.put, sA, sB, sC]
      refine wpHz_one (i := 15) (by kernel_rfl) ?_
      refine wpOz_run rfl rfl (wpz_enter (d := 61) rfl (by go_simp) ((HLF.out _ (HB4.out.trans (hD33x.mono HB4.out.size))).mono ?_))
      rintro e u34x ⟨rfl, hb⟩
      have hD34x : Below wx.heap.size wx u34x := hD33x.trans (hb.mono hD33x.size)
      have hzy := hzy.below hb
      have hzx := hzx.below hb
      clear hb
      refine ⟨_, rfl, hD34x, ?_⟩
      simp only [Act.put, sA, sB, sC]
      exact KEY _ _ _ ⟨hzx, hzy, hne, hgx, hgy, hD34x⟩
    rintro u7 gx gy ⟨hzx, hzy, hne, hgx, hgy, hD7⟩
    clear hD0
    have hD8 : Below wx.heap.size wx ((u7.setCell ⟨gx, 0, none⟩ (.string s)).setCell ⟨gx, 1, none⟩ (.string sd)) := (hD7.setCell (p := ⟨gx, 0, none⟩) hgx (.string s)).setCell (p := ⟨gx, 1, none⟩) hgx (.string sd)
    have hsx := hzx.set s sd
    have hsy := hzy.other hne (.string s) (.string sd)
    obtain ⟨_, _, zz0, zz1, zz2, zz3⟩ := hzx
    refine wpHz_one (i := 18) (by kernel_rfl) ?_
    refine wpOz_run rfl rfl (wpz_skip (w' := ((u7.setCell ⟨gx, 0, none⟩ (.string s)).setCell ⟨gx, 1, none⟩ (.string sd))) rfl (by go_simp) ⟨hD8, ?_⟩)
    clear zz0 zz1 zz2 zz3 hzy hD7
    generalize ((u7.setCell ⟨gx, 0, none⟩ (.string s)).setCell ⟨gx, 1, none⟩ (.string sd)) = u8 at hsx hsy hD8 ⊢
    have hD9 : Below wx.heap.size wx ((u8.setCell ⟨gy, 0, none⟩ (.string s2)).setCell ⟨gy, 1, none⟩ (.string se)) := (hD8.setCell (p := ⟨gy, 0, none⟩) hgy (.string s2)).setCell (p := ⟨gy, 1, none⟩) hgy (.string se)
    have hry := hsy.set s2 se
    have hrx := hsx.other hne.symm (.string s2) (.string se)
    obtain ⟨_, _, zz0, zz1, zz2, zz3⟩ := hsy
    refine wpHz_one (i := 19) (by kernel_rfl) ?_
    refine wpOz_run rfl rfl (wpz_skip (w' := ((u8.setCell ⟨gy, 0, none⟩ (.string s2)).setCell ⟨gy, 1, none⟩ (.string se))) rfl (by go_simp) ⟨hD9, ?_⟩)
    clear zz0 zz1 zz2 zz3 hsx hD8
    generalize ((u8.setCell ⟨gy, 0, none⟩ (.string s2)).setCell ⟨gy, 1, none⟩ (.string se)) = u9 at hrx hry hD9 ⊢
    refine wpAnyH_done (by kernel_rfl) ?_ _
    have HB5 := Lib.hid (HB4.out.trans (hD9.mono HB4.out.size))
    have HX := Lib.hid hrx
    have HY := Lib.hid hry
    clear hrx hry hD9 hgx hgy hne HB4 HLE HLF
    go_wp2_with fail
    refine wp_world (Below.refl u9.heap.size u9) (fun wx hbx => ?_)
    have HBX := Lib.hid hbx
    clear hbx
    refine wp_region_held (S := fun W => Below wx.heap.size wx W) (by kernel_rfl) ?_
    change wpAnyH _ _ _ _ _ 12 _ _ wx.drew
    have hD0 := (Below.refl wx.heap.size wx).drew
    generalize wx.drew = W at *
    refine wpHz_take (i := 0) (d := 63) (v := .slice (some ⟨g, 0, none⟩) 4 cl) rfl rfl (by kernel_rfl) (by kernel_rfl) (by kernel_rfl) (fun _ _ _ h => h) rfl (fun W _ => by go_simp) hD0 ?_
    simp only [Act.put, sA, sB, sC]
    refine wpHz_take (i := 1) (d := 64) (v := .pointer (some ⟨g, 0, none⟩)) rfl rfl (by kernel_rfl) (by kernel_rfl) (by kernel_rfl) (fun _ _ _ h => h) rfl (fun W _ => by go_simp) hD0 ?_
    simp only [Act.put, sA, sB, sC]
    refine wpHz_take (i := 2) (d := 65) (v := .slice a0 N0 q0) rfl rfl (by kernel_rfl) (by kernel_rfl) (by kernel_rfl) (fun _ _ _ h => h) rfl (fun W hW => by have e0 := (HLC.out W (HB5.out.trans ((HBX.out.trans (hW.mono HBX.out.size)).mono HB5.out.size))).1; go_simp) hD0 ?_
    simp only [Act.put, sA, sB, sC]
    refine wpHz_take (i := 3) (d := 66) (v := .slice (some ⟨g, 0, none⟩) 4 cl) rfl rfl (by kernel_rfl) (by kernel_rfl) (by kernel_rfl) (fun _ _ _ h => h) rfl (fun W _ => by go_simp) hD0 ?_
    simp only [Act.put, sA, sB, sC]
    refine wpHz_take (i := 4) (d := 67) (v := .pointer (some ⟨g, 2, none⟩)) rfl rfl (by kernel_rfl) (by kernel_rfl) (by kernel_rfl) (fun _ _ _ h => h) rfl (fun W _ => by go_simp) hD0 ?_
    simp only [Act.put, sA, sB, sC]
    refine wpHz_take (i := 5) (d := 68) (v := .slice a2 N2 q2) rfl rfl (by kernel_rfl) (by kernel_rfl) (by kernel_rfl) (fun _ _ _ h => h) rfl (fun W hW => by have e0 := (HLC.out W (HB5.out.trans ((HBX.out.trans (hW.mono HBX.out.size)).mono HB5.out.size))).2.2.1; go_simp) hD0 ?_
    simp only [Act.put, sA, sB, sC]
    refine wpHz_one (i := 6) (by kernel_rfl) ?_
    refine wpOz_run rfl rfl (wpz_enter (d := 69) rfl (by go_simp) ((HP1.out _ (HB5.out.trans ((HBX.out.trans (hD0.mono HBX.out.size)).mono HB5.out.size))).mono ?_))
    rintro e p1 ⟨X, NX, xc, xo, rfl, hmx, hpx, hb⟩
    have hD1 : Below wx.heap.size wx p1 := hD0.trans (hb.mono hD0.size)
    have HMX := Lib.hid hmx
    have HPX := Lib.hid hpx
    clear hb hmx hpx
    refine ⟨_, rfl, hD1, ?_⟩
    simp only [Act.put, sA, sB, sC]
    refine wpHz_take (i := 7) (d := 62) (v := .tuple #[.slice xo NX xc, .int .i64 0]) rfl rfl (by kernel_rfl) (by kernel_rfl) (by kernel_rfl) (fun _ _ _ h => h) rfl (fun W _ => by go_simp) hD1 ?_
    simp only [Act.put, sA, sB, sC]
    refine wpHz_take (i := 8) (d := 70) (v := .slice xo NX xc) rfl rfl (by kernel_rfl) (by kernel_rfl) (by kernel_rfl) (fun _ _ _ h => h) rfl (fun W _ => by go_simp) hD1 ?_
    simp only [Act.put, sA, sB, sC]
    refine wpHz_take (i := 9) (d := 71) (v := .int .i64 0) rfl rfl (by kernel_rfl) (by kernel_rfl) (by kernel_rfl) (fun _ _ _ h => h) rfl (fun W _ => by go_simp) hD1 ?_
    simp only [Act.put, sA, sB, sC]
    refine wpHz_take (i := 10) (d := 17) (v := .slice xo NX xc) rfl rfl (by kernel_rfl) (by kernel_rfl) (by kernel_rfl) (fun _ _ _ h => h) rfl (fun W _ => by go_simp) hD1 ?_
    simp only [Act.put, sA, sB, sC]
    refine wpHz_take (i := 11) (d := 18) (v := .int .i64 0) rfl rfl (by kernel_rfl) (by kernel_rfl) (by kernel_rfl) (fun _ _ _ h => h) rfl (fun W _ => by go_simp) hD1 ?_
    simp only [Act.put, sA, sB, sC]
    refine wpAnyH_done (by kernel_rfl) ?_ _
    have HB6 := Lib.hid (HB5.out.trans ((HBX.out.trans (hD1.mono HBX.out.size)).mono HB5.out.size))
    have HX6 := Lib.hid (HX.out.below (HBX.out.trans (hD1.mono HBX.out.size)))
    have HY6 := Lib.hid (HY.out.below (HBX.out.trans (hD1.mono HBX.out.size)))
    clear HBX hD0 hD1 HP1 HX HY HB5
    go_wp2_with fail
    refine wp_world (Below.refl p1.heap.size p1) (fun wx hbx => ?_)
    have HBX := Lib.hid hbx
    clear hbx
    refine wp_region_held (S := fun W => Below wx.heap.size wx W) (by kernel_rfl) ?_
    change wpAnyH _ _ _ _ _ 12 _ _ wx.drew
    have hD0 := (Below.refl wx.heap.size wx).drew
    generalize wx.drew = W at *
    refine wpHz_take (i := 0) (d := 73) (v := .slice (some ⟨g, 0, none⟩) 4 cl) rfl rfl (by kernel_rfl) (by kernel_rfl) (by kernel_rfl) (fun _ _ _ h => h) rfl (fun W _ => by go_simp) hD0 ?_
    simp only [Act.put, sA, sB, sC]
    refine wpHz_take (i := 1) (d := 74) (v := .pointer (some ⟨g, 1, none⟩)) rfl rfl (by kernel_rfl) (by kernel_rfl) (by kernel_rfl) (fun _ _ _ h => h) rfl (fun W _ => by go_simp) hD0 ?_
    simp only [Act.put, sA, sB, sC]
    refine wpHz_take (i := 2) (d := 75) (v := .slice a1 N1 q1) rfl rfl (by kernel_rfl) (by kernel_rfl) (by kernel_rfl) (fun _ _ _ h => h) rfl (fun W hW => by have e0 := (HLC.out W (HB6.out.trans ((HBX.out.trans (hW.mono HBX.out.size)).mono HB6.out.size))).2.1; go_simp) hD0 ?_
    simp only [Act.put, sA, sB, sC]
    refine wpHz_take (i := 3) (d := 76) (v := .slice (some ⟨g, 0, none⟩) 4 cl) rfl rfl (by kernel_rfl) (by kernel_rfl) (by kernel_rfl) (fun _ _ _ h => h) rfl (fun W _ => by go_simp) hD0 ?_
    simp only [Act.put, sA, sB, sC]
    refine wpHz_take (i := 4) (d := 77) (v := .pointer (some ⟨g, 3, none⟩)) rfl rfl (by kernel_rfl) (by kernel_rfl) (by kernel_rfl) (fun _ _ _ h => h) rfl (fun W _ => by go_simp) hD0 ?_
    simp only [Act.put, sA, sB, sC]
    refine wpHz_take (i := 5) (d := 78) (v := .slice a3 N3 q3) rfl rfl (by kernel_rfl) (by kernel_rfl) (by kernel_rfl) (fun _ _ _ h => h) rfl (fun W hW => by have e0 := (HLC.out W (HB6.out.trans ((HBX.out.trans (hW.mono HBX.out.size)).mono HB6.out.size))).2.2.2; go_simp) hD0 ?_
    simp only [Act.put, sA, sB, sC]
    refine wpHz_one (i := 6) (by kernel_rfl) ?_
    refine wpOz_run rfl rfl (wpz_enter (d := 79) rfl (by go_simp) ((HP2.out _ (HB6.out.trans ((HBX.out.trans (hD0.mono HBX.out.size)).mono HB6.out.size))).mono ?_))
    rintro e p2 ⟨Y, NY, yc, yo, rfl, hmx, hpx, hb⟩
    have hD1 : Below wx.heap.size wx p2 := hD0.trans (hb.mono hD0.size)
    have HMY := Lib.hid hmx
    have HPY := Lib.hid hpx
    clear hb hmx hpx
    refine ⟨_, rfl, hD1, ?_⟩
    simp only [Act.put, sA, sB, sC]
    refine wpHz_take (i := 7) (d := 72) (v := .tuple #[.slice yo NY yc, .int .i64 0]) rfl rfl (by kernel_rfl) (by kernel_rfl) (by kernel_rfl) (fun _ _ _ h => h) rfl (fun W _ => by go_simp) hD1 ?_
    simp only [Act.put, sA, sB, sC]
    refine wpHz_take (i := 8) (d := 80) (v := .slice yo NY yc) rfl rfl (by kernel_rfl) (by kernel_rfl) (by kernel_rfl) (fun _ _ _ h => h) rfl (fun W _ => by go_simp) hD1 ?_
    simp only [Act.put, sA, sB, sC]
    refine wpHz_take (i := 9) (d := 81) (v := .int .i64 0) rfl rfl (by kernel_rfl) (by kernel_rfl) (by kernel_rfl) (fun _ _ _ h => h) rfl (fun W _ => by go_simp) hD1 ?_
    simp only [Act.put, sA, sB, sC]
    refine wpHz_take (i := 10) (d := 19) (v := .slice yo NY yc) rfl rfl (by kernel_rfl) (by kernel_rfl) (by kernel_rfl) (fun _ _ _ h => h) rfl (fun W _ => by go_simp) hD1 ?_
    simp only [Act.put, sA, sB, sC]
    refine wpHz_take (i := 11) (d := 20) (v := .int .i64 0) rfl rfl (by kernel_rfl) (by kernel_rfl) (by kernel_rfl) (fun _ _ _ h => h) rfl (fun W _ => by go_simp) hD1 ?_
    simp only [Act.put, sA, sB, sC]
    refine wpAnyH_done (by kernel_rfl) ?_ _
    have HB7 := Lib.hid (HB6.out.trans ((HBX.out.trans (hD1.mono HBX.out.size)).mono HB6.out.size))
    have HX7 := Lib.hid (HX6.out.below (HBX.out.trans (hD1.mono HBX.out.size)))
    have HY7 := Lib.hid (HY6.out.below (HBX.out.trans (hD1.mono HBX.out.size)))
    have HMX7 := Lib.hid (And.intro (HMX.out.below (HBX.out.trans (hD1.mono HBX.out.size))) HMY.out)
    clear HBX hD0 hD1 HP2 HX6 HY6 HB6 HMX HMY
    have c0 := HX7.out.c0
    have c1 := HX7.out.c1
    have d0 := HY7.out.c0
    have d1 := HY7.out.c1
    go_wp2_with fail
    refine (HAD.out _ HB7.out).mono ?_
    rintro e p3 ⟨rfl, hb⟩
    have ba := (Below.refl p3.heap.size p3).alloc (Nat.le_refl _) (.cells #[.string sf, .string sg] 24)
    have hbb := hb.trans (ba.mono hb.size)
    have HB9 := Lib.hid (HB7.out.trans (hbb.mono HB7.out.size))
    have HX9 := Lib.hid (HX7.out.below hbb)
    have HY9 := Lib.hid (HY7.out.below hbb)
    have HMX9 := Lib.hid (And.intro (HMX7.out.1.below hbb) (HMX7.out.2.below hbb))
    have HZ9 := Lib.hid (show RB w2 (p3.alloc (.cells #[.string sf, .string sg] 24)) p3.heap.size sf sg from RB.new (HB7.out.trans (hb.mono HB7.out.size)).size)
    clear hb ba hbb c0 c1 d0 d1 HAD HB7 HX7 HY7 HMX7
    go_wp2_with fail
    refine wp_world (Below.refl (p3.alloc (.cells #[.string sf, .string sg] 24)).heap.size (p3.alloc (.cells #[.string sf, .string sg] 24))) (fun wx hbx => ?_)
    have HBX := Lib.hid hbx
    clear hbx
    refine wp_region_held (S := fun W => Below wx.heap.size wx W) (by kernel_rfl) ?_
    change wpAnyH _ _ _ _ _ 26 _ _ wx.drew
    have hD0 := (Below.refl wx.heap.size wx).drew
    generalize wx.drew = W at *
    refine wpHz_take (i := 0) (d := 88) (v := .agg #[.string s, .string sd]) rfl rfl (by kernel_rfl) (by kernel_rfl) (by kernel_rfl) (fun _ _ _ h => h) rfl (fun W hW => by have e0 := (HX9.out.below (HBX.out.trans (hW.mono HBX.out.size))).c0; have e1 := (HX9.out.below (HBX.out.trans (hW.mono HBX.out.size))).c1; go_simp) hD0 ?_
    simp only [Act.put, sA, sB, sC]
    refine wpHz_take (i := 1) (d := 89) (v := .slice (some ⟨g, 0, none⟩) 4 cl) rfl rfl (by kernel_rfl) (by kernel_rfl) (by kernel_rfl) (fun _ _ _ h => h) rfl (fun W _ => by go_simp) hD0 ?_
    simp only [Act.put, sA, sB, sC]
    refine wpHz_take (i := 2) (d := 90) (v := .pointer (some ⟨g, 0, none⟩)) rfl rfl (by kernel_rfl) (by kernel_rfl) (by kernel_rfl) (fun _ _ _ h => h) rfl (fun W _ => by go_simp) hD0 ?_
    simp only [Act.put, sA, sB, sC]
    refine wpHz_take (i := 3) (d := 91) (v := .slice a0 N0 q0) rfl rfl (by kernel_rfl) (by kernel_rfl) (by kernel_rfl) (fun _ _ _ h => h) rfl (fun W hW => by have e0 := (HLC.out W (HB9.out.trans ((HBX.out.trans (hW.mono HBX.out.size)).mono HB9.out.size))).1; go_simp) hD0 ?_
    simp only [Act.put, sA, sB, sC]
    refine wpHz_take (i := 4) (d := 92) (v := .slice (some ⟨g, 0, none⟩) 4 cl) rfl rfl (by kernel_rfl) (by kernel_rfl) (by kernel_rfl) (fun _ _ _ h => h) rfl (fun W _ => by go_simp) hD0 ?_
    simp only [Act.put, sA, sB, sC]
    refine wpHz_take (i := 5) (d := 93) (v := .pointer (some ⟨g, 1, none⟩)) rfl rfl (by kernel_rfl) (by kernel_rfl) (by kernel_rfl) (fun _ _ _ h => h) rfl (fun W _ => by go_simp) hD0 ?_
    simp only [Act.put, sA, sB, sC]
    refine wpHz_take (i := 6) (d := 94) (v := .slice a1 N1 q1) rfl rfl (by kernel_rfl) (by kernel_rfl) (by kernel_rfl) (fun _ _ _ h => h) rfl (fun W hW => by have e0 := (HLC.out W (HB9.out.trans ((HBX.out.trans (hW.mono HBX.out.size)).mono HB9.out.size))).2.1; go_simp) hD0 ?_
    simp only [Act.put, sA, sB, sC]
    refine wpHz_one (i := 7) (by kernel_rfl) ?_
    refine wpOz_run rfl rfl (wpz_enter (d := 95) rfl (by go_simp) ((HH1.out _ (HB9.out.trans ((HBX.out.trans (hD0.mono HBX.out.size)).mono HB9.out.size))).mono ?_))
    rintro e y1 ⟨rfl, hb⟩
    have hD1 : Below wx.heap.size wx y1 := hD0.trans (hb.mono hD0.size)
    clear hb
    refine ⟨_, rfl, hD1, ?_⟩
    simp only [Act.put, sA, sB, sC]
    refine wpHz_take (i := 8) (d := 96) (v := .bool true) rfl rfl (by kernel_rfl) (by kernel_rfl) (by kernel_rfl) (fun _ _ _ h => h) rfl (fun W _ => by go_simp) hD1 ?_
    simp only [Act.put, sA, sB, sC]
    refine wpHz_takeG (i := 9) (d := 97) (v := .agg #[.string s2, .string se]) rfl rfl (by kernel_rfl) (by kernel_rfl) (by kernel_rfl) (fun _ _ _ h => h) rfl (fun W hW => by have e0 := (HY9.out.below (HBX.out.trans (hW.mono HBX.out.size))).c0; have e1 := (HY9.out.below (HBX.out.trans (hW.mono HBX.out.size))).c1; go_simp) hD1 ?_
    simp only [Act.put, sA, sB, sC]
    refine wpHz_takeG (i := 10) (d := 98) (v := .slice (some ⟨g, 0, none⟩) 4 cl) rfl rfl (by kernel_rfl) (by kernel_rfl) (by kernel_rfl) (fun _ _ _ h => h) rfl (fun W _ => by go_simp) hD1 ?_
    simp only [Act.put, sA, sB, sC]
    refine wpHz_takeG (i := 11) (d := 99) (v := .pointer (some ⟨g, 2, none⟩)) rfl rfl (by kernel_rfl) (by kernel_rfl) (by kernel_rfl) (fun _ _ _ h => h) rfl (fun W _ => by go_simp) hD1 ?_
    simp only [Act.put, sA, sB, sC]
    refine wpHz_takeG (i := 12) (d := 100) (v := .slice a2 N2 q2) rfl rfl (by kernel_rfl) (by kernel_rfl) (by kernel_rfl) (fun _ _ _ h => h) rfl (fun W hW => by have e0 := (HLC.out W (HB9.out.trans ((HBX.out.trans (hW.mono HBX.out.size)).mono HB9.out.size))).2.2.1; go_simp) hD1 ?_
    simp only [Act.put, sA, sB, sC]
    refine wpHz_takeG (i := 13) (d := 101) (v := .slice (some ⟨g, 0, none⟩) 4 cl) rfl rfl (by kernel_rfl) (by kernel_rfl) (by kernel_rfl) (fun _ _ _ h => h) rfl (fun W _ => by go_simp) hD1 ?_
    simp only [Act.put, sA, sB, sC]
    refine wpHz_takeG (i := 14) (d := 102) (v := .pointer (some ⟨g, 3, none⟩)) rfl rfl (by kernel_rfl) (by kernel_rfl) (by kernel_rfl) (fun _ _ _ h => h) rfl (fun W _ => by go_simp) hD1 ?_
    simp only [Act.put, sA, sB, sC]
    refine wpHz_takeG (i := 15) (d := 103) (v := .slice a3 N3 q3) rfl rfl (by kernel_rfl) (by kernel_rfl) (by kernel_rfl) (fun _ _ _ h => h) rfl (fun W hW => by have e0 := (HLC.out W (HB9.out.trans ((HBX.out.trans (hW.mono HBX.out.size)).mono HB9.out.size))).2.2.2; go_simp) hD1 ?_
    simp only [Act.put, sA, sB, sC]
    refine wpHz_one (i := 16) (by kernel_rfl) ?_
    refine wpOz_runG rfl rfl (wpz_enter (d := 104) rfl (by go_simp) ((HH2.out _ (HB9.out.trans ((HBX.out.trans (hD1.mono HBX.out.size)).mono HB9.out.size))).mono ?_))
    rintro e y2 ⟨rfl, hb⟩
    have hD2 : Below wx.heap.size wx y2 := hD1.trans (hb.mono hD1.size)
    clear hb
    refine ⟨_, rfl, hD2, ?_⟩
    simp only [Act.put, sA, sB, sC]
    refine wpHz_take (i := 17) (d := 105) (v := .bool true) rfl rfl (by kernel_rfl) (by kernel_rfl) (by kernel_rfl) (fun _ _ _ h => h) rfl (fun W _ => by go_simp) hD2 ?_
    simp only [Act.put, sA, sB, sC]
    refine wpHz_take (i := 18) (d := 106) (v := .bool true) rfl rfl (by kernel_rfl) (by kernel_rfl) (by kernel_rfl) (fun _ _ _ h => h) rfl (fun W _ => by go_simp) hD2 ?_
    simp only [Act.put, sA, sB, sC]
    refine wpHz_takeG (i := 19) (d := 107) (v := .agg #[.string sf, .string sg]) rfl rfl (by kernel_rfl) (by kernel_rfl) (by kernel_rfl) (fun _ _ _ h => h) rfl (fun W hW => by have e0 := (HZ9.out.below (HBX.out.trans (hW.mono HBX.out.size))).c0; have e1 := (HZ9.out.below (HBX.out.trans (hW.mono HBX.out.size))).c1; go_simp) hD2 ?_
    simp only [Act.put, sA, sB, sC]
    refine wpHz_takeG (i := 20) (d := 108) (v := .int .i64 0) rfl rfl (by kernel_rfl) (by kernel_rfl) (by kernel_rfl) (fun _ _ _ h => h) rfl (fun W _ => by go_simp) hD2 ?_
    simp only [Act.put, sA, sB, sC]
    refine wpHz_takeG (i := 21) (d := 109) (v := .slice xo NX xc) rfl rfl (by kernel_rfl) (by kernel_rfl) (by kernel_rfl) (fun _ _ _ h => h) rfl (fun W _ => by go_simp) hD2 ?_
    simp only [Act.put, sA, sB, sC]
    refine wpHz_takeG (i := 22) (d := 110) (v := .slice yo NY yc) rfl rfl (by kernel_rfl) (by kernel_rfl) (by kernel_rfl) (fun _ _ _ h => h) rfl (fun W _ => by go_simp) hD2 ?_
    simp only [Act.put, sA, sB, sC]
    refine wpHz_one (i := 23) (by kernel_rfl) ?_
    refine wpOz_runG rfl rfl (wpz_enter (d := 111) rfl (by go_simp) ((HH3.out _ X Y NX NY xc yc xo yo HPX.out HPY.out (HMX9.out.1.below (HBX.out.trans (hD2.mono HBX.out.size))) (HMX9.out.2.below (HBX.out.trans (hD2.mono HBX.out.size))) (HB9.out.trans ((HBX.out.trans (hD2.mono HBX.out.size)).mono HB9.out.size))).mono ?_))
    rintro e y3 ⟨rfl, hb⟩
    have hD3 : Below wx.heap.size wx y3 := hD2.trans (hb.mono hD2.size)
    clear hb
    refine ⟨_, rfl, hD3, ?_⟩
    simp only [Act.put, sA, sB, sC]
    refine wpHz_take (i := 24) (d := 112) (v := .bool true) rfl rfl (by kernel_rfl) (by kernel_rfl) (by kernel_rfl) (fun _ _ _ h => h) rfl (fun W _ => by go_simp) hD3 ?_
    simp only [Act.put, sA, sB, sC]
    refine wpHz_take (i := 25) (d := 12) (v := .bool true) rfl rfl (by kernel_rfl) (by kernel_rfl) (by kernel_rfl) (fun _ _ _ h => h) rfl (fun W _ => by go_simp) hD3 ?_
    simp only [Act.put, sA, sB, sC]
    refine wpAnyH_done (by kernel_rfl) ?_ _
    have HE := Lib.hid (HB2.out.trans ((HB9.out.trans ((HBX.out.trans (hD3.mono HBX.out.size)).mono HB9.out.size)).mono HB2.out.size))
    clear hD0 hD1 hD2 hD3 HBX HB9 HX9 HY9 HZ9 HMX9 HPX HPY HH1 HH2 HH3 HLC
    go_wp2_with fail
    go_ret
    exact ⟨rfl, HE.out⟩
end Go.Proofs.YtkponlbpgmnpgaaGreatDoor
