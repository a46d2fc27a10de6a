/-
  LossGroups is walked.
-/
import Derived.Test.YtkponlbpgmnpgaaGreatDoorDB
import Derived.WalkSmall
namespace Go.Proofs.YtkponlbpgmnpgaaGreatDoor
open Go.RowKit NV Go.Maps Go.Sort Go.Shelf
open Go.Lib (decDigits)
theorem pow_sz {f : Rat} {c : Nat} (h : Sz c f) (hc : 1 ≤ c) : ∀ k : Nat, Sz (k * c + 1) (f ^ k)
 | 0 => by rw [Rat.pow_zero, Nat.zero_mul]; exact ⟨by decide, by decide⟩
 | k + 1 => by
  rw [Rat.pow_succ]
  exact (Sz.mul (pow_sz h hc k) h).mono (by rw [Nat.succ_mul]; omega)
theorem pow_ge {f : Rat} (h : 1 ≤ f) : ∀ k : Nat, 1 ≤ f ^ k
 | 0 => by rw [Rat.pow_zero]; exact Rat.le_refl
 | k + 1 => by
  have ih := pow_ge h k
  have h2 := Rat.mul_nonneg (show 0 ≤ f ^ k - 1 by grind) (show 0 ≤ f by grind)
  rw [Rat.pow_succ]
  grind
theorem gs_sz {f : Rat} (h : Sz 12 f) {k : Nat} (hk : k ≤ 3) : Sz 160 (gs f k) :=
 (sm_sz (c := 37) (fun i hi => (pow_sz h (by omega) i).mono (by omega))).mono (by omega)
theorem gs_nn {f : Rat} (h : 0 ≤ f) (k : Nat) : 0 ≤ gs f k := sm_nonneg fun i _ => pow_nn h i
theorem groups_num {Q : Nat → List MI} {f d : Rat} {k : Nat} (hk : k ≤ 3) (hc : ∀ i, i ≤ k → chkZ (Q i) = 0 ∧ litB (Q i) = true) (hf : Sz 12 f) (f1 : 1 ≤ f) (hd : ∀ i, i < k → dl (Q i) (Q (i + 1)) f ≤ d ∧ dl (Q (i + 1)) (Q i) f ≤ d) :
  ∃ x y, dltE (Q 0) (Q k) (qstr (f ^ k)) = (qstr x, 0) ∧ dltE (Q k) (Q 0) (qstr (f ^ k)) = (qstr y, 0) ∧ QOk x ∧ QOk y ∧ mxQ x y ≤ mn1 (d * gs f k) := by
 have f0 : (0 : Rat) ≤ f := by grind
 have h60 : Sz 60 (f ^ k) := (pow_sz hf (by omega) k).mono (by omega)
 have g0 := pow_nn f0 k
 obtain ⟨c0, l0⟩ := hc 0 (by omega)
 obtain ⟨ck, lk⟩ := hc k (by omega)
 have d0 := DiL.of c0
 have dk := DiL.of ck
 have s1 := (dlt_run2 l0 lk d0.ok dk.ok h60).2
 have s2 := (dlt_run2 lk l0 dk.ok d0.ok h60).2
 have h1 := dl_group (Q := Q) (n := k) f0 (fun i hi => DiL.of (hc i hi).1) (fun i hi => (hd i hi).1)
 have h2 := dl_group (Q := fun j => Q (k - j)) (n := k) f0 (fun i hi => DiL.of (hc (k - i) (by omega)).1) (fun i hi => by
  have h := (hd (k - (i + 1)) (by omega)).2
  rw [show k - (i + 1) + 1 = k - i by omega] at h
  exact h)
 replace h2 : dl (Q k) (Q 0) (f ^ k) ≤ d * gs f k := by
  have h3 : dl (Q (k - 0)) (Q (k - k)) (f ^ k) ≤ d * gs f k := h2
  rw [Nat.sub_zero, Nat.sub_self] at h3
  exact h3
 exact ⟨_, _, dlt_is2 l0 lk c0 ck h60 g0, dlt_is2 lk l0 ck c0 h60 g0, s1.qok (by omega) (by omega), s2.qok (by omega) (by omega), mxQ_le (mn1_ge h1 (dl_le1 d0 dk g0)) (mn1_ge h2 (dl_le1 dk d0 g0))⟩
def GrpR (x2 x3 x4 : ByteArray) (iv : Value) (sx : ByteArray) : Prop := iv = .int .i64 2 ∧ x2 = sx ∨ iv = .int .i64 3 ∧ x3 = sx ∨ iv = .int .i64 4 ∧ x4 = sx ∨ iv = .int .i64 5
set_option maxHeartbeats 25600000 in
set_option maxRecDepth 100000 in
theorem groups_any {A0 : Option Addr} {n0 c0 : Nat} {L0 : List MI} {A1 : Option Addr} {n1 c1 : Nat} {L1 : List MI} {A2 : Option Addr} {n2 c2 : Nat} {L2 : List MI} {A3 : Option Addr} {n3 c3 : Nat} {L3 : List MI} {s : ByteArray} {w : World} (h0 : MR w A0 n0 L0 ∧ n0 ≤ 9223372036854775807 ∧ MX L0) (h1 : MR w A1 n1 L1 ∧ n1 ≤ 9223372036854775807 ∧ MX L1) (h2 : MR w A2 n2 L2 ∧ n2 ≤ 9223372036854775807 ∧ MX L2) (h3 : MR w A3 n3 L3 ∧ n3 ≤ 9223372036854775807 ∧ MX L3) (hs : s.size ≤ 140737488351232) (htab : Tab w) (hm : ML w) :
  Calls Tryz.prog 6 #[.slice A0 n0 c0, .slice A1 n1 c1, .slice A2 n2 c2, .slice A3 n3 c3, .string s] w fun e w' => e = .returned (.bool true) ∧ Below w.heap.size w w' := by
 have HL := Lib.hid (lives9_any w htab hm)
 have HTM := Lib.hid (fun W (hb : Below w.heap.size w W) => And.intro (htab.below hb) (ml_keep hm (ml_pos hm) hb))
 have HMD := Lib.hid (fun W (hb : Below w.heap.size w W) => made94_any (c0 := c0) (c1 := c1) (c2 := c2) (c3 := c3) (w := W) ⟨h0.1.below hb, h0.2⟩ ⟨h1.1.below hb, h1.2⟩ ⟨h2.1.below hb, h2.2⟩ ⟨h3.1.below hb, h3.2⟩)
 have HFC := Lib.hid (fun W => fac9_any s hs W)
 clear h0 h1 h2 h3 hs htab hm
 cases hf : facB s with
 | false =>
  rw [hf] at HFC
  clear hf HTM
  go_enter Tryz.func6, Tryz.ntmps6
  go_wp2_with fail
  refine HL.out.mono ?_
  rintro e w1 ⟨rfl, hb⟩
  have HB := Lib.hid hb
  clear hb HL
  go_wp2_with fail
  refine (HMD.out _ HB.out).mono ?_
  rintro e w2 ⟨v, r, rfl, hr, hb⟩
  have HB2 := Lib.hid (HB.out.trans (hb.mono HB.out.size))
  clear hb HMD HB
  cases r with
  | false =>
   clear hr HFC
   go_wp2_with fail
   go_ret
   exact ⟨rfl, HB2.out⟩
  | true =>
   clear hr
   go_wp2_with fail
   refine (HFC.out _).mono ?_
   rintro e w3 ⟨rfl, hb⟩
   have HE := Lib.hid (HB2.out.trans (hb.mono HB2.out.size))
   clear hb HFC HB2
   go_wp2_with fail
   go_ret
   exact ⟨rfl, HE.out⟩
 | true =>
  rw [hf] at HFC
  obtain ⟨f, hsf, hfo, hf1, hsz⟩ := facB_yes hf
  have HFF := Lib.hid (And.intro hsf (And.intro hsz (And.intro hf1 hfo)))
  clear hf hsf hfo hf1 hsz
  go_enter Tryz.func6, Tryz.ntmps6
  go_wp2_with fail
  refine HL.out.mono ?_
  rintro e w1 ⟨rfl, hb⟩
  have HB := Lib.hid hb
  clear hb HL
  go_wp2_with fail
  refine (HMD.out _ HB.out).mono ?_
  rintro e w2 ⟨v, r, rfl, hr, hb⟩
  have HB2 := Lib.hid (HB.out.trans (hb.mono HB.out.size))
  clear hb HMD HB
  cases r with
  | false =>
   clear hr HFC
   go_wp2_with fail
   go_ret
   exact ⟨rfl, HB2.out⟩
  | true =>
   obtain ⟨g, cl, u0, u1, u2, u3, D0, D1, D2, D3, rfl, hg, hc0, hc1, hc2, hc3, d0, d1, d2, d3⟩ := hr rfl
   obtain ⟨hk0, hl0⟩ := chk_df d0
   obtain ⟨a0, q0, rfl, m0, _⟩ := d0
   obtain ⟨P, hP⟩ : ∃ P, P = tZ D0 := ⟨_, rfl⟩
   have hlen0 : P.length = D0.length := by rw [hP, tZ_len]
   rw [← hP] at m0 hl0 hk0
   obtain ⟨N0, hN0⟩ : ∃ N0, D0.length = N0 := ⟨_, rfl⟩
   rw [hN0] at m0 hlen0 hc0
   have hs0 := (fewB_yes hl0).1
   rw [hlen0] at hs0
   have p0 := DiL.of hk0
   have li0 := few_lit hl0
   obtain ⟨hk1, hl1⟩ := chk_df d1
   obtain ⟨a1, q1, rfl, m1, _⟩ := d1
   obtain ⟨Q, hQ⟩ : ∃ Q, Q = tZ D1 := ⟨_, rfl⟩
   have hlen1 : Q.length = D1.length := by rw [hQ, tZ_len]
   rw [← hQ] at m1 hl1 hk1
   obtain ⟨N1, hN1⟩ : ∃ N1, D1.length = N1 := ⟨_, rfl⟩
   rw [hN1] at m1 hlen1 hc1
   have hs1 := (fewB_yes hl1).1
   rw [hlen1] at hs1
   have p1 := DiL.of hk1
   have li1 := few_lit hl1
   obtain ⟨hk2, hl2⟩ := chk_df d2
   obtain ⟨a2, q2, rfl, m2, _⟩ := d2
   obtain ⟨R, hR⟩ : ∃ R, R = tZ D2 := ⟨_, rfl⟩
   have hlen2 : R.length = D2.length := by rw [hR, tZ_len]
   rw [← hR] at m2 hl2 hk2
   obtain ⟨N2, hN2⟩ : ∃ N2, D2.length = N2 := ⟨_, rfl⟩
   rw [hN2] at m2 hlen2 hc2
   have hs2 := (fewB_yes hl2).1
   rw [hlen2] at hs2
   have p2 := DiL.of hk2
   have li2 := few_lit hl2
   obtain ⟨hk3, hl3⟩ := chk_df d3
   obtain ⟨a3, q3, rfl, m3, _⟩ := d3
   obtain ⟨T, hT⟩ : ∃ T, T = tZ D3 := ⟨_, rfl⟩
   have hlen3 : T.length = D3.length := by rw [hT, tZ_len]
   rw [← hT] at m3 hl3 hk3
   obtain ⟨N3, hN3⟩ : ∃ N3, D3.length = N3 := ⟨_, rfl⟩
   rw [hN3] at m3 hlen3 hc3
   have hs3 := (fewB_yes hl3).1
   rw [hlen3] at hs3
   have p3 := DiL.of hk3
   have li3 := few_lit hl3
   obtain ⟨hsf, hf12, hf1, ofo⟩ := HFF.out
   have hf0 : (0 : Rat) ≤ f := by grind
   have hf60 : Sz 60 f := hf12.mono (by omega)
   have HTW := Lib.hid (fun W (hb : Below w2.heap.size w2 W) => HTM.out W (HB2.out.trans (hb.mono HB2.out.size)))
   have HLC := Lib.hid (show ∀ W, Below w2.heap.size w2 W → W.cell? ⟨g, 0, none⟩ = some (.slice a0 N0 q0) ∧ W.cell? ⟨g, 1, none⟩ = some (.slice a1 N1 q1) ∧ W.cell? ⟨g, 2, none⟩ = some (.slice a2 N2 q2) ∧ W.cell? ⟨g, 3, none⟩ = some (.slice a3 N3 q3) from fun W hb => ⟨(hb.cell (p := ⟨g, 0, none⟩) hg).trans hc0, (hb.cell (p := ⟨g, 1, none⟩) hg).trans hc1, (hb.cell (p := ⟨g, 2, none⟩) hg).trans hc2, (hb.cell (p := ⟨g, 3, none⟩) hg).trans hc3⟩)
   obtain ⟨e1, he1⟩ : ∃ e, mxQ (dl P Q f) (dl Q P f) = e := ⟨_, rfl⟩
   have sa1 := (dlt_run2 li0 li1 p0.ok p1.ok hf60).2
   have sb1 := (dlt_run2 li1 li0 p1.ok p0.ok hf60).2
   have se1 : Sz 1800 e1 := by rw [← he1]; exact mxQ_sz sa1 sb1
   have en1 : 0 ≤ e1 := by rw [← he1]; exact Rat.le_trans dl_nn mxQ_ge1
   have eo1 : e1 ≤ 1 := by rw [← he1]; exact mxQ_le (dl_le1 p0 p1 hf0) (dl_le1 p1 p0 hf0)
   have ea1 : dl P Q f ≤ e1 := by rw [← he1]; exact mxQ_ge1
   have eb1 : dl Q P f ≤ e1 := by rw [← he1]; exact mxQ_ge2
   have lq1 : LQ f e1 := ⟨ofo, se1.qok (by omega) (by omega), hf1, en1, eo1⟩
   have HLE1 := Lib.hid (show ∀ W, Below w2.heap.size w2 W → Calls Tryz.prog 43 #[.slice a0 N0 q0, .slice a1 N1 q1, .string s] W (fun e w' => e = .returned (.agg #[.string s, .string (qstr e1)]) ∧ Below W.heap.size W w') from fun W hb => least9 (tx := qstr (dl P Q f)) (ty := qstr (dl Q P f))
    (fun W3 hb3 => by
     have hb := hb.trans (hb3.mono hb.size)
     have h := rDelta_any (c1 := q0) (c2 := q1) (sf := qstr f) (m0.below hb) (m1.below hb) (by omega) (by omega) (litB_ml li0) (litB_ml li1) (Nat.le_trans (qstr_size ofo) (by omega))
     rw [dlt_is2 li0 li1 hk0 hk1 hf60 hf0, ← hsf] at h
     exact h)
    (fun W3 hb3 => by
     have hb := hb.trans (hb3.mono hb.size)
     have h := rDelta_any (c1 := q1) (c2 := q0) (sf := qstr f) (m1.below hb) (m0.below hb) (by omega) (by omega) (litB_ml li1) (litB_ml li0) (Nat.le_trans (qstr_size ofo) (by omega))
     rw [dlt_is2 li1 li0 hk1 hk0 hf60 hf0, ← hsf] at h
     exact h)
    (fun W3 => by
     rw [← he1]
     exact rMax_oQ _ _ (sa1.qok (by omega) (by omega)) (sb1.qok (by omega) (by omega)) W3))
   obtain ⟨e2, he2⟩ : ∃ e, mxQ (dl Q R f) (dl R Q f) = e := ⟨_, rfl⟩
   have sa2 := (dlt_run2 li1 li2 p1.ok p2.ok hf60).2
   have sb2 := (dlt_run2 li2 li1 p2.ok p1.ok hf60).2
   have se2 : Sz 1800 e2 := by rw [← he2]; exact mxQ_sz sa2 sb2
   have en2 : 0 ≤ e2 := by rw [← he2]; exact Rat.le_trans dl_nn mxQ_ge1
   have eo2 : e2 ≤ 1 := by rw [← he2]; exact mxQ_le (dl_le1 p1 p2 hf0) (dl_le1 p2 p1 hf0)
   have ea2 : dl Q R f ≤ e2 := by rw [← he2]; exact mxQ_ge1
   have eb2 : dl R Q f ≤ e2 := by rw [← he2]; exact mxQ_ge2
   have lq2 : LQ f e2 := ⟨ofo, se2.qok (by omega) (by omega), hf1, en2, eo2⟩
   have HLE2 := Lib.hid (show ∀ W, Below w2.heap.size w2 W → Calls Tryz.prog 43 #[.slice a1 N1 q1, .slice a2 N2 q2, .string s] W (fun e w' => e = .returned (.agg #[.string s, .string (qstr e2)]) ∧ Below W.heap.size W w') from fun W hb => least9 (tx := qstr (dl Q R f)) (ty := qstr (dl R Q f))
    (fun W3 hb3 => by
     have hb := hb.trans (hb3.mono hb.size)
     have h := rDelta_any (c1 := q1) (c2 := q2) (sf := qstr f) (m1.below hb) (m2.below hb) (by omega) (by omega) (litB_ml li1) (litB_ml li2) (Nat.le_trans (qstr_size ofo) (by omega))
     rw [dlt_is2 li1 li2 hk1 hk2 hf60 hf0, ← hsf] at h
     exact h)
    (fun W3 hb3 => by
     have hb := hb.trans (hb3.mono hb.size)
     have h := rDelta_any (c1 := q2) (c2 := q1) (sf := qstr f) (m2.below hb) (m1.below hb) (by omega) (by omega) (litB_ml li2) (litB_ml li1) (Nat.le_trans (qstr_size ofo) (by omega))
     rw [dlt_is2 li2 li1 hk2 hk1 hf60 hf0, ← hsf] at h
     exact h)
    (fun W3 => by
     rw [← he2]
     exact rMax_oQ _ _ (sa2.qok (by omega) (by omega)) (sb2.qok (by omega) (by omega)) W3))
   obtain ⟨e3, he3⟩ : ∃ e, mxQ (dl R T f) (dl T R f) = e := ⟨_, rfl⟩
   have sa3 := (dlt_run2 li2 li3 p2.ok p3.ok hf60).2
   have sb3 := (dlt_run2 li3 li2 p3.ok p2.ok hf60).2
   have se3 : Sz 1800 e3 := by rw [← he3]; exact mxQ_sz sa3 sb3
   have en3 : 0 ≤ e3 := by rw [← he3]; exact Rat.le_trans dl_nn mxQ_ge1
   have eo3 : e3 ≤ 1 := by rw [← he3]; exact mxQ_le (dl_le1 p2 p3 hf0) (dl_le1 p3 p2 hf0)
   have ea3 : dl R T f ≤ e3 := by rw [← he3]; exact mxQ_ge1
   have eb3 : dl T R f ≤ e3 := by rw [← he3]; exact mxQ_ge2
   have lq3 : LQ f e3 := ⟨ofo, se3.qok (by omega) (by omega), hf1, en3, eo3⟩
   have HLE3 := Lib.hid (show ∀ W, Below w2.heap.size w2 W → Calls Tryz.prog 43 #[.slice a2 N2 q2, .slice a3 N3 q3, .string s] W (fun e w' => e = .returned (.agg #[.string s, .string (qstr e3)]) ∧ Below W.heap.size W w') from fun W hb => least9 (tx := qstr (dl R T f)) (ty := qstr (dl T R f))
    (fun W3 hb3 => by
     have hb := hb.trans (hb3.mono hb.size)
     have h := rDelta_any (c1 := q2) (c2 := q3) (sf := qstr f) (m2.below hb) (m3.below hb) (by omega) (by omega) (litB_ml li2) (litB_ml li3) (Nat.le_trans (qstr_size ofo) (by omega))
     rw [dlt_is2 li2 li3 hk2 hk3 hf60 hf0, ← hsf] at h
     exact h)
    (fun W3 hb3 => by
     have hb := hb.trans (hb3.mono hb.size)
     have h := rDelta_any (c1 := q3) (c2 := q2) (sf := qstr f) (m3.below hb) (m2.below hb) (by omega) (by omega) (litB_ml li3) (litB_ml li2) (Nat.le_trans (qstr_size ofo) (by omega))
     rw [dlt_is2 li3 li2 hk3 hk2 hf60 hf0, ← hsf] at h
     exact h)
    (fun W3 => by
     rw [← he3]
     exact rMax_oQ _ _ (sa3.qok (by omega) (by omega)) (sb3.qok (by omega) (by omega)) W3))
   obtain ⟨X2, hX2⟩ : ∃ X2, X2 = e1 := ⟨_, rfl⟩
   rw [← hX2] at HLE1
   obtain ⟨X3, hX3⟩ : ∃ X3, X3 = mxQ X2 e2 := ⟨_, rfl⟩
   obtain ⟨X4, hX4⟩ : ∃ X4, X4 = mxQ X3 e3 := ⟨_, rfl⟩
   have mff : mxQ f f = f := by unfold mxQ; split <;> rfl
   have lx2 : LQ f X2 := by rw [hX2]; exact lq1
   have lx3 : LQ f X3 := by
    have h := LQ.max lx2 lq2
    rw [mff, ← hX3] at h
    exact h
   have lx4 : LQ f X4 := by
    have h := LQ.max lx3 lq3
    rw [mff, ← hX4] at h
    exact h
   have sx2 : Sz 1800 X2 := by rw [hX2]; exact se1
   have sx3 : Sz 1800 X3 := by rw [hX3]; exact mxQ_sz sx2 se2
   have sx4 : Sz 1800 X4 := by rw [hX4]; exact mxQ_sz sx3 se3
   have o12 : e1 ≤ X2 := by rw [hX2]; exact Rat.le_refl
   have o23 : X2 ≤ X3 := by rw [hX3]; exact mxQ_ge1
   have o23b : e2 ≤ X3 := by rw [hX3]; exact mxQ_ge2
   have o34 : X3 ≤ X4 := by rw [hX4]; exact mxQ_ge1
   have o34b : e3 ≤ X4 := by rw [hX4]; exact mxQ_ge2
   have HM2 := Lib.hid (show ∀ W, Calls Tryz.prog 20 #[.agg #[.string s, .string (qstr X2)], .agg #[.string s, .string (qstr e2)]] W (Rl s (qstr X3) W) from fun W => by
    have h := rMax9_q lx2 lq2 W
    rw [mff, ← hX3, ← hsf] at h
    exact h)
   have HM3 := Lib.hid (show ∀ W, Calls Tryz.prog 20 #[.agg #[.string s, .string (qstr X3)], .agg #[.string s, .string (qstr e3)]] W (Rl s (qstr X4) W) from fun W => by
    have h := rMax9_q lx3 lq3 W
    rw [mff, ← hX4, ← hsf] at h
    exact h)
   obtain ⟨Ps, hPs⟩ : ∃ Ps : Nat → List MI, Ps = fun i => if i = 0 then P else if i = 1 then Q else if i = 2 then R else T := ⟨_, rfl⟩
   have hP0 : Ps 0 = P := by rw [hPs]; rfl
   have hP1 : Ps 1 = Q := by rw [hPs]; rfl
   have hP2 : Ps 2 = R := by rw [hPs]; rfl
   have hP3 : Ps 3 = T := by rw [hPs]; rfl
   have hcl : ∀ i, i ≤ 3 → chkZ (Ps i) = 0 ∧ litB (Ps i) = true := fun i hi => by
    rcases (show i = 0 ∨ i = 1 ∨ i = 2 ∨ i = 3 by omega) with rfl | rfl | rfl | rfl
    ·rw [hP0]; exact ⟨hk0, li0⟩
    ·rw [hP1]; exact ⟨hk1, li1⟩
    ·rw [hP2]; exact ⟨hk2, li2⟩
    ·rw [hP3]; exact ⟨hk3, li3⟩
   obtain ⟨x1n, y1n, ex1, ey1, ox1, oy1, hle1⟩ := groups_num (Q := Ps) (k := 1) (d := X2) (by omega) (fun i hi => hcl i (by omega)) hf12 hf1 (fun i hi => by
    obtain rfl : i = 0 := by omega
    rw [hP0, hP1]; exact ⟨Rat.le_trans ea1 o12, Rat.le_trans eb1 o12⟩)
   rw [hP0, hP1] at ex1 ey1
   have pk1 : Sz 13 (f ^ 1) := pow_sz hf12 (by omega) 1
   have dg1 : QOk (X2 * gs f 1) := (Sz.mul sx2 (gs_sz hf12 (show 1 ≤ 3 by omega))).qok (by omega) (by omega)
   have HG2 := Lib.hid (show ∀ W, Below w2.heap.size w2 W → Calls Tryz.prog 23 #[.agg #[.string s, .string (qstr X2)], .int .i64 1] W (Rl (qstr (f ^ 1)) (qstr (mn1 (X2 * gs f 1))) W) from fun W hb => by
    have h := lGroup_q (k := 1) lx2 (by omega) (fun i hi => ((pow_sz hf12 (by omega) i).mono (show i * 12 + 1 ≤ 40 by omega)).qok (by omega) (by omega)) (fun i hi => (gs_sz hf12 (show i ≤ 3 by omega)).qok (by omega) (by omega)) dg1 (w := W) (fun W3 hb3 => HTW.out W3 (hb.trans (hb3.mono hb.size)))
    rw [← hsf] at h
    exact h)
   have lg1 : LQ (f ^ 1) (mn1 (X2 * gs f 1)) := ⟨pk1.qok (by omega) (by omega), mn1_ok dg1, pow_ge hf1 1, mn1_nn (Rat.mul_nonneg lx2.d0 (gs_nn hf0 1)), mn1_le⟩
   have HH2 := Lib.hid (show ∀ W, Below w2.heap.size w2 W → Calls Tryz.prog 45 #[.agg #[.string (qstr (f ^ 1)), .string (qstr (mn1 (X2 * gs f 1)))], .int .i64 0, .slice a0 N0 q0, .slice a1 N1 q1] W (fun e w' => e = .returned (.bool true) ∧ Below W.heap.size W w') from fun W hb => holds9 fun W3 hb3 => by
    have hb := hb.trans (hb3.mono hb.size)
    have h := lHolds_q (c1 := q0) (c2 := q1) lg1 ex1 ey1 ox1 oy1 (by omega) (by omega) (litB_ml li0) (litB_ml li1) (m0.below hb) (m1.below hb) (fun W4 hb4 => HTW.out W4 (hb.trans (hb4.mono hb.size)))
    rw [decide_eq_true hle1] at h
    exact h)
   obtain ⟨x2n, y2n, ex2, ey2, ox2, oy2, hle2⟩ := groups_num (Q := Ps) (k := 2) (d := X3) (by omega) (fun i hi => hcl i (by omega)) hf12 hf1 (fun i hi => by
    rcases (show i = 0 ∨ i = 1 by omega) with rfl | rfl
    ·rw [hP0, hP1]; exact ⟨Rat.le_trans ea1 (Rat.le_trans o12 o23), Rat.le_trans eb1 (Rat.le_trans o12 o23)⟩
    ·rw [hP1, hP2]; exact ⟨Rat.le_trans ea2 o23b, Rat.le_trans eb2 o23b⟩)
   rw [hP0, hP2] at ex2 ey2
   have pk2 : Sz 25 (f ^ 2) := pow_sz hf12 (by omega) 2
   have dg2 : QOk (X3 * gs f 2) := (Sz.mul sx3 (gs_sz hf12 (show 2 ≤ 3 by omega))).qok (by omega) (by omega)
   have HG3 := Lib.hid (show ∀ W, Below w2.heap.size w2 W → Calls Tryz.prog 23 #[.agg #[.string s, .string (qstr X3)], .int .i64 2] W (Rl (qstr (f ^ 2)) (qstr (mn1 (X3 * gs f 2))) W) from fun W hb => by
    have h := lGroup_q (k := 2) lx3 (by omega) (fun i hi => ((pow_sz hf12 (by omega) i).mono (show i * 12 + 1 ≤ 40 by omega)).qok (by omega) (by omega)) (fun i hi => (gs_sz hf12 (show i ≤ 3 by omega)).qok (by omega) (by omega)) dg2 (w := W) (fun W3 hb3 => HTW.out W3 (hb.trans (hb3.mono hb.size)))
    rw [← hsf] at h
    exact h)
   have lg2 : LQ (f ^ 2) (mn1 (X3 * gs f 2)) := ⟨pk2.qok (by omega) (by omega), mn1_ok dg2, pow_ge hf1 2, mn1_nn (Rat.mul_nonneg lx3.d0 (gs_nn hf0 2)), mn1_le⟩
   have HH3 := Lib.hid (show ∀ W, Below w2.heap.size w2 W → Calls Tryz.prog 45 #[.agg #[.string (qstr (f ^ 2)), .string (qstr (mn1 (X3 * gs f 2)))], .int .i64 0, .slice a0 N0 q0, .slice a2 N2 q2] W (fun e w' => e = .returned (.bool true) ∧ Below W.heap.size W w') from fun W hb => holds9 fun W3 hb3 => by
    have hb := hb.trans (hb3.mono hb.size)
    have h := lHolds_q (c1 := q0) (c2 := q2) lg2 ex2 ey2 ox2 oy2 (by omega) (by omega) (litB_ml li0) (litB_ml li2) (m0.below hb) (m2.below hb) (fun W4 hb4 => HTW.out W4 (hb.trans (hb4.mono hb.size)))
    rw [decide_eq_true hle2] at h
    exact h)
   obtain ⟨x3n, y3n, ex3, ey3, ox3, oy3, hle3⟩ := groups_num (Q := Ps) (k := 3) (d := X4) (by omega) (fun i hi => hcl i (by omega)) hf12 hf1 (fun i hi => by
    rcases (show i = 0 ∨ i = 1 ∨ i = 2 by omega) with rfl | rfl | rfl
    ·rw [hP0, hP1]; exact ⟨Rat.le_trans ea1 (Rat.le_trans o12 (Rat.le_trans o23 o34)), Rat.le_trans eb1 (Rat.le_trans o12 (Rat.le_trans o23 o34))⟩
    ·rw [hP1, hP2]; exact ⟨Rat.le_trans ea2 (Rat.le_trans o23b o34), Rat.le_trans eb2 (Rat.le_trans o23b o34)⟩
    ·rw [hP2, hP3]; exact ⟨Rat.le_trans ea3 o34b, Rat.le_trans eb3 o34b⟩)
   rw [hP0, hP3] at ex3 ey3
   have pk3 : Sz 37 (f ^ 3) := pow_sz hf12 (by omega) 3
   have dg3 : QOk (X4 * gs f 3) := (Sz.mul sx4 (gs_sz hf12 (show 3 ≤ 3 by omega))).qok (by omega) (by omega)
   have HG4 := Lib.hid (show ∀ W, Below w2.heap.size w2 W → Calls Tryz.prog 23 #[.agg #[.string s, .string (qstr X4)], .int .i64 3] W (Rl (qstr (f ^ 3)) (qstr (mn1 (X4 * gs f 3))) W) from fun W hb => by
    have h := lGroup_q (k := 3) lx4 (by omega) (fun i hi => ((pow_sz hf12 (by omega) i).mono (show i * 12 + 1 ≤ 40 by omega)).qok (by omega) (by omega)) (fun i hi => (gs_sz hf12 (show i ≤ 3 by omega)).qok (by omega) (by omega)) dg3 (w := W) (fun W3 hb3 => HTW.out W3 (hb.trans (hb3.mono hb.size)))
    rw [← hsf] at h
    exact h)
   have lg3 : LQ (f ^ 3) (mn1 (X4 * gs f 3)) := ⟨pk3.qok (by omega) (by omega), mn1_ok dg3, pow_ge hf1 3, mn1_nn (Rat.mul_nonneg lx4.d0 (gs_nn hf0 3)), mn1_le⟩
   have HH4 := Lib.hid (show ∀ W, Below w2.heap.size w2 W → Calls Tryz.prog 45 #[.agg #[.string (qstr (f ^ 3)), .string (qstr (mn1 (X4 * gs f 3)))], .int .i64 0, .slice a0 N0 q0, .slice a3 N3 q3] W (fun e w' => e = .returned (.bool true) ∧ Below W.heap.size W w') from fun W hb => holds9 fun W3 hb3 => by
    have hb := hb.trans (hb3.mono hb.size)
    have h := lHolds_q (c1 := q0) (c2 := q3) lg3 ex3 ey3 ox3 oy3 (by omega) (by omega) (litB_ml li0) (litB_ml li3) (m0.below hb) (m3.below hb) (fun W4 hb4 => HTW.out W4 (hb.trans (hb4.mono hb.size)))
    rw [decide_eq_true hle3] at h
    exact h)
   clear hr hc0 hc1 hc2 hc3 m0 m1 m2 m3 hk0 hk1 hk2 hk3 hl0 hl1 hl2 hl3 li0 li1 li2 li3 hlen0 hlen1 hlen2 hlen3 hN0 hN1 hN2 hN3 p0 p1 p2 p3 hs0 hs1 hs2 hs3 hP hQ hR hT he1 sa1 sb1 se1 en1 eo1 ea1 eb1 lq1 he2 sa2 sb2 se2 en2 eo2 ea2 eb2 lq2 he3 sa3 sb3 se3 en3 eo3 ea3 eb3 lq3 hX2 lx2 sx2 hX3 lx3 sx3 hX4 lx4 sx4 mff o12 o23 o23b o34 o34b hPs hP0 hP1 hP2 hP3 hcl ex1 ey1 ox1 oy1 hle1 pk1 dg1 lg1 ex2 ey2 ox2 oy2 hle2 pk2 dg2 lg2 ex3 ey3 ox3 oy3 hle3 pk3 dg3 lg3 HFF hsf hf12 hf1 ofo hf0 hf60 HTM HTW
   generalize qstr (mn1 (X2 * gs f 1)) = d2 at HG2 HH2
   generalize qstr (mn1 (X3 * gs f 2)) = d3 at HG3 HH3
   generalize qstr (mn1 (X4 * gs f 3)) = d4 at HG4 HH4
   generalize qstr (f ^ 1) = f2 at HG2 HH2
   generalize qstr (f ^ 2) = f3 at HG3 HH3
   generalize qstr (f ^ 3) = f4 at HG4 HH4
   generalize qstr X2 = x2 at HLE1 HG2 HM2
   generalize qstr X3 = x3 at HM2 HG3 HM3
   generalize qstr X4 = x4 at HM3 HG4
   generalize qstr e2 = l2 at HLE2 HM2
   generalize qstr e3 = l3 at HLE3 HM3
   go_wp2_with fail
   refine (HFC.out _).mono ?_
   rintro e w3 ⟨rfl, hb⟩
   have HB3 := Lib.hid hb
   clear hb HFC
   go_wp2_with fail
   refine wp_world (Below.refl w3.heap.size w3) (fun wx hbx => ?_)
   have HB4 := Lib.hid (HB3.out.trans (hbx.mono HB3.out.size))
   clear hbx HB3
   refine wp_region_held (S := fun W => Below wx.heap.size wx W) (by kernel_rfl) ?_
   change wpAnyH _ _ _ _ _ 10 _ _ wx.drew
   have hD0 := (Below.refl wx.heap.size wx).drew
   generalize wx.drew = W at *
   refine wpHz_take (i := 0) (d := 35) (v := .slice (some ⟨g, 0, none⟩) 4 cl) rfl rfl (by kernel_rfl) (by kernel_rfl) (by kernel_rfl) (fun _ _ _ h => h) rfl (fun W _ => by go_simp) hD0 ?_
   simp only [Act.put, sA, sB, sC]
   refine wpHz_take (i := 1) (d := 36) (v := .pointer (some ⟨g, 0, none⟩)) rfl rfl (by kernel_rfl) (by kernel_rfl) (by kernel_rfl) (fun _ _ _ h => h) rfl (fun W _ => by go_simp) hD0 ?_
   simp only [Act.put, sA, sB, sC]
   refine wpHz_take (i := 2) (d := 37) (v := .slice a0 N0 q0) rfl rfl (by kernel_rfl) (by kernel_rfl) (by kernel_rfl) (fun _ _ _ h => h) rfl (fun W hW => by have e0 := (HLC.out W (HB4.out.trans (hW.mono HB4.out.size))).1; go_simp) hD0 ?_
   simp only [Act.put, sA, sB, sC]
   refine wpHz_take (i := 3) (d := 38) (v := .slice (some ⟨g, 0, none⟩) 4 cl) rfl rfl (by kernel_rfl) (by kernel_rfl) (by kernel_rfl) (fun _ _ _ h => h) rfl (fun W _ => by go_simp) hD0 ?_
   simp only [Act.put, sA, sB, sC]
   refine wpHz_take (i := 4) (d := 39) (v := .pointer (some ⟨g, 1, none⟩)) rfl rfl (by kernel_rfl) (by kernel_rfl) (by kernel_rfl) (fun _ _ _ h => h) rfl (fun W _ => by go_simp) hD0 ?_
   simp only [Act.put, sA, sB, sC]
   refine wpHz_take (i := 5) (d := 40) (v := .slice a1 N1 q1) rfl rfl (by kernel_rfl) (by kernel_rfl) (by kernel_rfl) (fun _ _ _ h => h) rfl (fun W hW => by have e0 := (HLC.out W (HB4.out.trans (hW.mono HB4.out.size))).2.1; go_simp) hD0 ?_
   simp only [Act.put, sA, sB, sC]
   refine wpHz_take (i := 6) (d := 41) (v := .string s) rfl rfl (by kernel_rfl) (by kernel_rfl) (by kernel_rfl) (fun _ _ _ h => h) rfl (fun W _ => by go_simp) hD0 ?_
   simp only [Act.put, sA, sB, sC]
   refine wpHz_two (i := 7) (j := 8) (by kernel_rfl) ?wa ?wb
   case' wa =>
    refine wpOz_run rfl rfl (wpz_enter (d := 42) rfl (by go_simp) ((HLE1.out _ (HB4.out.trans (hD0.mono HB4.out.size))).mono ?_))
    rintro e u1 ⟨rfl, hb⟩
    have hD1 : Below wx.heap.size wx u1 := hD0.trans (hb.mono hD0.size)
    clear hb
    refine ⟨_, rfl, hD1, ?_⟩
    simp only [Act.put, sA, sB, sC]
    refine wpHz_one (i := 8) (by kernel_rfl) ?_
    have hD2 := hD1.alloc hD1.size (.cells #[.string ⟨#[]⟩, .string ⟨#[]⟩] 24)
    have hgz : wx.heap.size ≤ u1.heap.size := hD1.size
    have hz0 : RB w2 (u1.alloc (.cells #[.string ⟨#[]⟩, .string ⟨#[]⟩] 24)) u1.heap.size ⟨#[]⟩ ⟨#[]⟩ := RB.new ((HB4.out.trans (hD1.mono HB4.out.size))).size
    refine wpOz_run rfl rfl (wpz_value (v := .pointer (some ⟨u1.heap.size, 0, none⟩)) (w' := u1.alloc (.cells #[.string ⟨#[]⟩, .string ⟨#[]⟩] 24)) (d := 13) rfl (by go_simp) ⟨hD2, ?_⟩)
    simp only [Act.put, sA, sB, sC]
    generalize u1.heap.size = gz at hz0 hgz ⊢
    generalize u1.alloc (.cells #[.string ⟨#[]⟩, .string ⟨#[]⟩] 24) = u2 at hz0 hD2 ⊢
   case' wb =>
    have hD1 := hD0.alloc hD0.size (.cells #[.string ⟨#[]⟩, .string ⟨#[]⟩] 24)
    have hgz : wx.heap.size ≤ W.heap.size := hD0.size
    have hz0 : RB w2 (W.alloc (.cells #[.string ⟨#[]⟩, .string ⟨#[]⟩] 24)) W.heap.size ⟨#[]⟩ ⟨#[]⟩ := RB.new ((HB4.out.trans (hD0.mono HB4.out.size))).size
    refine wpOz_run rfl rfl (wpz_value (v := .pointer (some ⟨W.heap.size, 0, none⟩)) (w' := W.alloc (.cells #[.string ⟨#[]⟩, .string ⟨#[]⟩] 24)) (d := 13) rfl (by go_simp) ⟨hD1, ?_⟩)
    simp only [Act.put, sA, sB, sC]
    generalize W.heap.size = gz at hz0 hgz ⊢
    generalize W.alloc (.cells #[.string ⟨#[]⟩, .string ⟨#[]⟩] 24) = u1 at hz0 hD1 ⊢
    refine wpHz_one (i := 7) (by kernel_rfl) ?_
    refine wpOz_run rfl rfl (wpz_enter (d := 42) rfl (by go_simp) ((HLE1.out _ (HB4.out.trans (hD1.mono HB4.out.size))).mono ?_))
    rintro e u2 ⟨rfl, hb⟩
    have hD2 : Below wx.heap.size wx u2 := hD1.trans (hb.mono hD1.size)
    have hz0 := hz0.below hb
    clear hb
    refine ⟨_, rfl, hD2, ?_⟩
    simp only [Act.put, sA, sB, sC]
   all_goals (
    refine wpHz_one (i := 9) (by kernel_rfl) ?_
    have hset := hz0.set s x2
    have hD4 := (hD2.setCell (p := ⟨gz, 0, none⟩) hgz (.string s)).setCell (p := ⟨gz, 1, none⟩) hgz (.string x2)
    have HGZ := Lib.hid hz0.ge
    obtain ⟨_, _, zz0, zz1, zz2, zz3⟩ := hz0
    refine wpOz_run rfl rfl (wpz_skip (w' := ((u2.setCell ⟨gz, 0, none⟩ (.string s)).setCell ⟨gz, 1, none⟩ (.string x2))) rfl (by go_simp) ⟨hD4, ?_⟩)
    clear zz0 zz1 zz2 zz3 hgz hD2 hD1 hD0
    generalize ((u2.setCell ⟨gz, 0, none⟩ (.string s)).setCell ⟨gz, 1, none⟩ (.string x2)) = u4 at hset hD4 ⊢
    refine wpAnyH_done (by kernel_rfl) ?_ _
    have HB5 := Lib.hid (HB4.out.trans (hD4.mono HB4.out.size))
    have HX := Lib.hid hset
    clear hset hD4 HB4 HLE1
    go_wp2_with fail
    go_loopw [14] (fun iv wr => ∃ sx, GrpR x2 x3 x4 iv sx ∧ RB w2 wr gz s sx ∧ Below w2.heap.size w2 wr) (fun iv _ => 5 - (intOf iv).toNat)
    case atStart => exact ⟨x2, .inl ⟨rfl, rfl⟩, HX.out, HB5.out⟩
    case round =>
     obtain ⟨sx, hgr, hxx, hb⟩ := hrel
     have HBR := Lib.hid hb
     have HXX := Lib.hid hxx
     clear hb hxx HX HB5
     rcases hgr with ⟨rfl, rfl⟩ | ⟨rfl, rfl⟩ | ⟨rfl, rfl⟩ | rfl
     ·have c0 := HXX.out.c0
      have c1 := HXX.out.c1
      go_wp2_with fail
      refine (HG2.out _ HBR.out).mono ?_
      rintro e w6 ⟨rfl, hb⟩
      have HB6 := Lib.hid (HBR.out.trans (hb.mono HBR.out.size))
      have HX6 := Lib.hid (HXX.out.below hb)
      clear hb HBR HXX c0 c1
      have ba := (Below.refl w6.heap.size w6).alloc (Nat.le_refl _) (.cells #[.string f2, .string d2] 24)
      have HY := Lib.hid (show RB w2 (w6.alloc (.cells #[.string f2, .string d2] 24)) w6.heap.size f2 d2 from RB.new HB6.out.size)
      have HX7 := Lib.hid (HX6.out.below ba)
      have HB7 := Lib.hid (HB6.out.trans (ba.mono HB6.out.size))
      clear ba HX6
      go_wp2_with fail
      refine wp_world (Below.refl (w6.alloc (.cells #[.string f2, .string d2] 24)).heap.size (w6.alloc (.cells #[.string f2, .string d2] 24))) (fun wx hbx => ?_)
      have HB8 := Lib.hid (HB7.out.trans (hbx.mono HB7.out.size))
      have HY8 := Lib.hid (HY.out.below hbx)
      have HX8 := Lib.hid (HX7.out.below hbx)
      clear hbx HB7 HY HX7 HB6
      refine wp_region_held (S := fun W => Below wx.heap.size wx W) (by kernel_rfl) ?_
      change wpAnyH _ _ _ _ _ 12 _ _ wx.drew
      have hD0 := (Below.refl wx.heap.size wx).drew
      generalize wx.drew = W at *
      refine wpHz_take (i := 0) (d := 56) (v := .agg #[.string f2, .string d2]) rfl rfl (by kernel_rfl) (by kernel_rfl) (by kernel_rfl) (fun _ _ _ h => h) rfl (fun W hW => by have e0 := (HY8.out.below hW).c0; have e1 := (HY8.out.below hW).c1; go_simp) hD0 ?_
      simp only [Act.put, sA, sB, sC]
      refine wpHz_take (i := 1) (d := 57) (v := .int .i64 0) rfl rfl (by kernel_rfl) (by kernel_rfl) (by kernel_rfl) (fun _ _ _ h => h) rfl (fun W _ => by go_simp) hD0 ?_
      simp only [Act.put, sA, sB, sC]
      refine wpHz_take (i := 2) (d := 58) (v := .slice (some ⟨g, 0, none⟩) 4 cl) rfl rfl (by kernel_rfl) (by kernel_rfl) (by kernel_rfl) (fun _ _ _ h => h) rfl (fun W _ => by go_simp) hD0 ?_
      simp only [Act.put, sA, sB, sC]
      refine wpHz_take (i := 3) (d := 59) (v := .pointer (some ⟨g, 0, none⟩)) rfl rfl (by kernel_rfl) (by kernel_rfl) (by kernel_rfl) (fun _ _ _ h => h) rfl (fun W _ => by go_simp) hD0 ?_
      simp only [Act.put, sA, sB, sC]
      refine wpHz_take (i := 4) (d := 60) (v := .slice a0 N0 q0) rfl rfl (by kernel_rfl) (by kernel_rfl) (by kernel_rfl) (fun _ _ _ h => h) rfl (fun W hW => by have e0 := (HLC.out W (HB8.out.trans (hW.mono HB8.out.size))).1; go_simp) hD0 ?_
      simp only [Act.put, sA, sB, sC]
      refine wpHz_take (i := 5) (d := 61) (v := .slice (some ⟨g, 0, none⟩) 4 cl) rfl rfl (by kernel_rfl) (by kernel_rfl) (by kernel_rfl) (fun _ _ _ h => h) rfl (fun W _ => by go_simp) hD0 ?_
      simp only [Act.put, sA, sB, sC]
      refine wpHz_take (i := 6) (d := 62) (v := .int .i64 2) rfl rfl (by kernel_rfl) (by kernel_rfl) (by kernel_rfl) (fun _ _ _ h => h) rfl (fun W _ => by go_simp) hD0 ?_
      simp only [Act.put, sA, sB, sC]
      refine wpHz_take (i := 7) (d := 63) (v := .int .i64 1) rfl rfl (by kernel_rfl) (by kernel_rfl) (by kernel_rfl) (fun _ _ _ h => h) rfl (fun W _ => by go_simp; rfl) hD0 ?_
      simp only [Act.put, sA, sB, sC]
      refine wpHz_take (i := 8) (d := 64) (v := .pointer (some ⟨g, 1, none⟩)) rfl rfl (by kernel_rfl) (by kernel_rfl) (by kernel_rfl) (fun _ _ _ h => h) rfl (fun W _ => by go_simp) hD0 ?_
      simp only [Act.put, sA, sB, sC]
      refine wpHz_take (i := 9) (d := 65) (v := .slice a1 N1 q1) rfl rfl (by kernel_rfl) (by kernel_rfl) (by kernel_rfl) (fun _ _ _ h => h) rfl (fun W hW => by have e0 := (HLC.out W (HB8.out.trans (hW.mono HB8.out.size))).2.1; go_simp) hD0 ?_
      simp only [Act.put, sA, sB, sC]
      refine wpHz_one (i := 10) (by kernel_rfl) ?_
      refine wpOz_run rfl rfl (wpz_enter (d := 66) rfl (by go_simp) ((HH2.out _ (HB8.out.trans (hD0.mono HB8.out.size))).mono ?_))
      rintro e u1 ⟨rfl, hb⟩
      have hD1 : Below wx.heap.size wx u1 := hD0.trans (hb.mono hD0.size)
      clear hb
      refine ⟨_, rfl, hD1, ?_⟩
      simp only [Act.put, sA, sB, sC]
      refine wpHz_take (i := 11) (d := 67) (v := .bool false) rfl rfl (by kernel_rfl) (by kernel_rfl) (by kernel_rfl) (fun _ _ _ h => h) rfl (fun W _ => by go_simp) hD1 ?_
      simp only [Act.put, sA, sB, sC]
      refine wpAnyH_done (by kernel_rfl) ?_ _
      have HB9 := Lib.hid (HB8.out.trans (hD1.mono HB8.out.size))
      have HX9 := Lib.hid (HX8.out.below hD1)
      clear hD0 hD1 HX8 HY8 HB8
      go_wp2_with fail
      refine wp_world (Below.refl u1.heap.size u1) (fun wx hbx => ?_)
      have HB10 := Lib.hid (HB9.out.trans (hbx.mono HB9.out.size))
      have HX10 := Lib.hid (HX9.out.below hbx)
      clear hbx HB9 HX9
      refine wp_region_held (S := fun W => Ch (fun j => j = gz) wx W) (by kernel_rfl) ?_
      change wpAnyH _ _ _ _ _ 17 _ _ wx.drew
      have hB0 := (Below.refl wx.heap.size wx).drew
      have hD0 : Ch (fun j => j = gz) wx wx.drew := Ch.below hB0
      generalize wx.drew = W at *
      refine wpHz_take (i := 1) (d := 74) (v := .slice (some ⟨g, 0, none⟩) 4 cl) rfl rfl (by kernel_rfl) (by kernel_rfl) (by kernel_rfl) (fun _ _ _ h => h) rfl (fun W _ => by go_simp) hD0 ?_
      simp only [Act.put, sA, sB, sC]
      refine wpHz_take (i := 2) (d := 75) (v := .int .i64 2) rfl rfl (by kernel_rfl) (by kernel_rfl) (by kernel_rfl) (fun _ _ _ h => h) rfl (fun W _ => by go_simp) hD0 ?_
      simp only [Act.put, sA, sB, sC]
      refine wpHz_take (i := 3) (d := 76) (v := .int .i64 1) rfl rfl (by kernel_rfl) (by kernel_rfl) (by kernel_rfl) (fun _ _ _ h => h) rfl (fun W _ => by go_simp; rfl) hD0 ?_
      simp only [Act.put, sA, sB, sC]
      refine wpHz_take (i := 4) (d := 77) (v := .pointer (some ⟨g, 1, none⟩)) rfl rfl (by kernel_rfl) (by kernel_rfl) (by kernel_rfl) (fun _ _ _ h => h) rfl (fun W _ => by go_simp) hD0 ?_
      simp only [Act.put, sA, sB, sC]
      refine wpHz_take (i := 5) (d := 78) (v := .slice a1 N1 q1) rfl rfl (by kernel_rfl) (by kernel_rfl) (by kernel_rfl) (fun _ _ _ h => h) rfl (fun W hW => by have e0 := (HLC.out W (HB10.out.trans ((hW).to_below HB10.out.size (fun j e => by have h1 := HGZ.out; omega)))).2.1; go_simp) hD0 ?_
      simp only [Act.put, sA, sB, sC]
      refine wpHz_take (i := 6) (d := 79) (v := .slice (some ⟨g, 0, none⟩) 4 cl) rfl rfl (by kernel_rfl) (by kernel_rfl) (by kernel_rfl) (fun _ _ _ h => h) rfl (fun W _ => by go_simp) hD0 ?_
      simp only [Act.put, sA, sB, sC]
      refine wpHz_take (i := 7) (d := 80) (v := .int .i64 2) rfl rfl (by kernel_rfl) (by kernel_rfl) (by kernel_rfl) (fun _ _ _ h => h) rfl (fun W _ => by go_simp) hD0 ?_
      simp only [Act.put, sA, sB, sC]
      refine wpHz_take (i := 8) (d := 81) (v := .pointer (some ⟨g, 2, none⟩)) rfl rfl (by kernel_rfl) (by kernel_rfl) (by kernel_rfl) (fun _ _ _ h => h) rfl (fun W _ => by go_simp) hD0 ?_
      simp only [Act.put, sA, sB, sC]
      refine wpHz_take (i := 9) (d := 82) (v := .slice a2 N2 q2) rfl rfl (by kernel_rfl) (by kernel_rfl) (by kernel_rfl) (fun _ _ _ h => h) rfl (fun W hW => by have e0 := (HLC.out W (HB10.out.trans ((hW).to_below HB10.out.size (fun j e => by have h1 := HGZ.out; omega)))).2.2.1; go_simp) hD0 ?_
      simp only [Act.put, sA, sB, sC]
      refine wpHz_take (i := 10) (d := 83) (v := .string s) rfl rfl (by kernel_rfl) (by kernel_rfl) (by kernel_rfl) (fun _ _ _ h => h) rfl (fun W _ => by go_simp) hD0 ?_
      simp only [Act.put, sA, sB, sC]
      have hxw := HX10.out.below hB0
      clear hB0
      refine wpHz_two (i := 0) (j := 11) (by kernel_rfl) ?_ ?_
      refine wpOz_run rfl rfl (wpz_value (v := .agg #[.string s, .string x2]) (w' := W) (d := 73) rfl (by have e0 := hxw.c0; have e1 := hxw.c1; go_simp) ⟨hD0, ?_⟩)
      simp only [Act.put, sA, sB, sC]
      refine wpHz_one (i := 11) (by kernel_rfl) ?_
      refine wpOz_run rfl rfl (wpz_enter (d := 84) rfl (by go_simp) ((HLE2.out _ (HB10.out.trans ((hD0).to_below HB10.out.size (fun j e => by have h1 := HGZ.out; omega)))).mono ?_))
      rintro e v1 ⟨rfl, hb⟩
      have hD1 : Ch (fun j => j = gz) wx v1 := hD0.trans (Ch.below hb)
      have hxw := hxw.below hb
      clear hb
      refine ⟨_, rfl, hD1, ?_⟩
      simp only [Act.put, sA, sB, sC]
      rotate_left
      refine wpOz_run rfl rfl (wpz_enter (d := 84) rfl (by go_simp) ((HLE2.out _ (HB10.out.trans ((hD0).to_below HB10.out.size (fun j e => by have h1 := HGZ.out; omega)))).mono ?_))
      rintro e v1 ⟨rfl, hb⟩
      have hD1 : Ch (fun j => j = gz) wx v1 := hD0.trans (Ch.below hb)
      have hxw := hxw.below hb
      clear hb
      refine ⟨_, rfl, hD1, ?_⟩
      simp only [Act.put, sA, sB, sC]
      refine wpHz_one (i := 0) (by kernel_rfl) ?_
      refine wpOz_run rfl rfl (wpz_value (v := .agg #[.string s, .string x2]) (w' := v1) (d := 73) rfl (by have e0 := hxw.c0; have e1 := hxw.c1; go_simp) ⟨hD1, ?_⟩)
      simp only [Act.put, sA, sB, sC]
      all_goals (
       refine wpHz_one (i := 12) (by kernel_rfl) ?_
       refine wpOz_run rfl rfl (wpz_enter (d := 85) rfl (by go_simp) ((HM2.out _).mono ?_))
       rintro e v2 ⟨rfl, hb⟩
       have hD2 : Ch (fun j => j = gz) wx v2 := hD1.trans (Ch.below hb)
       have hxw := hxw.below hb
       clear hb
       refine ⟨_, rfl, hD2, ?_⟩
       simp only [Act.put, sA, sB, sC]
       refine wpHz_take (i := 13) (d := 72) (v := .tuple #[.agg #[.string s, .string x3], .int .i64 0]) rfl rfl (by kernel_rfl) (by kernel_rfl) (by kernel_rfl) (fun _ _ _ h => h) rfl (fun W _ => by go_simp) hD2 ?_
       simp only [Act.put, sA, sB, sC]
       refine wpHz_take (i := 14) (d := 86) (v := .agg #[.string s, .string x3]) rfl rfl (by kernel_rfl) (by kernel_rfl) (by kernel_rfl) (fun _ _ _ h => h) rfl (fun W _ => by go_simp) hD2 ?_
       simp only [Act.put, sA, sB, sC]
       refine wpHz_take (i := 15) (d := 87) (v := .int .i64 0) rfl rfl (by kernel_rfl) (by kernel_rfl) (by kernel_rfl) (fun _ _ _ h => h) rfl (fun W _ => by go_simp) hD2 ?_
       simp only [Act.put, sA, sB, sC]
       refine wpHz_one (i := 16) (by kernel_rfl) ?_
       have hset := hxw.set s x3
       obtain ⟨_, _, zz0, zz1, zz2, zz3⟩ := hxw
       have hD3 : Ch (fun j => j = gz) wx ((v2.setCell ⟨gz, 0, none⟩ (.string s)).setCell ⟨gz, 1, none⟩ (.string x3)) := (hD2.trans (Ch.setCell _ _ _ rfl)).trans (Ch.setCell _ _ _ rfl)
       refine wpOz_run rfl rfl (wpz_skip (w' := ((v2.setCell ⟨gz, 0, none⟩ (.string s)).setCell ⟨gz, 1, none⟩ (.string x3))) rfl (by go_simp) ⟨hD3, ?_⟩)
       clear zz0 zz1 zz2 zz3 hD2 hD1 hD0
       generalize ((v2.setCell ⟨gz, 0, none⟩ (.string s)).setCell ⟨gz, 1, none⟩ (.string x3)) = u4 at hset hD3 ⊢
       refine wpAnyH_done (by kernel_rfl) ?_ _
       have HB11 := Lib.hid (HB10.out.trans ((hD3).to_below HB10.out.size (fun j e => by have h1 := HGZ.out; omega)))
       have HX11 := Lib.hid hset
       clear hset hD3 HB10 HX10
       go_wp2_with fail
       go_roundw
       case rel => exact ⟨_, .inr (.inl ⟨rfl, rfl⟩), HX11.out, HB11.out⟩
       case measure => simp [intOf])
     ·have c0 := HXX.out.c0
      have c1 := HXX.out.c1
      go_wp2_with fail
      refine (HG3.out _ HBR.out).mono ?_
      rintro e w6 ⟨rfl, hb⟩
      have HB6 := Lib.hid (HBR.out.trans (hb.mono HBR.out.size))
      have HX6 := Lib.hid (HXX.out.below hb)
      clear hb HBR HXX c0 c1
      have ba := (Below.refl w6.heap.size w6).alloc (Nat.le_refl _) (.cells #[.string f3, .string d3] 24)
      have HY := Lib.hid (show RB w2 (w6.alloc (.cells #[.string f3, .string d3] 24)) w6.heap.size f3 d3 from RB.new HB6.out.size)
      have HX7 := Lib.hid (HX6.out.below ba)
      have HB7 := Lib.hid (HB6.out.trans (ba.mono HB6.out.size))
      clear ba HX6
      go_wp2_with fail
      refine wp_world (Below.refl (w6.alloc (.cells #[.string f3, .string d3] 24)).heap.size (w6.alloc (.cells #[.string f3, .string d3] 24))) (fun wx hbx => ?_)
      have HB8 := Lib.hid (HB7.out.trans (hbx.mono HB7.out.size))
      have HY8 := Lib.hid (HY.out.below hbx)
      have HX8 := Lib.hid (HX7.out.below hbx)
      clear hbx HB7 HY HX7 HB6
      refine wp_region_held (S := fun W => Below wx.heap.size wx W) (by kernel_rfl) ?_
      change wpAnyH _ _ _ _ _ 12 _ _ wx.drew
      have hD0 := (Below.refl wx.heap.size wx).drew
      generalize wx.drew = W at *
      refine wpHz_take (i := 0) (d := 56) (v := .agg #[.string f3, .string d3]) rfl rfl (by kernel_rfl) (by kernel_rfl) (by kernel_rfl) (fun _ _ _ h => h) rfl (fun W hW => by have e0 := (HY8.out.below hW).c0; have e1 := (HY8.out.below hW).c1; go_simp) hD0 ?_
      simp only [Act.put, sA, sB, sC]
      refine wpHz_take (i := 1) (d := 57) (v := .int .i64 0) rfl rfl (by kernel_rfl) (by kernel_rfl) (by kernel_rfl) (fun _ _ _ h => h) rfl (fun W _ => by go_simp) hD0 ?_
      simp only [Act.put, sA, sB, sC]
      refine wpHz_take (i := 2) (d := 58) (v := .slice (some ⟨g, 0, none⟩) 4 cl) rfl rfl (by kernel_rfl) (by kernel_rfl) (by kernel_rfl) (fun _ _ _ h => h) rfl (fun W _ => by go_simp) hD0 ?_
      simp only [Act.put, sA, sB, sC]
      refine wpHz_take (i := 3) (d := 59) (v := .pointer (some ⟨g, 0, none⟩)) rfl rfl (by kernel_rfl) (by kernel_rfl) (by kernel_rfl) (fun _ _ _ h => h) rfl (fun W _ => by go_simp) hD0 ?_
      simp only [Act.put, sA, sB, sC]
      refine wpHz_take (i := 4) (d := 60) (v := .slice a0 N0 q0) rfl rfl (by kernel_rfl) (by kernel_rfl) (by kernel_rfl) (fun _ _ _ h => h) rfl (fun W hW => by have e0 := (HLC.out W (HB8.out.trans (hW.mono HB8.out.size))).1; go_simp) hD0 ?_
      simp only [Act.put, sA, sB, sC]
      refine wpHz_take (i := 5) (d := 61) (v := .slice (some ⟨g, 0, none⟩) 4 cl) rfl rfl (by kernel_rfl) (by kernel_rfl) (by kernel_rfl) (fun _ _ _ h => h) rfl (fun W _ => by go_simp) hD0 ?_
      simp only [Act.put, sA, sB, sC]
      refine wpHz_take (i := 6) (d := 62) (v := .int .i64 3) rfl rfl (by kernel_rfl) (by kernel_rfl) (by kernel_rfl) (fun _ _ _ h => h) rfl (fun W _ => by go_simp) hD0 ?_
      simp only [Act.put, sA, sB, sC]
      refine wpHz_take (i := 7) (d := 63) (v := .int .i64 2) rfl rfl (by kernel_rfl) (by kernel_rfl) (by kernel_rfl) (fun _ _ _ h => h) rfl (fun W _ => by go_simp; rfl) hD0 ?_
      simp only [Act.put, sA, sB, sC]
      refine wpHz_take (i := 8) (d := 64) (v := .pointer (some ⟨g, 2, none⟩)) rfl rfl (by kernel_rfl) (by kernel_rfl) (by kernel_rfl) (fun _ _ _ h => h) rfl (fun W _ => by go_simp) hD0 ?_
      simp only [Act.put, sA, sB, sC]
      refine wpHz_take (i := 9) (d := 65) (v := .slice a2 N2 q2) rfl rfl (by kernel_rfl) (by kernel_rfl) (by kernel_rfl) (fun _ _ _ h => h) rfl (fun W hW => by have e0 := (HLC.out W (HB8.out.trans (hW.mono HB8.out.size))).2.2.1; go_simp) hD0 ?_
      simp only [Act.put, sA, sB, sC]
      refine wpHz_one (i := 10) (by kernel_rfl) ?_
      refine wpOz_run rfl rfl (wpz_enter (d := 66) rfl (by go_simp) ((HH3.out _ (HB8.out.trans (hD0.mono HB8.out.size))).mono ?_))
      rintro e u1 ⟨rfl, hb⟩
      have hD1 : Below wx.heap.size wx u1 := hD0.trans (hb.mono hD0.size)
      clear hb
      refine ⟨_, rfl, hD1, ?_⟩
      simp only [Act.put, sA, sB, sC]
      refine wpHz_take (i := 11) (d := 67) (v := .bool false) rfl rfl (by kernel_rfl) (by kernel_rfl) (by kernel_rfl) (fun _ _ _ h => h) rfl (fun W _ => by go_simp) hD1 ?_
      simp only [Act.put, sA, sB, sC]
      refine wpAnyH_done (by kernel_rfl) ?_ _
      have HB9 := Lib.hid (HB8.out.trans (hD1.mono HB8.out.size))
      have HX9 := Lib.hid (HX8.out.below hD1)
      clear hD0 hD1 HX8 HY8 HB8
      go_wp2_with fail
      refine wp_world (Below.refl u1.heap.size u1) (fun wx hbx => ?_)
      have HB10 := Lib.hid (HB9.out.trans (hbx.mono HB9.out.size))
      have HX10 := Lib.hid (HX9.out.below hbx)
      clear hbx HB9 HX9
      refine wp_region_held (S := fun W => Ch (fun j => j = gz) wx W) (by kernel_rfl) ?_
      change wpAnyH _ _ _ _ _ 17 _ _ wx.drew
      have hB0 := (Below.refl wx.heap.size wx).drew
      have hD0 : Ch (fun j => j = gz) wx wx.drew := Ch.below hB0
      generalize wx.drew = W at *
      refine wpHz_take (i := 1) (d := 74) (v := .slice (some ⟨g, 0, none⟩) 4 cl) rfl rfl (by kernel_rfl) (by kernel_rfl) (by kernel_rfl) (fun _ _ _ h => h) rfl (fun W _ => by go_simp) hD0 ?_
      simp only [Act.put, sA, sB, sC]
      refine wpHz_take (i := 2) (d := 75) (v := .int .i64 3) rfl rfl (by kernel_rfl) (by kernel_rfl) (by kernel_rfl) (fun _ _ _ h => h) rfl (fun W _ => by go_simp) hD0 ?_
      simp only [Act.put, sA, sB, sC]
      refine wpHz_take (i := 3) (d := 76) (v := .int .i64 2) rfl rfl (by kernel_rfl) (by kernel_rfl) (by kernel_rfl) (fun _ _ _ h => h) rfl (fun W _ => by go_simp; rfl) hD0 ?_
      simp only [Act.put, sA, sB, sC]
      refine wpHz_take (i := 4) (d := 77) (v := .pointer (some ⟨g, 2, none⟩)) rfl rfl (by kernel_rfl) (by kernel_rfl) (by kernel_rfl) (fun _ _ _ h => h) rfl (fun W _ => by go_simp) hD0 ?_
      simp only [Act.put, sA, sB, sC]
      refine wpHz_take (i := 5) (d := 78) (v := .slice a2 N2 q2) rfl rfl (by kernel_rfl) (by kernel_rfl) (by kernel_rfl) (fun _ _ _ h => h) rfl (fun W hW => by have e0 := (HLC.out W (HB10.out.trans ((hW).to_below HB10.out.size (fun j e => by have h1 := HGZ.out; omega)))).2.2.1; go_simp) hD0 ?_
      simp only [Act.put, sA, sB, sC]
      refine wpHz_take (i := 6) (d := 79) (v := .slice (some ⟨g, 0, none⟩) 4 cl) rfl rfl (by kernel_rfl) (by kernel_rfl) (by kernel_rfl) (fun _ _ _ h => h) rfl (fun W _ => by go_simp) hD0 ?_
      simp only [Act.put, sA, sB, sC]
      refine wpHz_take (i := 7) (d := 80) (v := .int .i64 3) rfl rfl (by kernel_rfl) (by kernel_rfl) (by kernel_rfl) (fun _ _ _ h => h) rfl (fun W _ => by go_simp) hD0 ?_
      simp only [Act.put, sA, sB, sC]
      refine wpHz_take (i := 8) (d := 81) (v := .pointer (some ⟨g, 3, none⟩)) rfl rfl (by kernel_rfl) (by kernel_rfl) (by kernel_rfl) (fun _ _ _ h => h) rfl (fun W _ => by go_simp) hD0 ?_
      simp only [Act.put, sA, sB, sC]
      refine wpHz_take (i := 9) (d := 82) (v := .slice a3 N3 q3) rfl rfl (by kernel_rfl) (by kernel_rfl) (by kernel_rfl) (fun _ _ _ h => h) rfl (fun W hW => by have e0 := (HLC.out W (HB10.out.trans ((hW).to_below HB10.out.size (fun j e => by have h1 := HGZ.out; omega)))).2.2.2; go_simp) hD0 ?_
      simp only [Act.put, sA, sB, sC]
      refine wpHz_take (i := 10) (d := 83) (v := .string s) rfl rfl (by kernel_rfl) (by kernel_rfl) (by kernel_rfl) (fun _ _ _ h => h) rfl (fun W _ => by go_simp) hD0 ?_
      simp only [Act.put, sA, sB, sC]
      have hxw := HX10.out.below hB0
      clear hB0
      refine wpHz_two (i := 0) (j := 11) (by kernel_rfl) ?_ ?_
      refine wpOz_run rfl rfl (wpz_value (v := .agg #[.string s, .string x3]) (w' := W) (d := 73) rfl (by have e0 := hxw.c0; have e1 := hxw.c1; go_simp) ⟨hD0, ?_⟩)
      simp only [Act.put, sA, sB, sC]
      refine wpHz_one (i := 11) (by kernel_rfl) ?_
      refine wpOz_run rfl rfl (wpz_enter (d := 84) rfl (by go_simp) ((HLE3.out _ (HB10.out.trans ((hD0).to_below HB10.out.size (fun j e => by have h1 := HGZ.out; omega)))).mono ?_))
      rintro e v1 ⟨rfl, hb⟩
      have hD1 : Ch (fun j => j = gz) wx v1 := hD0.trans (Ch.below hb)
      have hxw := hxw.below hb
      clear hb
      refine ⟨_, rfl, hD1, ?_⟩
      simp only [Act.put, sA, sB, sC]
      rotate_left
      refine wpOz_run rfl rfl (wpz_enter (d := 84) rfl (by go_simp) ((HLE3.out _ (HB10.out.trans ((hD0).to_below HB10.out.size (fun j e => by have h1 := HGZ.out; omega)))).mono ?_))
      rintro e v1 ⟨rfl, hb⟩
      have hD1 : Ch (fun j => j = gz) wx v1 := hD0.trans (Ch.below hb)
      have hxw := hxw.below hb
      clear hb
      refine ⟨_, rfl, hD1, ?_⟩
      simp only [Act.put, sA, sB, sC]
      refine wpHz_one (i := 0) (by kernel_rfl) ?_
      refine wpOz_run rfl rfl (wpz_value (v := .agg #[.string s, .string x3]) (w' := v1) (d := 73) rfl (by have e0 := hxw.c0; have e1 := hxw.c1; go_simp) ⟨hD1, ?_⟩)
      simp only [Act.put, sA, sB, sC]
      all_goals (
       refine wpHz_one (i := 12) (by kernel_rfl) ?_
       refine wpOz_run rfl rfl (wpz_enter (d := 85) rfl (by go_simp) ((HM3.out _).mono ?_))
       rintro e v2 ⟨rfl, hb⟩
       have hD2 : Ch (fun j => j = gz) wx v2 := hD1.trans (Ch.below hb)
       have hxw := hxw.below hb
       clear hb
       refine ⟨_, rfl, hD2, ?_⟩
       simp only [Act.put, sA, sB, sC]
       refine wpHz_take (i := 13) (d := 72) (v := .tuple #[.agg #[.string s, .string x4], .int .i64 0]) rfl rfl (by kernel_rfl) (by kernel_rfl) (by kernel_rfl) (fun _ _ _ h => h) rfl (fun W _ => by go_simp) hD2 ?_
       simp only [Act.put, sA, sB, sC]
       refine wpHz_take (i := 14) (d := 86) (v := .agg #[.string s, .string x4]) rfl rfl (by kernel_rfl) (by kernel_rfl) (by kernel_rfl) (fun _ _ _ h => h) rfl (fun W _ => by go_simp) hD2 ?_
       simp only [Act.put, sA, sB, sC]
       refine wpHz_take (i := 15) (d := 87) (v := .int .i64 0) rfl rfl (by kernel_rfl) (by kernel_rfl) (by kernel_rfl) (fun _ _ _ h => h) rfl (fun W _ => by go_simp) hD2 ?_
       simp only [Act.put, sA, sB, sC]
       refine wpHz_one (i := 16) (by kernel_rfl) ?_
       have hset := hxw.set s x4
       obtain ⟨_, _, zz0, zz1, zz2, zz3⟩ := hxw
       have hD3 : Ch (fun j => j = gz) wx ((v2.setCell ⟨gz, 0, none⟩ (.string s)).setCell ⟨gz, 1, none⟩ (.string x4)) := (hD2.trans (Ch.setCell _ _ _ rfl)).trans (Ch.setCell _ _ _ rfl)
       refine wpOz_run rfl rfl (wpz_skip (w' := ((v2.setCell ⟨gz, 0, none⟩ (.string s)).setCell ⟨gz, 1, none⟩ (.string x4))) rfl (by go_simp) ⟨hD3, ?_⟩)
       clear zz0 zz1 zz2 zz3 hD2 hD1 hD0
       generalize ((v2.setCell ⟨gz, 0, none⟩ (.string s)).setCell ⟨gz, 1, none⟩ (.string x4)) = u4 at hset hD3 ⊢
       refine wpAnyH_done (by kernel_rfl) ?_ _
       have HB11 := Lib.hid (HB10.out.trans ((hD3).to_below HB10.out.size (fun j e => by have h1 := HGZ.out; omega)))
       have HX11 := Lib.hid hset
       clear hset hD3 HB10 HX10
       go_wp2_with fail
       go_roundw
       case rel => exact ⟨_, .inr (.inr (.inl ⟨rfl, rfl⟩)), HX11.out, HB11.out⟩
       case measure => simp [intOf])
     ·have c0 := HXX.out.c0
      have c1 := HXX.out.c1
      go_wp2_with fail
      refine (HG4.out _ HBR.out).mono ?_
      rintro e w6 ⟨rfl, hb⟩
      have HB6 := Lib.hid (HBR.out.trans (hb.mono HBR.out.size))
      have HX6 := Lib.hid (HXX.out.below hb)
      clear hb HBR HXX c0 c1
      have ba := (Below.refl w6.heap.size w6).alloc (Nat.le_refl _) (.cells #[.string f4, .string d4] 24)
      have HY := Lib.hid (show RB w2 (w6.alloc (.cells #[.string f4, .string d4] 24)) w6.heap.size f4 d4 from RB.new HB6.out.size)
      have HX7 := Lib.hid (HX6.out.below ba)
      have HB7 := Lib.hid (HB6.out.trans (ba.mono HB6.out.size))
      clear ba HX6
      go_wp2_with fail
      refine wp_world (Below.refl (w6.alloc (.cells #[.string f4, .string d4] 24)).heap.size (w6.alloc (.cells #[.string f4, .string d4] 24))) (fun wx hbx => ?_)
      have HB8 := Lib.hid (HB7.out.trans (hbx.mono HB7.out.size))
      have HY8 := Lib.hid (HY.out.below hbx)
      have HX8 := Lib.hid (HX7.out.below hbx)
      clear hbx HB7 HY HX7 HB6
      refine wp_region_held (S := fun W => Below wx.heap.size wx W) (by kernel_rfl) ?_
      change wpAnyH _ _ _ _ _ 12 _ _ wx.drew
      have hD0 := (Below.refl wx.heap.size wx).drew
      generalize wx.drew = W at *
      refine wpHz_take (i := 0) (d := 56) (v := .agg #[.string f4, .string d4]) rfl rfl (by kernel_rfl) (by kernel_rfl) (by kernel_rfl) (fun _ _ _ h => h) rfl (fun W hW => by have e0 := (HY8.out.below hW).c0; have e1 := (HY8.out.below hW).c1; go_simp) hD0 ?_
      simp only [Act.put, sA, sB, sC]
      refine wpHz_take (i := 1) (d := 57) (v := .int .i64 0) rfl rfl (by kernel_rfl) (by kernel_rfl) (by kernel_rfl) (fun _ _ _ h => h) rfl (fun W _ => by go_simp) hD0 ?_
      simp only [Act.put, sA, sB, sC]
      refine wpHz_take (i := 2) (d := 58) (v := .slice (some ⟨g, 0, none⟩) 4 cl) rfl rfl (by kernel_rfl) (by kernel_rfl) (by kernel_rfl) (fun _ _ _ h => h) rfl (fun W _ => by go_simp) hD0 ?_
      simp only [Act.put, sA, sB, sC]
      refine wpHz_take (i := 3) (d := 59) (v := .pointer (some ⟨g, 0, none⟩)) rfl rfl (by kernel_rfl) (by kernel_rfl) (by kernel_rfl) (fun _ _ _ h => h) rfl (fun W _ => by go_simp) hD0 ?_
      simp only [Act.put, sA, sB, sC]
      refine wpHz_take (i := 4) (d := 60) (v := .slice a0 N0 q0) rfl rfl (by kernel_rfl) (by kernel_rfl) (by kernel_rfl) (fun _ _ _ h => h) rfl (fun W hW => by have e0 := (HLC.out W (HB8.out.trans (hW.mono HB8.out.size))).1; go_simp) hD0 ?_
      simp only [Act.put, sA, sB, sC]
      refine wpHz_take (i := 5) (d := 61) (v := .slice (some ⟨g, 0, none⟩) 4 cl) rfl rfl (by kernel_rfl) (by kernel_rfl) (by kernel_rfl) (fun _ _ _ h => h) rfl (fun W _ => by go_simp) hD0 ?_
      simp only [Act.put, sA, sB, sC]
      refine wpHz_take (i := 6) (d := 62) (v := .int .i64 4) rfl rfl (by kernel_rfl) (by kernel_rfl) (by kernel_rfl) (fun _ _ _ h => h) rfl (fun W _ => by go_simp) hD0 ?_
      simp only [Act.put, sA, sB, sC]
      refine wpHz_take (i := 7) (d := 63) (v := .int .i64 3) rfl rfl (by kernel_rfl) (by kernel_rfl) (by kernel_rfl) (fun _ _ _ h => h) rfl (fun W _ => by go_simp; rfl) hD0 ?_
      simp only [Act.put, sA, sB, sC]
      refine wpHz_take (i := 8) (d := 64) (v := .pointer (some ⟨g, 3, none⟩)) rfl rfl (by kernel_rfl) (by kernel_rfl) (by kernel_rfl) (fun _ _ _ h => h) rfl (fun W _ => by go_simp) hD0 ?_
      simp only [Act.put, sA, sB, sC]
      refine wpHz_take (i := 9) (d := 65) (v := .slice a3 N3 q3) rfl rfl (by kernel_rfl) (by kernel_rfl) (by kernel_rfl) (fun _ _ _ h => h) rfl (fun W hW => by have e0 := (HLC.out W (HB8.out.trans (hW.mono HB8.out.size))).2.2.2; go_simp) hD0 ?_
      simp only [Act.put, sA, sB, sC]
      refine wpHz_one (i := 10) (by kernel_rfl) ?_
      refine wpOz_run rfl rfl (wpz_enter (d := 66) rfl (by go_simp) ((HH4.out _ (HB8.out.trans (hD0.mono HB8.out.size))).mono ?_))
      rintro e u1 ⟨rfl, hb⟩
      have hD1 : Below wx.heap.size wx u1 := hD0.trans (hb.mono hD0.size)
      clear hb
      refine ⟨_, rfl, hD1, ?_⟩
      simp only [Act.put, sA, sB, sC]
      refine wpHz_take (i := 11) (d := 67) (v := .bool false) rfl rfl (by kernel_rfl) (by kernel_rfl) (by kernel_rfl) (fun _ _ _ h => h) rfl (fun W _ => by go_simp) hD1 ?_
      simp only [Act.put, sA, sB, sC]
      refine wpAnyH_done (by kernel_rfl) ?_ _
      have HB9 := Lib.hid (HB8.out.trans (hD1.mono HB8.out.size))
      have HX9 := Lib.hid (HX8.out.below hD1)
      clear hD0 hD1 HX8 HY8 HB8
      go_wp2_with fail
      go_roundw
      case rel => exact ⟨_, .inr (.inr (.inr rfl)), HX9.out, HB9.out⟩
      case measure => simp [intOf]
     ·go_wp2_with fail
      go_ret
      exact ⟨rfl, HB2.out.trans (HBR.out.mono HB2.out.size)⟩
    done)
end Go.Proofs.YtkponlbpgmnpgaaGreatDoor
