/-
  MomentDeltas is walked.
-/
import Derived.Test.YtkponlbpgmnpgaaGreatDoorHN
namespace Go.Proofs.YtkponlbpgmnpgaaGreatDoor
open Go.RowKit NV Go.Maps Go.Sort Go.Shelf
open Go.Lib (decDigits)
theorem pick_b (x n : Int) (hn : 1 ≤ n) (hn2 : n ≤ 9223372036854775807) (hx0 : -9223372036854775808 ≤ x) (hx1 : x ≤ 9223372036854775807) (w : World) :
  Calls Tryz.prog 71 #[.int .i64 x, .int .i64 n] w fun e w' => (∃ r : Nat, (r : Int) < n ∧ e = .returned (.int .i64 (r : Int))) ∧ Below w.heap.size w w' :=
 (lPick_any x n hn hn2 hx0 hx1 w).mono fun e w' h => ⟨h.1, by rw [← h.2]; exact Below.refl _ _⟩
set_option maxHeartbeats 6400000 in
set_option maxRecDepth 100000 in
theorem rHolds_ok {f d x y : ByteArray} {N M c1 c2 : Nat} {a1 a2 : Option Addr} {w : World}
  (k0 : ∀ W, Calls Tryz.prog 28 #[.agg #[.string f, .string d]] W (Er 0 W))
  (k1 : ∀ W, Below w.heap.size w W → Calls Tryz.prog 111 #[.slice a1 N c1, .slice a2 M c2, .string f] W fun e w' => e = .returned (.tuple #[.string x, .int .i64 0]) ∧ Below W.heap.size W w')
  (k2 : ∀ W, Below w.heap.size w W → Calls Tryz.prog 111 #[.slice a2 M c2, .slice a1 N c1, .string f] W fun e w' => e = .returned (.tuple #[.string y, .int .i64 0]) ∧ Below W.heap.size W w')
  (k3 : ∀ W, Calls Tryz.prog 83 #[.string x, .string d] W fun e w' => e = .returned (.bool true) ∧ Below W.heap.size W w')
  (k4 : ∀ W, Calls Tryz.prog 83 #[.string y, .string d] W fun e w' => e = .returned (.bool true) ∧ Below W.heap.size W w') :
  Calls Tryz.prog 40 #[.agg #[.string f, .string d], .slice a1 N c1, .slice a2 M c2] w fun e w' => e = .returned (.tuple #[.bool true, .int .i64 0]) ∧ Below w.heap.size w w' := by
 have K0 := Lib.hid k0
 have K1 := Lib.hid k1
 have K2 := Lib.hid k2
 have K3 := Lib.hid k3
 have K4 := Lib.hid k4
 have r1 : RB w (w.alloc (.cells #[.string f, .string d] 24)) w.heap.size f d := RB.new (Nat.le_refl _)
 have HB0 := Lib.hid (And.intro ((Below.refl w.heap.size w).alloc (Nat.le_refl _) (.cells #[.string f, .string d] 24)) r1)
 have e0 := r1.c0
 have e1 := r1.c1
 clear r1 k0 k1 k2 k3 k4
 go_enter Tryz.func40, Tryz.ntmps40
 go_wp2_with fail
 refine (K0.out _).mono ?_
 rintro e w1 ⟨rfl, hb⟩
 have HB1 := Lib.hid (And.intro (HB0.out.1.trans (hb.mono HB0.out.1.size)) (HB0.out.2.below hb))
 clear hb K0 HB0 e0 e1
 have e0 := HB1.out.2.c0
 go_wp2_with fail
 refine (K1.out _ HB1.out.1).mono ?_
 rintro e w2 ⟨rfl, hb⟩
 have HB2 := Lib.hid (And.intro (HB1.out.1.trans (hb.mono HB1.out.1.size)) (HB1.out.2.below hb))
 clear hb K1 HB1 e0
 have e0 := HB2.out.2.c0
 go_wp2_with fail
 refine (K2.out _ HB2.out.1).mono ?_
 rintro e w3 ⟨rfl, hb⟩
 have HB3 := Lib.hid (And.intro (HB2.out.1.trans (hb.mono HB2.out.1.size)) (HB2.out.2.below hb))
 clear hb K2 HB2 e0
 have e1 := HB3.out.2.c1
 go_wp2_with fail
 refine (K3.out _).mono ?_
 rintro e w4 ⟨rfl, hb⟩
 have HB4 := Lib.hid (And.intro (HB3.out.1.trans (hb.mono HB3.out.1.size)) (HB3.out.2.below hb))
 clear hb K3 HB3 e1
 have e1 := HB4.out.2.c1
 go_wp2_with fail
 refine (K4.out _).mono ?_
 rintro e w5 ⟨rfl, hb⟩
 have HB5 := Lib.hid (HB4.out.1.trans (hb.mono HB4.out.1.size))
 clear hb K4 HB4 e1
 go_wp2_with fail
 go_ret2
 exact ⟨rfl, HB5.out⟩
theorem at9_q {p q : Rat} (hp : QOk p) (hq : QOk q) (h : p ≤ q) (w : World) : Calls Tryz.prog 83 #[.string (qstr p), .string (qstr q)] w fun e w' => e = .returned (.bool true) ∧ Below w.heap.size w w' := by
 have hc := at9_any (qstr p) (qstr q) (Nat.le_trans (sz_q hp) (by omega)) (Nat.le_trans (sz_q hq) (by omega)) w
 rw [cmpT_q hp hq, decide_eq_true (cmpQ_le.2 h)] at hc
 exact hc
theorem rHolds_q {P Q : List MI} {N M c1 c2 : Nat} {a1 a2 : Option Addr} {F D x y : Rat} (ha : LQ F D) (hx : dltE P Q (qstr F) = (qstr x, 0)) (hy : dltE Q P (qstr F) = (qstr y, 0)) (ox : QOk x) (oy : QOk y) (hle : mxQ x y ≤ D) (hN : N ≤ 1000) (hM : M ≤ 1000) (hlp : ML2 P) (hlq : ML2 Q) {w : World} (mp : MR w a1 N P) (mq : MR w a2 M Q) :
  Calls Tryz.prog 40 #[.agg #[.string (qstr F), .string (qstr D)], .slice a1 N c1, .slice a2 M c2] w fun e w' => e = .returned (.tuple #[.bool true, .int .i64 0]) ∧ Below w.heap.size w w' := by
 refine rHolds_ok (x := qstr x) (y := qstr y) (fun W => ?_) (fun W hb => ?_) (fun W hb => ?_) (fun W => at9_q ox ha.okD (Rat.le_trans mxQ_ge1 hle) W) (fun W => at9_q oy ha.okD (Rat.le_trans mxQ_ge2 hle) W)
 ·have h := rLCheck_any (w := W) (Nat.le_trans (sz_q ha.okF) (by omega)) (Nat.le_trans (sz_q ha.okD) (by omega))
  rw [ha.chk] at h
  exact h
 ·have h := rDelta_any (c1 := c1) (c2 := c2) (mp.below hb) (mq.below hb) hN hM hlp hlq (sz_q ha.okF)
  unfold PR at h
  rw [hx] at h
  exact h
 ·have h := rDelta_any (c1 := c2) (c2 := c1) (mq.below hb) (mp.below hb) hM hN hlq hlp (sz_q ha.okF)
  unfold PR at h
  rw [hy] at h
  exact h
theorem wrap7 {k : Nat} (h : (k : Int) < 7) : IntKind.i64.wrap (2 + (k : Int)) = 2 + (k : Int) := by
 rcases (show k = 0 ∨ k = 1 ∨ k = 2 ∨ k = 3 ∨ k = 4 ∨ k = 5 ∨ k = 6 by omega) with rfl | rfl | rfl | rfl | rfl | rfl | rfl <;> rfl
def GoodC (P Q : List MI) (c : Nat → ByteArray) : Prop := c 7 = ⟨#[48]⟩ ∧ (∀ j, j < 7 → c j = qstr (curM P Q j)) ∧ allZ P Q = true ∧ allZ Q P = true
theorem GoodC.cv {P Q : List MI} {c : Nat → ByteArray} (h : GoodC P Q c) : ∀ j, j < 8 → c j = cvQ (curM P Q) 0 j := fun j hj => by
 unfold cvQ
 by_cases h7 : j < 7
 ·rw [if_pos h7]; exact h.2.1 j h7
 ·obtain rfl : j = 7 := by omega
  rw [if_neg h7, h.1, q0Z]
set_option maxHeartbeats 12800000 in
set_option maxRecDepth 100000 in
theorem deltas_any {A0 : Option Addr} {n0 c0 : Nat} {L0 : List MI} {A1 : Option Addr} {n1 c1 : Nat} {L1 : List MI} {s : ByteArray} {n : Int} {w : World} (h0 : MR w A0 n0 L0 ∧ n0 ≤ 9223372036854775807 ∧ MX L0) (h1 : MR w A1 n1 L1 ∧ n1 ≤ 9223372036854775807 ∧ MX L1) (hs : s.size ≤ 140737488351232) (hn0 : -9223372036854775808 ≤ n) (hn1 : n ≤ 9223372036854775807) (htab : Tab w) (hm : ML w) :
  Calls Tryz.prog 11 #[.slice A0 n0 c0, .slice A1 n1 c1, .string s, .int .i64 n] w fun e w' => e = .returned (.bool true) ∧ Below w.heap.size w w' := by
 have HL := Lib.hid (lives10_any w htab hm)
 have HTM := Lib.hid (fun W (hb : Below w.heap.size w W) => And.intro (htab.below hb) (ml_keep hm (ml_pos hm) hb))
 have HMD := Lib.hid (fun W (hb : Below w.heap.size w W) => made102_any (c0 := c0) (c1 := c1) (w := W) ⟨h0.1.below hb, h0.2⟩ ⟨h1.1.below hb, h1.2⟩)
 have HFC := Lib.hid (fun W => fac10_any s hs W)
 have HPK := Lib.hid (fun W => pick_b n 7 (by omega) (by omega) hn0 hn1 W)
 clear h0 h1 hs htab hm hn0 hn1
 cases hf : facB s with
 | false =>
  rw [hf] at HFC
  clear hf HTM HPK
  go_enter Tryz.func11, Tryz.ntmps11
  go_wp2_with fail
  refine HL.out.mono ?_
  rintro e w1 ⟨rfl, hb⟩
  have HB := Lib.hid hb
  clear hb HL
  go_wp2_with fail
  refine (HMD.out _ HB.out).mono ?_
  rintro e w2 ⟨v, r, rfl, hr, hb⟩
  have HB2 := Lib.hid (HB.out.trans (hb.mono HB.out.size))
  clear hb HMD HB
  cases r with
  | false =>
   clear hr HFC
   go_wp2_with fail
   go_ret
   exact ⟨rfl, HB2.out⟩
  | true =>
   clear hr
   go_wp2_with fail
   refine (HFC.out _).mono ?_
   rintro e w3 ⟨rfl, hb⟩
   have HE := Lib.hid (HB2.out.trans (hb.mono HB2.out.size))
   clear hb HFC HB2
   go_wp2_with fail
   go_ret
   exact ⟨rfl, HE.out⟩
 | true =>
  rw [hf] at HFC
  obtain ⟨f, hsf, hfo, hf1, hsz⟩ := facB_yes hf
  have HFF := Lib.hid (And.intro hsf (And.intro hsz (And.intro hf1 hfo)))
  clear hf hsf hfo hf1 hsz
  go_enter Tryz.func11, Tryz.ntmps11
  go_wp2_with fail
  refine HL.out.mono ?_
  rintro e w1 ⟨rfl, hb⟩
  have HB := Lib.hid hb
  clear hb HL
  go_wp2_with fail
  refine (HMD.out _ HB.out).mono ?_
  rintro e w2 ⟨v, r, rfl, hr, hb⟩
  have HB2 := Lib.hid (HB.out.trans (hb.mono HB.out.size))
  clear hb HMD HB
  cases r with
  | false =>
   clear hr HFC
   go_wp2_with fail
   go_ret
   exact ⟨rfl, HB2.out⟩
  | true =>
   obtain ⟨g, cl, u0, u1, D0, D1, rfl, hg, hc0, hc1, d0, d1⟩ := hr rfl
   have hx0 := d0.2
   obtain ⟨hk0, hl0⟩ := chk_df d0.1
   obtain ⟨a0, q0, rfl, m0, _⟩ := d0.1
   obtain ⟨P, hP⟩ : ∃ P, P = tZ D0 := ⟨_, rfl⟩
   have hlen0 : P.length = D0.length := by rw [hP, tZ_len]
   rw [← hP] at m0 hl0 hk0 hx0
   obtain ⟨N0, hN0⟩ : ∃ N0, D0.length = N0 := ⟨_, rfl⟩
   rw [hN0] at m0 hlen0 hc0
   have hs0 := (fewB_yes hl0).1
   rw [hlen0] at hs0
   have li0 := few_lit hl0
   have mz0 := litB_ml li0
   have p0 := DiL.of hk0
   have hx1 := d1.2
   obtain ⟨hk1, hl1⟩ := chk_df d1.1
   obtain ⟨a1, q1, rfl, m1, _⟩ := d1.1
   obtain ⟨Q, hQ⟩ : ∃ Q, Q = tZ D1 := ⟨_, rfl⟩
   have hlen1 : Q.length = D1.length := by rw [hQ, tZ_len]
   rw [← hQ] at m1 hl1 hk1 hx1
   obtain ⟨N1, hN1⟩ : ∃ N1, D1.length = N1 := ⟨_, rfl⟩
   rw [hN1] at m1 hlen1 hc1
   have hs1 := (fewB_yes hl1).1
   rw [hlen1] at hs1
   have li1 := few_lit hl1
   have mz1 := litB_ml li1
   have p1 := DiL.of hk1
   obtain ⟨hsf, hf12, hf1, ofo⟩ := HFF.out
   have HTW := Lib.hid (fun W (hb : Below w2.heap.size w2 W) => HTM.out W (HB2.out.trans (hb.mono HB2.out.size)))
   have HLC := Lib.hid (show ∀ W, Below w2.heap.size w2 W → W.cell? ⟨g, 0, none⟩ = some (.slice a0 N0 q0) ∧ W.cell? ⟨g, 1, none⟩ = some (.slice a1 N1 q1) from fun W hb => ⟨(hb.cell (p := ⟨g, 0, none⟩) hg).trans hc0, (hb.cell (p := ⟨g, 1, none⟩) hg).trans hc1⟩)
   have HCV := Lib.hid (show ∀ W, Below w2.heap.size w2 W → Calls Tryz.prog 69 #[.slice a0 N0 q0, .slice a1 N1 q1] W (fun e w' => ∃ (c : Nat → ByteArray) (r : Bool), e = .returned (.tuple #[.agg #[.string (c 0), .string (c 1), .string (c 2), .string (c 3), .string (c 4), .string (c 5), .string (c 6), .string (c 7)], .bool r]) ∧ (r = true → GoodC P Q c) ∧ Below W.heap.size W w') from fun W hb => curve_any (m0.below hb) (m1.below hb) (by omega) (by omega) mz0 mz1)
   have HTO := Lib.hid (show ∀ W c (k : Nat), Below w2.heap.size w2 W → GoodC P Q c → (k : Int) < 7 → Calls Tryz.prog 52 #[.agg #[.string (c 0), .string (c 1), .string (c 2), .string (c 3), .string (c 4), .string (c 5), .string (c 6), .string (c 7)], .int .i64 (2 + (k : Int)), .string s] W (Rl s (qstr (toD (curM P Q) 0 f k)) W) from fun W c k hb hc hk => by
    have h := mTo_q (w := W) (cur_cq p0 p1 hx0 hx1 hc.2.2.1 hc.2.2.2) (cur_to (k := k) (by omega) p0 p1 hx0 hx1 hc.2.2.1 hc.2.2.2 hf12 hf1).1 (by omega) (fun W2 hb2 => HTW.out W2 (hb.trans (hb2.mono hb.size)))
    rw [← hc.cv 0 (by omega), ← hc.cv 1 (by omega), ← hc.cv 2 (by omega), ← hc.cv 3 (by omega), ← hc.cv 4 (by omega), ← hc.cv 5 (by omega), ← hc.cv 6 (by omega), ← hc.cv 7 (by omega), ← hsf] at h
    exact h)
   have HHO := Lib.hid (show ∀ W c (k : Nat), Below w2.heap.size w2 W → GoodC P Q c → (k : Int) < 7 → Calls Tryz.prog 40 #[.agg #[.string s, .string (qstr (toD (curM P Q) 0 f k))], .slice a0 N0 q0, .slice a1 N1 q1] W (fun e w' => e = .returned (.tuple #[.bool true, .int .i64 0]) ∧ Below W.heap.size W w') from fun W c k hb hc hk => by
    obtain ⟨x, y, e1, e2, o1, o2, hle⟩ := deltas_num (f := f) (k := k) (by omega) hk0 hk1 hx0 hx1 hc.2.2.1 hc.2.2.2 hf12 hf1
    have h := rHolds_q (c1 := q0) (c2 := q1) (cur_to (k := k) (by omega) p0 p1 hx0 hx1 hc.2.2.1 hc.2.2.2 hf12 hf1).2 e1 e2 o1 o2 hle (by omega) (by omega) mz0 mz1 (m0.below hb) (m1.below hb)
    rw [← hsf] at h
    exact h)
   clear HTM HTW hr hc0 hc1 d0 d1 m0 m1 hk0 hk1 hl0 hl1 li0 li1 mz0 mz1 p0 p1 hx0 hx1 hs0 hs1 hlen0 hlen1 hP hQ hN0 hN1 hsf hf12 hf1 ofo HFF
   go_wp2_with fail
   refine (HFC.out _).mono ?_
   rintro e w3 ⟨rfl, hb⟩
   have HB3 := Lib.hid hb
   clear hb HFC
   go_wp2_with fail
   refine wp_world (Below.refl w3.heap.size w3) (fun wx hbx => ?_)
   have HB4 := Lib.hid (HB3.out.trans (hbx.mono HB3.out.size))
   clear hbx HB3
   refine wp_region_held (S := fun W => Below wx.heap.size wx W) (by kernel_rfl) ?_
   change wpAnyH _ _ _ _ _ 13 _ _ wx.drew
   have hD0 := (Below.refl wx.heap.size wx).drew
   generalize wx.drew = W at *
   refine wpHz_take (i := 0) (d := 34) (v := .slice (some ⟨g, 0, none⟩) 2 cl) rfl rfl (by kernel_rfl) (by kernel_rfl) (by kernel_rfl) (fun _ _ _ h => h) rfl (fun W _ => by go_simp) hD0 ?_
   simp only [Act.put, sA, sB, sC]
   refine wpHz_take (i := 1) (d := 35) (v := .pointer (some ⟨g, 0, none⟩)) rfl rfl (by kernel_rfl) (by kernel_rfl) (by kernel_rfl) (fun _ _ _ h => h) rfl (fun W _ => by go_simp) hD0 ?_
   simp only [Act.put, sA, sB, sC]
   refine wpHz_take (i := 2) (d := 36) (v := .slice a0 N0 q0) rfl rfl (by kernel_rfl) (by kernel_rfl) (by kernel_rfl) (fun _ _ _ h => h) rfl (fun W hW => by have e0 := (HLC.out W (HB4.out.trans (hW.mono HB4.out.size))).1; go_simp) hD0 ?_
   simp only [Act.put, sA, sB, sC]
   refine wpHz_take (i := 3) (d := 37) (v := .slice (some ⟨g, 0, none⟩) 2 cl) rfl rfl (by kernel_rfl) (by kernel_rfl) (by kernel_rfl) (fun _ _ _ h => h) rfl (fun W _ => by go_simp) hD0 ?_
   simp only [Act.put, sA, sB, sC]
   refine wpHz_take (i := 4) (d := 38) (v := .pointer (some ⟨g, 1, none⟩)) rfl rfl (by kernel_rfl) (by kernel_rfl) (by kernel_rfl) (fun _ _ _ h => h) rfl (fun W _ => by go_simp) hD0 ?_
   simp only [Act.put, sA, sB, sC]
   refine wpHz_take (i := 5) (d := 39) (v := .slice a1 N1 q1) rfl rfl (by kernel_rfl) (by kernel_rfl) (by kernel_rfl) (fun _ _ _ h => h) rfl (fun W hW => by have e0 := (HLC.out W (HB4.out.trans (hW.mono HB4.out.size))).2; go_simp) hD0 ?_
   simp only [Act.put, sA, sB, sC]
   refine wpHz_two (i := 6) (j := 10) (by kernel_rfl) ?wa ?wb
   case wa =>
    refine wpOz_run rfl rfl (wpz_enter (d := 40) rfl (by go_simp) ((HCV.out _ (HB4.out.trans (hD0.mono HB4.out.size))).mono ?_))
    rintro e u1 ⟨c, rb, rfl, hgc, hb⟩
    have hD1 : Below wx.heap.size wx u1 := hD0.trans (hb.mono hD0.size)
    clear hb
    refine ⟨_, rfl, hD1, ?_⟩
    simp only [Act.put, sA, sB, sC]
    refine wpHz_take (i := 7) (d := 33) (v := .tuple #[.agg #[.string (c 0), .string (c 1), .string (c 2), .string (c 3), .string (c 4), .string (c 5), .string (c 6), .string (c 7)], .bool rb]) rfl rfl (by kernel_rfl) (by kernel_rfl) (by kernel_rfl) (fun _ _ _ h => h) rfl (fun W _ => by go_simp) hD1 ?_
    simp only [Act.put, sA, sB, sC]
    refine wpHz_take (i := 8) (d := 41) (v := .agg #[.string (c 0), .string (c 1), .string (c 2), .string (c 3), .string (c 4), .string (c 5), .string (c 6), .string (c 7)]) rfl rfl (by kernel_rfl) (by kernel_rfl) (by kernel_rfl) (fun _ _ _ h => h) rfl (fun W _ => by go_simp) hD1 ?_
    simp only [Act.put, sA, sB, sC]
    refine wpHz_take (i := 9) (d := 42) (v := .bool rb) rfl rfl (by kernel_rfl) (by kernel_rfl) (by kernel_rfl) (fun _ _ _ h => h) rfl (fun W _ => by go_simp) hD1 ?_
    simp only [Act.put, sA, sB, sC]
    refine wpHz_one (i := 10) (by kernel_rfl) ?_
    have hD2 := hD1.alloc hD1.size (.cells #[.string ⟨#[]⟩, .string ⟨#[]⟩, .string ⟨#[]⟩, .string ⟨#[]⟩, .string ⟨#[]⟩, .string ⟨#[]⟩, .string ⟨#[]⟩, .string ⟨#[]⟩] 63)
    have hgz : wx.heap.size ≤ u1.heap.size := hD1.size
    have hz0 : ARR (u1.alloc (.cells #[.string ⟨#[]⟩, .string ⟨#[]⟩, .string ⟨#[]⟩, .string ⟨#[]⟩, .string ⟨#[]⟩, .string ⟨#[]⟩, .string ⟨#[]⟩, .string ⟨#[]⟩] 63)) u1.heap.size 8 63 (fun _ => ⟨#[]⟩) := ARR.new8 (c := fun _ => ⟨#[]⟩)
    refine wpOz_run rfl rfl (wpz_value (v := .pointer (some ⟨u1.heap.size, 0, none⟩)) (w' := u1.alloc (.cells #[.string ⟨#[]⟩, .string ⟨#[]⟩, .string ⟨#[]⟩, .string ⟨#[]⟩, .string ⟨#[]⟩, .string ⟨#[]⟩, .string ⟨#[]⟩, .string ⟨#[]⟩] 63)) (d := 11) rfl (by go_simp) ⟨hD2, ?_⟩)
    simp only [Act.put, sA, sB, sC]
    generalize u1.heap.size = gz at hz0 hgz ⊢
    generalize u1.alloc (.cells #[.string ⟨#[]⟩, .string ⟨#[]⟩, .string ⟨#[]⟩, .string ⟨#[]⟩, .string ⟨#[]⟩, .string ⟨#[]⟩, .string ⟨#[]⟩, .string ⟨#[]⟩] 63) = u2 at hz0 hD2 ⊢
    refine wpHz_one (i := 11) (by kernel_rfl) ?_
    have hset := hz0.put8 c
    have hD4 := hD2.trans ((Ch.st8 (S := fun j => j = gz) u2 c rfl).to_below hD2.size (fun j hj => by omega))
    have y0 := hz0.cell (j := 0) (by omega)
    have y1 := hz0.cell (j := 1) (by omega)
    have y2 := hz0.cell (j := 2) (by omega)
    have y3 := hz0.cell (j := 3) (by omega)
    have y4 := hz0.cell (j := 4) (by omega)
    have y5 := hz0.cell (j := 5) (by omega)
    have y6 := hz0.cell (j := 6) (by omega)
    have y7 := hz0.cell (j := 7) (by omega)
    have z0 := hz0.free 0
    have z1 := hz0.free 1
    have z2 := hz0.free 2
    have z3 := hz0.free 3
    have z4 := hz0.free 4
    have z5 := hz0.free 5
    have z6 := hz0.free 6
    have z7 := hz0.free 7
    clear hz0
    refine wpOz_run rfl rfl (wpz_skip (w' := (st8 u2 gz c)) rfl (by unfold st8; go_simp) ⟨hD4, ?_⟩)
    clear y0 z0 y1 z1 y2 z2 y3 z3 y4 z4 y5 z5 y6 z6 y7 z7 hgz hD2 hD1 hD0
    generalize (st8 u2 gz c) = u4 at hset hD4 ⊢
    refine wpHz_take (i := 12) (d := 12) (v := .bool rb) rfl rfl (by kernel_rfl) (by kernel_rfl) (by kernel_rfl) (fun _ _ _ h => h) rfl (fun W _ => by go_simp) hD4 ?_
    simp only [Act.put, sA, sB, sC]
    refine wpAnyH_done (by kernel_rfl) ?_ _
    have HB5 := Lib.hid (HB4.out.trans (hD4.mono HB4.out.size))
    have HX := Lib.hid hset
    have HGC := Lib.hid hgc
    clear hset hD4 HB4 HCV hgc
    cases rb with
    | false =>
     clear HTO HHO HX HGC HLC
     go_wp2_with fail
     go_ret
     exact ⟨rfl, HB2.out.trans (HB5.out.mono HB2.out.size)⟩
    | true =>
     have HG := Lib.hid (HGC.out rfl)
     clear HGC
     go_wp2_with fail
     refine wp_world (Below.refl u4.heap.size u4) (fun wx hbx => ?_)
     have HB6 := Lib.hid (HB5.out.trans (hbx.mono HB5.out.size))
     have HX6 := Lib.hid (HX.out.below hbx)
     clear hbx HB5 HX
     refine wp_region_held (S := fun W => Below wx.heap.size wx W) (by kernel_rfl) ?_
     change wpAnyH _ _ _ _ _ 12 _ _ wx.drew
     have hD0 := (Below.refl wx.heap.size wx).drew
     generalize wx.drew = W at *
     refine wpHz_take (i := 0) (d := 46) (v := .agg #[.string (c 0), .string (c 1), .string (c 2), .string (c 3), .string (c 4), .string (c 5), .string (c 6), .string (c 7)]) rfl rfl (by kernel_rfl) (by kernel_rfl) (by kernel_rfl) (fun _ _ _ h => h) rfl (fun W hW => by have ha := HX6.out.below hW; have e0 := ha.cell (j := 0) (by omega); have e1 := ha.cell (j := 1) (by omega); have e2 := ha.cell (j := 2) (by omega); have e3 := ha.cell (j := 3) (by omega); have e4 := ha.cell (j := 4) (by omega); have e5 := ha.cell (j := 5) (by omega); have e6 := ha.cell (j := 6) (by omega); have e7 := ha.cell (j := 7) (by omega); go_simp) hD0 ?_
     simp only [Act.put, sA, sB, sC]
     refine wpHz_take (i := 1) (d := 47) (v := .int .i64 n) rfl rfl (by kernel_rfl) (by kernel_rfl) (by kernel_rfl) (fun _ _ _ h => h) rfl (fun W _ => by go_simp) hD0 ?_
     simp only [Act.put, sA, sB, sC]
     refine wpHz_take (i := 4) (d := 50) (v := .string s) rfl rfl (by kernel_rfl) (by kernel_rfl) (by kernel_rfl) (fun _ _ _ h => h) rfl (fun W _ => by go_simp) hD0 ?_
     simp only [Act.put, sA, sB, sC]
     refine wpHz_two (i := 2) (j := 9) (by kernel_rfl) ?wc ?wd
     case' wc =>
      refine wpOz_run rfl rfl (wpz_enter (d := 48) rfl (by go_simp) ((HPK.out _).mono ?_))
      rintro e u1 ⟨⟨k, hk7, rfl⟩, hb⟩
      have hD1 : Below wx.heap.size wx u1 := hD0.trans (hb.mono hD0.size)
      clear hb
      refine ⟨_, rfl, hD1, ?_⟩
      simp only [Act.put, sA, sB, sC]
      refine wpHz_take (i := 3) (d := 49) (v := .int .i64 (2 + (k : Int))) rfl rfl (by kernel_rfl) (by kernel_rfl) (by kernel_rfl) (fun _ _ _ h => h) rfl (fun W _ => by have e0 := wrap7 hk7; go_simp) hD1 ?_
      simp only [Act.put, sA, sB, sC]
      refine wpHz_two (i := 5) (j := 9) (by kernel_rfl) ?we ?wf
      case' we =>
       refine wpOz_run rfl rfl (wpz_enter (d := 51) rfl (by go_simp) ((HTO.out _ c k (HB6.out.trans (hD1.mono HB6.out.size)) HG.out hk7).mono ?_))
       rintro e u2 ⟨rfl, hb⟩
       have hD2 : Below wx.heap.size wx u2 := hD1.trans (hb.mono hD1.size)
       clear hb
       refine ⟨_, rfl, hD2, ?_⟩
       simp only [Act.put, sA, sB, sC]
       refine wpHz_take (i := 6) (d := 45) (v := .tuple #[.agg #[.string s, .string (qstr (toD (curM P Q) 0 f k))], .int .i64 0]) rfl rfl (by kernel_rfl) (by kernel_rfl) (by kernel_rfl) (fun _ _ _ h => h) rfl (fun W _ => by go_simp) hD2 ?_
       simp only [Act.put, sA, sB, sC]
       refine wpHz_take (i := 7) (d := 52) (v := .agg #[.string s, .string (qstr (toD (curM P Q) 0 f k))]) rfl rfl (by kernel_rfl) (by kernel_rfl) (by kernel_rfl) (fun _ _ _ h => h) rfl (fun W _ => by go_simp) hD2 ?_
       simp only [Act.put, sA, sB, sC]
       refine wpHz_take (i := 8) (d := 53) (v := .int .i64 0) rfl rfl (by kernel_rfl) (by kernel_rfl) (by kernel_rfl) (fun _ _ _ h => h) rfl (fun W _ => by go_simp) hD2 ?_
       simp only [Act.put, sA, sB, sC]
       refine wpHz_one (i := 9) (by kernel_rfl) ?_
       have hD3 := hD2.alloc hD2.size (.cells #[.string ⟨#[]⟩, .string ⟨#[]⟩] 24)
       have hgz : wx.heap.size ≤ u2.heap.size := hD2.size
       have hz0 : RB w2 (u2.alloc (.cells #[.string ⟨#[]⟩, .string ⟨#[]⟩] 24)) u2.heap.size ⟨#[]⟩ ⟨#[]⟩ := RB.new ((HB6.out.trans (hD2.mono HB6.out.size))).size
       refine wpOz_run rfl rfl (wpz_value (v := .pointer (some ⟨u2.heap.size, 0, none⟩)) (w' := u2.alloc (.cells #[.string ⟨#[]⟩, .string ⟨#[]⟩] 24)) (d := 13) rfl (by go_simp) ⟨hD3, ?_⟩)
       simp only [Act.put, sA, sB, sC]
       generalize u2.heap.size = gz at hz0 hgz ⊢
       generalize u2.alloc (.cells #[.string ⟨#[]⟩, .string ⟨#[]⟩] 24) = u3 at hz0 hD3 ⊢
      case' wf =>
       have hD2 := hD1.alloc hD1.size (.cells #[.string ⟨#[]⟩, .string ⟨#[]⟩] 24)
       have hgz : wx.heap.size ≤ u1.heap.size := hD1.size
       have hz0 : RB w2 (u1.alloc (.cells #[.string ⟨#[]⟩, .string ⟨#[]⟩] 24)) u1.heap.size ⟨#[]⟩ ⟨#[]⟩ := RB.new ((HB6.out.trans (hD1.mono HB6.out.size))).size
       refine wpOz_run rfl rfl (wpz_value (v := .pointer (some ⟨u1.heap.size, 0, none⟩)) (w' := u1.alloc (.cells #[.string ⟨#[]⟩, .string ⟨#[]⟩] 24)) (d := 13) rfl (by go_simp) ⟨hD2, ?_⟩)
       simp only [Act.put, sA, sB, sC]
       generalize u1.heap.size = gz at hz0 hgz ⊢
       generalize u1.alloc (.cells #[.string ⟨#[]⟩, .string ⟨#[]⟩] 24) = u2 at hz0 hD2 ⊢
       refine wpHz_one (i := 5) (by kernel_rfl) ?_
       refine wpOz_run rfl rfl (wpz_enter (d := 51) rfl (by go_simp) ((HTO.out _ c k (HB6.out.trans (hD2.mono HB6.out.size)) HG.out hk7).mono ?_))
       rintro e u3 ⟨rfl, hb⟩
       have hD3 : Below wx.heap.size wx u3 := hD2.trans (hb.mono hD2.size)
       have hz0 := hz0.below hb
       clear hb
       refine ⟨_, rfl, hD3, ?_⟩
       simp only [Act.put, sA, sB, sC]
       refine wpHz_take (i := 6) (d := 45) (v := .tuple #[.agg #[.string s, .string (qstr (toD (curM P Q) 0 f k))], .int .i64 0]) rfl rfl (by kernel_rfl) (by kernel_rfl) (by kernel_rfl) (fun _ _ _ h => h) rfl (fun W _ => by go_simp) hD3 ?_
       simp only [Act.put, sA, sB, sC]
       refine wpHz_take (i := 7) (d := 52) (v := .agg #[.string s, .string (qstr (toD (curM P Q) 0 f k))]) rfl rfl (by kernel_rfl) (by kernel_rfl) (by kernel_rfl) (fun _ _ _ h => h) rfl (fun W _ => by go_simp) hD3 ?_
       simp only [Act.put, sA, sB, sC]
       refine wpHz_take (i := 8) (d := 53) (v := .int .i64 0) rfl rfl (by kernel_rfl) (by kernel_rfl) (by kernel_rfl) (fun _ _ _ h => h) rfl (fun W _ => by go_simp) hD3 ?_
       simp only [Act.put, sA, sB, sC]
     case' wd =>
      have hD1 := hD0.alloc hD0.size (.cells #[.string ⟨#[]⟩, .string ⟨#[]⟩] 24)
      have hgz : wx.heap.size ≤ W.heap.size := hD0.size
      have hz0 : RB w2 (W.alloc (.cells #[.string ⟨#[]⟩, .string ⟨#[]⟩] 24)) W.heap.size ⟨#[]⟩ ⟨#[]⟩ := RB.new ((HB6.out.trans (hD0.mono HB6.out.size))).size
      refine wpOz_run rfl rfl (wpz_value (v := .pointer (some ⟨W.heap.size, 0, none⟩)) (w' := W.alloc (.cells #[.string ⟨#[]⟩, .string ⟨#[]⟩] 24)) (d := 13) rfl (by go_simp) ⟨hD1, ?_⟩)
      simp only [Act.put, sA, sB, sC]
      generalize W.heap.size = gz at hz0 hgz ⊢
      generalize W.alloc (.cells #[.string ⟨#[]⟩, .string ⟨#[]⟩] 24) = u1 at hz0 hD1 ⊢
      refine wpHz_one (i := 2) (by kernel_rfl) ?_
      refine wpOz_run rfl rfl (wpz_enter (d := 48) rfl (by go_simp) ((HPK.out _).mono ?_))
      rintro e u2 ⟨⟨k, hk7, rfl⟩, hb⟩
      have hD2 : Below wx.heap.size wx u2 := hD1.trans (hb.mono hD1.size)
      have hz0 := hz0.below hb
      clear hb
      refine ⟨_, rfl, hD2, ?_⟩
      simp only [Act.put, sA, sB, sC]
      refine wpHz_take (i := 3) (d := 49) (v := .int .i64 (2 + (k : Int))) rfl rfl (by kernel_rfl) (by kernel_rfl) (by kernel_rfl) (fun _ _ _ h => h) rfl (fun W _ => by have e0 := wrap7 hk7; go_simp) hD2 ?_
      simp only [Act.put, sA, sB, sC]
      refine wpHz_one (i := 5) (by kernel_rfl) ?_
      refine wpOz_run rfl rfl (wpz_enter (d := 51) rfl (by go_simp) ((HTO.out _ c k (HB6.out.trans (hD2.mono HB6.out.size)) HG.out hk7).mono ?_))
      rintro e u3 ⟨rfl, hb⟩
      have hD3 : Below wx.heap.size wx u3 := hD2.trans (hb.mono hD2.size)
      have hz0 := hz0.below hb
      clear hb
      refine ⟨_, rfl, hD3, ?_⟩
      simp only [Act.put, sA, sB, sC]
      refine wpHz_take (i := 6) (d := 45) (v := .tuple #[.agg #[.string s, .string (qstr (toD (curM P Q) 0 f k))], .int .i64 0]) rfl rfl (by kernel_rfl) (by kernel_rfl) (by kernel_rfl) (fun _ _ _ h => h) rfl (fun W _ => by go_simp) hD3 ?_
      simp only [Act.put, sA, sB, sC]
      refine wpHz_take (i := 7) (d := 52) (v := .agg #[.string s, .string (qstr (toD (curM P Q) 0 f k))]) rfl rfl (by kernel_rfl) (by kernel_rfl) (by kernel_rfl) (fun _ _ _ h => h) rfl (fun W _ => by go_simp) hD3 ?_
      simp only [Act.put, sA, sB, sC]
      refine wpHz_take (i := 8) (d := 53) (v := .int .i64 0) rfl rfl (by kernel_rfl) (by kernel_rfl) (by kernel_rfl) (fun _ _ _ h => h) rfl (fun W _ => by go_simp) hD3 ?_
      simp only [Act.put, sA, sB, sC]
     all_goals (
      refine wpHz_one (i := 10) (by kernel_rfl) ?_
      have hset := hz0.set s (qstr (toD (curM P Q) 0 f k))
      have hD4 := (hD3.setCell (p := ⟨gz, 0, none⟩) hgz (.string s)).setCell (p := ⟨gz, 1, none⟩) hgz (.string (qstr (toD (curM P Q) 0 f k)))
      obtain ⟨_, _, zz0, zz1, zz2, zz3⟩ := hz0
      refine wpOz_run rfl rfl (wpz_skip (w' := ((u3.setCell ⟨gz, 0, none⟩ (.string s)).setCell ⟨gz, 1, none⟩ (.string (qstr (toD (curM P Q) 0 f k))))) rfl (by go_simp) ⟨hD4, ?_⟩)
      clear zz0 zz1 zz2 zz3 hgz hD3 hD2 hD1 hD0
      generalize ((u3.setCell ⟨gz, 0, none⟩ (.string s)).setCell ⟨gz, 1, none⟩ (.string (qstr (toD (curM P Q) 0 f k)))) = u5 at hset hD4 ⊢
      refine wpHz_take (i := 11) (d := 14) (v := .int .i64 0) rfl rfl (by kernel_rfl) (by kernel_rfl) (by kernel_rfl) (fun _ _ _ h => h) rfl (fun W _ => by go_simp) hD4 ?_
      simp only [Act.put, sA, sB, sC]
      refine wpAnyH_done (by kernel_rfl) ?_ _
      have HB7 := Lib.hid (HB6.out.trans (hD4.mono HB6.out.size))
      have HX7 := Lib.hid hset
      clear hset hD4 HB6 HTO HX6
      go_wp2_with fail
      refine wp_world (Below.refl u5.heap.size u5) (fun wx hbx => ?_)
      have HB8 := Lib.hid (HB7.out.trans (hbx.mono HB7.out.size))
      have HX8 := Lib.hid (HX7.out.below hbx)
      clear hbx HB7 HX7
      refine wp_region_held (S := fun W => Below wx.heap.size wx W) (by kernel_rfl) ?_
      change wpAnyH _ _ _ _ _ 13 _ _ wx.drew
      have hD0 := (Below.refl wx.heap.size wx).drew
      generalize wx.drew = W at *
      refine wpHz_take (i := 0) (d := 55) (v := .agg #[.string s, .string (qstr (toD (curM P Q) 0 f k))]) rfl rfl (by kernel_rfl) (by kernel_rfl) (by kernel_rfl) (fun _ _ _ h => h) rfl (fun W hW => by have r := HX8.out.below hW; have e0 := r.c0; have e1 := r.c1; go_simp) hD0 ?_
      simp only [Act.put, sA, sB, sC]
      refine wpHz_take (i := 1) (d := 56) (v := .slice (some ⟨g, 0, none⟩) 2 cl) rfl rfl (by kernel_rfl) (by kernel_rfl) (by kernel_rfl) (fun _ _ _ h => h) rfl (fun W _ => by go_simp) hD0 ?_
      simp only [Act.put, sA, sB, sC]
      refine wpHz_take (i := 2) (d := 57) (v := .pointer (some ⟨g, 0, none⟩)) rfl rfl (by kernel_rfl) (by kernel_rfl) (by kernel_rfl) (fun _ _ _ h => h) rfl (fun W _ => by go_simp) hD0 ?_
      simp only [Act.put, sA, sB, sC]
      refine wpHz_take (i := 3) (d := 58) (v := .slice a0 N0 q0) rfl rfl (by kernel_rfl) (by kernel_rfl) (by kernel_rfl) (fun _ _ _ h => h) rfl (fun W hW => by have e0 := (HLC.out W (HB8.out.trans (hW.mono HB8.out.size))).1; go_simp) hD0 ?_
      simp only [Act.put, sA, sB, sC]
      refine wpHz_take (i := 4) (d := 59) (v := .slice (some ⟨g, 0, none⟩) 2 cl) rfl rfl (by kernel_rfl) (by kernel_rfl) (by kernel_rfl) (fun _ _ _ h => h) rfl (fun W _ => by go_simp) hD0 ?_
      simp only [Act.put, sA, sB, sC]
      refine wpHz_take (i := 5) (d := 60) (v := .pointer (some ⟨g, 1, none⟩)) rfl rfl (by kernel_rfl) (by kernel_rfl) (by kernel_rfl) (fun _ _ _ h => h) rfl (fun W _ => by go_simp) hD0 ?_
      simp only [Act.put, sA, sB, sC]
      refine wpHz_take (i := 6) (d := 61) (v := .slice a1 N1 q1) rfl rfl (by kernel_rfl) (by kernel_rfl) (by kernel_rfl) (fun _ _ _ h => h) rfl (fun W hW => by have e0 := (HLC.out W (HB8.out.trans (hW.mono HB8.out.size))).2; go_simp) hD0 ?_
      simp only [Act.put, sA, sB, sC]
      refine wpHz_one (i := 7) (by kernel_rfl) ?_
      refine wpOz_run rfl rfl (wpz_enter (d := 62) rfl (by go_simp) ((HHO.out _ c k (HB8.out.trans (hD0.mono HB8.out.size)) HG.out hk7).mono ?_))
      rintro e u6 ⟨rfl, hb⟩
      have hD1 : Below wx.heap.size wx u6 := hD0.trans (hb.mono hD0.size)
      clear hb
      refine ⟨_, rfl, hD1, ?_⟩
      simp only [Act.put, sA, sB, sC]
      refine wpHz_take (i := 8) (d := 54) (v := .tuple #[.bool true, .int .i64 0]) rfl rfl (by kernel_rfl) (by kernel_rfl) (by kernel_rfl) (fun _ _ _ h => h) rfl (fun W _ => by go_simp) hD1 ?_
      simp only [Act.put, sA, sB, sC]
      refine wpHz_take (i := 9) (d := 63) (v := .bool true) rfl rfl (by kernel_rfl) (by kernel_rfl) (by kernel_rfl) (fun _ _ _ h => h) rfl (fun W _ => by go_simp) hD1 ?_
      simp only [Act.put, sA, sB, sC]
      refine wpHz_take (i := 10) (d := 64) (v := .int .i64 0) rfl rfl (by kernel_rfl) (by kernel_rfl) (by kernel_rfl) (fun _ _ _ h => h) rfl (fun W _ => by go_simp) hD1 ?_
      simp only [Act.put, sA, sB, sC]
      refine wpHz_take (i := 11) (d := 15) (v := .bool true) rfl rfl (by kernel_rfl) (by kernel_rfl) (by kernel_rfl) (fun _ _ _ h => h) rfl (fun W _ => by go_simp) hD1 ?_
      simp only [Act.put, sA, sB, sC]
      refine wpHz_take (i := 12) (d := 16) (v := .int .i64 0) rfl rfl (by kernel_rfl) (by kernel_rfl) (by kernel_rfl) (fun _ _ _ h => h) rfl (fun W _ => by go_simp) hD1 ?_
      simp only [Act.put, sA, sB, sC]
      refine wpAnyH_done (by kernel_rfl) ?_ _
      have HE := Lib.hid (HB2.out.trans ((HB8.out.trans (hD1.mono HB8.out.size)).mono HB2.out.size))
      clear hD0 hD1 HB8 HX8 HHO HG HLC
      go_wp2_with fail
      go_ret
      exact ⟨rfl, HE.out⟩)
   case wb =>
    have hD1 := hD0.alloc hD0.size (.cells #[.string ⟨#[]⟩, .string ⟨#[]⟩, .string ⟨#[]⟩, .string ⟨#[]⟩, .string ⟨#[]⟩, .string ⟨#[]⟩, .string ⟨#[]⟩, .string ⟨#[]⟩] 63)
    have hgz : wx.heap.size ≤ W.heap.size := hD0.size
    have hz0 : ARR (W.alloc (.cells #[.string ⟨#[]⟩, .string ⟨#[]⟩, .string ⟨#[]⟩, .string ⟨#[]⟩, .string ⟨#[]⟩, .string ⟨#[]⟩, .string ⟨#[]⟩, .string ⟨#[]⟩] 63)) W.heap.size 8 63 (fun _ => ⟨#[]⟩) := ARR.new8 (c := fun _ => ⟨#[]⟩)
    refine wpOz_run rfl rfl (wpz_value (v := .pointer (some ⟨W.heap.size, 0, none⟩)) (w' := W.alloc (.cells #[.string ⟨#[]⟩, .string ⟨#[]⟩, .string ⟨#[]⟩, .string ⟨#[]⟩, .string ⟨#[]⟩, .string ⟨#[]⟩, .string ⟨#[]⟩, .string ⟨#[]⟩] 63)) (d := 11) rfl (by go_simp) ⟨hD1, ?_⟩)
    simp only [Act.put, sA, sB, sC]
    generalize W.heap.size = gz at hz0 hgz ⊢
    generalize W.alloc (.cells #[.string ⟨#[]⟩, .string ⟨#[]⟩, .string ⟨#[]⟩, .string ⟨#[]⟩, .string ⟨#[]⟩, .string ⟨#[]⟩, .string ⟨#[]⟩, .string ⟨#[]⟩] 63) = u1 at hz0 hD1 ⊢
    refine wpHz_one (i := 6) (by kernel_rfl) ?_
    refine wpOz_run rfl rfl (wpz_enter (d := 40) rfl (by go_simp) ((HCV.out _ (HB4.out.trans (hD1.mono HB4.out.size))).mono ?_))
    rintro e u2 ⟨c, rb, rfl, hgc, hb⟩
    have hD2 : Below wx.heap.size wx u2 := hD1.trans (hb.mono hD1.size)
    have hz0 := hz0.below hb
    clear hb
    refine ⟨_, rfl, hD2, ?_⟩
    simp only [Act.put, sA, sB, sC]
    refine wpHz_take (i := 7) (d := 33) (v := .tuple #[.agg #[.string (c 0), .string (c 1), .string (c 2), .string (c 3), .string (c 4), .string (c 5), .string (c 6), .string (c 7)], .bool rb]) rfl rfl (by kernel_rfl) (by kernel_rfl) (by kernel_rfl) (fun _ _ _ h => h) rfl (fun W _ => by go_simp) hD2 ?_
    simp only [Act.put, sA, sB, sC]
    refine wpHz_take (i := 8) (d := 41) (v := .agg #[.string (c 0), .string (c 1), .string (c 2), .string (c 3), .string (c 4), .string (c 5), .string (c 6), .string (c 7)]) rfl rfl (by kernel_rfl) (by kernel_rfl) (by kernel_rfl) (fun _ _ _ h => h) rfl (fun W _ => by go_simp) hD2 ?_
    simp only [Act.put, sA, sB, sC]
    refine wpHz_take (i := 9) (d := 42) (v := .bool rb) rfl rfl (by kernel_rfl) (by kernel_rfl) (by kernel_rfl) (fun _ _ _ h => h) rfl (fun W _ => by go_simp) hD2 ?_
    simp only [Act.put, sA, sB, sC]
    refine wpHz_one (i := 11) (by kernel_rfl) ?_
    have hset := hz0.put8 c
    have hD4 := hD2.trans ((Ch.st8 (S := fun j => j = gz) u2 c rfl).to_below hD2.size (fun j hj => by omega))
    have y0 := hz0.cell (j := 0) (by omega)
    have y1 := hz0.cell (j := 1) (by omega)
    have y2 := hz0.cell (j := 2) (by omega)
    have y3 := hz0.cell (j := 3) (by omega)
    have y4 := hz0.cell (j := 4) (by omega)
    have y5 := hz0.cell (j := 5) (by omega)
    have y6 := hz0.cell (j := 6) (by omega)
    have y7 := hz0.cell (j := 7) (by omega)
    have z0 := hz0.free 0
    have z1 := hz0.free 1
    have z2 := hz0.free 2
    have z3 := hz0.free 3
    have z4 := hz0.free 4
    have z5 := hz0.free 5
    have z6 := hz0.free 6
    have z7 := hz0.free 7
    clear hz0
    refine wpOz_run rfl rfl (wpz_skip (w' := (st8 u2 gz c)) rfl (by unfold st8; go_simp) ⟨hD4, ?_⟩)
    clear y0 z0 y1 z1 y2 z2 y3 z3 y4 z4 y5 z5 y6 z6 y7 z7 hgz hD2 hD1 hD0
    generalize (st8 u2 gz c) = u4 at hset hD4 ⊢
    refine wpHz_take (i := 12) (d := 12) (v := .bool rb) rfl rfl (by kernel_rfl) (by kernel_rfl) (by kernel_rfl) (fun _ _ _ h => h) rfl (fun W _ => by go_simp) hD4 ?_
    simp only [Act.put, sA, sB, sC]
    refine wpAnyH_done (by kernel_rfl) ?_ _
    have HB5 := Lib.hid (HB4.out.trans (hD4.mono HB4.out.size))
    have HX := Lib.hid hset
    have HGC := Lib.hid hgc
    clear hset hD4 HB4 HCV hgc
    cases rb with
    | false =>
     clear HTO HHO HX HGC HLC
     go_wp2_with fail
     go_ret
     exact ⟨rfl, HB2.out.trans (HB5.out.mono HB2.out.size)⟩
    | true =>
     have HG := Lib.hid (HGC.out rfl)
     clear HGC
     go_wp2_with fail
     refine wp_world (Below.refl u4.heap.size u4) (fun wx hbx => ?_)
     have HB6 := Lib.hid (HB5.out.trans (hbx.mono HB5.out.size))
     have HX6 := Lib.hid (HX.out.below hbx)
     clear hbx HB5 HX
     refine wp_region_held (S := fun W => Below wx.heap.size wx W) (by kernel_rfl) ?_
     change wpAnyH _ _ _ _ _ 12 _ _ wx.drew
     have hD0 := (Below.refl wx.heap.size wx).drew
     generalize wx.drew = W at *
     refine wpHz_take (i := 0) (d := 46) (v := .agg #[.string (c 0), .string (c 1), .string (c 2), .string (c 3), .string (c 4), .string (c 5), .string (c 6), .string (c 7)]) rfl rfl (by kernel_rfl) (by kernel_rfl) (by kernel_rfl) (fun _ _ _ h => h) rfl (fun W hW => by have ha := HX6.out.below hW; have e0 := ha.cell (j := 0) (by omega); have e1 := ha.cell (j := 1) (by omega); have e2 := ha.cell (j := 2) (by omega); have e3 := ha.cell (j := 3) (by omega); have e4 := ha.cell (j := 4) (by omega); have e5 := ha.cell (j := 5) (by omega); have e6 := ha.cell (j := 6) (by omega); have e7 := ha.cell (j := 7) (by omega); go_simp) hD0 ?_
     simp only [Act.put, sA, sB, sC]
     refine wpHz_take (i := 1) (d := 47) (v := .int .i64 n) rfl rfl (by kernel_rfl) (by kernel_rfl) (by kernel_rfl) (fun _ _ _ h => h) rfl (fun W _ => by go_simp) hD0 ?_
     simp only [Act.put, sA, sB, sC]
     refine wpHz_take (i := 4) (d := 50) (v := .string s) rfl rfl (by kernel_rfl) (by kernel_rfl) (by kernel_rfl) (fun _ _ _ h => h) rfl (fun W _ => by go_simp) hD0 ?_
     simp only [Act.put, sA, sB, sC]
     refine wpHz_two (i := 2) (j := 9) (by kernel_rfl) ?wg ?wh
     case' wg =>
      refine wpOz_run rfl rfl (wpz_enter (d := 48) rfl (by go_simp) ((HPK.out _).mono ?_))
      rintro e u1 ⟨⟨k, hk7, rfl⟩, hb⟩
      have hD1 : Below wx.heap.size wx u1 := hD0.trans (hb.mono hD0.size)
      clear hb
      refine ⟨_, rfl, hD1, ?_⟩
      simp only [Act.put, sA, sB, sC]
      refine wpHz_take (i := 3) (d := 49) (v := .int .i64 (2 + (k : Int))) rfl rfl (by kernel_rfl) (by kernel_rfl) (by kernel_rfl) (fun _ _ _ h => h) rfl (fun W _ => by have e0 := wrap7 hk7; go_simp) hD1 ?_
      simp only [Act.put, sA, sB, sC]
      refine wpHz_two (i := 5) (j := 9) (by kernel_rfl) ?wi ?wj
      case' wi =>
       refine wpOz_run rfl rfl (wpz_enter (d := 51) rfl (by go_simp) ((HTO.out _ c k (HB6.out.trans (hD1.mono HB6.out.size)) HG.out hk7).mono ?_))
       rintro e u2 ⟨rfl, hb⟩
       have hD2 : Below wx.heap.size wx u2 := hD1.trans (hb.mono hD1.size)
       clear hb
       refine ⟨_, rfl, hD2, ?_⟩
       simp only [Act.put, sA, sB, sC]
       refine wpHz_take (i := 6) (d := 45) (v := .tuple #[.agg #[.string s, .string (qstr (toD (curM P Q) 0 f k))], .int .i64 0]) rfl rfl (by kernel_rfl) (by kernel_rfl) (by kernel_rfl) (fun _ _ _ h => h) rfl (fun W _ => by go_simp) hD2 ?_
       simp only [Act.put, sA, sB, sC]
       refine wpHz_take (i := 7) (d := 52) (v := .agg #[.string s, .string (qstr (toD (curM P Q) 0 f k))]) rfl rfl (by kernel_rfl) (by kernel_rfl) (by kernel_rfl) (fun _ _ _ h => h) rfl (fun W _ => by go_simp) hD2 ?_
       simp only [Act.put, sA, sB, sC]
       refine wpHz_take (i := 8) (d := 53) (v := .int .i64 0) rfl rfl (by kernel_rfl) (by kernel_rfl) (by kernel_rfl) (fun _ _ _ h => h) rfl (fun W _ => by go_simp) hD2 ?_
       simp only [Act.put, sA, sB, sC]
       refine wpHz_one (i := 9) (by kernel_rfl) ?_
       have hD3 := hD2.alloc hD2.size (.cells #[.string ⟨#[]⟩, .string ⟨#[]⟩] 24)
       have hgz : wx.heap.size ≤ u2.heap.size := hD2.size
       have hz0 : RB w2 (u2.alloc (.cells #[.string ⟨#[]⟩, .string ⟨#[]⟩] 24)) u2.heap.size ⟨#[]⟩ ⟨#[]⟩ := RB.new ((HB6.out.trans (hD2.mono HB6.out.size))).size
       refine wpOz_run rfl rfl (wpz_value (v := .pointer (some ⟨u2.heap.size, 0, none⟩)) (w' := u2.alloc (.cells #[.string ⟨#[]⟩, .string ⟨#[]⟩] 24)) (d := 13) rfl (by go_simp) ⟨hD3, ?_⟩)
       simp only [Act.put, sA, sB, sC]
       generalize u2.heap.size = gz at hz0 hgz ⊢
       generalize u2.alloc (.cells #[.string ⟨#[]⟩, .string ⟨#[]⟩] 24) = u3 at hz0 hD3 ⊢
      case' wj =>
       have hD2 := hD1.alloc hD1.size (.cells #[.string ⟨#[]⟩, .string ⟨#[]⟩] 24)
       have hgz : wx.heap.size ≤ u1.heap.size := hD1.size
       have hz0 : RB w2 (u1.alloc (.cells #[.string ⟨#[]⟩, .string ⟨#[]⟩] 24)) u1.heap.size ⟨#[]⟩ ⟨#[]⟩ := RB.new ((HB6.out.trans (hD1.mono HB6.out.size))).size
       refine wpOz_run rfl rfl (wpz_value (v := .pointer (some ⟨u1.heap.size, 0, none⟩)) (w' := u1.alloc (.cells #[.string ⟨#[]⟩, .string ⟨#[]⟩] 24)) (d := 13) rfl (by go_simp) ⟨hD2, ?_⟩)
       simp only [Act.put, sA, sB, sC]
       generalize u1.heap.size = gz at hz0 hgz ⊢
       generalize u1.alloc (.cells #[.string ⟨#[]⟩, .string ⟨#[]⟩] 24) = u2 at hz0 hD2 ⊢
       refine wpHz_one (i := 5) (by kernel_rfl) ?_
       refine wpOz_run rfl rfl (wpz_enter (d := 51) rfl (by go_simp) ((HTO.out _ c k (HB6.out.trans (hD2.mono HB6.out.size)) HG.out hk7).mono ?_))
       rintro e u3 ⟨rfl, hb⟩
       have hD3 : Below wx.heap.size wx u3 := hD2.trans (hb.mono hD2.size)
       have hz0 := hz0.below hb
       clear hb
       refine ⟨_, rfl, hD3, ?_⟩
       simp only [Act.put, sA, sB, sC]
       refine wpHz_take (i := 6) (d := 45) (v := .tuple #[.agg #[.string s, .string (qstr (toD (curM P Q) 0 f k))], .int .i64 0]) rfl rfl (by kernel_rfl) (by kernel_rfl) (by kernel_rfl) (fun _ _ _ h => h) rfl (fun W _ => by go_simp) hD3 ?_
       simp only [Act.put, sA, sB, sC]
       refine wpHz_take (i := 7) (d := 52) (v := .agg #[.string s, .string (qstr (toD (curM P Q) 0 f k))]) rfl rfl (by kernel_rfl) (by kernel_rfl) (by kernel_rfl) (fun _ _ _ h => h) rfl (fun W _ => by go_simp) hD3 ?_
       simp only [Act.put, sA, sB, sC]
       refine wpHz_take (i := 8) (d := 53) (v := .int .i64 0) rfl rfl (by kernel_rfl) (by kernel_rfl) (by kernel_rfl) (fun _ _ _ h => h) rfl (fun W _ => by go_simp) hD3 ?_
       simp only [Act.put, sA, sB, sC]
     case' wh =>
      have hD1 := hD0.alloc hD0.size (.cells #[.string ⟨#[]⟩, .string ⟨#[]⟩] 24)
      have hgz : wx.heap.size ≤ W.heap.size := hD0.size
      have hz0 : RB w2 (W.alloc (.cells #[.string ⟨#[]⟩, .string ⟨#[]⟩] 24)) W.heap.size ⟨#[]⟩ ⟨#[]⟩ := RB.new ((HB6.out.trans (hD0.mono HB6.out.size))).size
      refine wpOz_run rfl rfl (wpz_value (v := .pointer (some ⟨W.heap.size, 0, none⟩)) (w' := W.alloc (.cells #[.string ⟨#[]⟩, .string ⟨#[]⟩] 24)) (d := 13) rfl (by go_simp) ⟨hD1, ?_⟩)
      simp only [Act.put, sA, sB, sC]
      generalize W.heap.size = gz at hz0 hgz ⊢
      generalize W.alloc (.cells #[.string ⟨#[]⟩, .string ⟨#[]⟩] 24) = u1 at hz0 hD1 ⊢
      refine wpHz_one (i := 2) (by kernel_rfl) ?_
      refine wpOz_run rfl rfl (wpz_enter (d := 48) rfl (by go_simp) ((HPK.out _).mono ?_))
      rintro e u2 ⟨⟨k, hk7, rfl⟩, hb⟩
      have hD2 : Below wx.heap.size wx u2 := hD1.trans (hb.mono hD1.size)
      have hz0 := hz0.below hb
      clear hb
      refine ⟨_, rfl, hD2, ?_⟩
      simp only [Act.put, sA, sB, sC]
      refine wpHz_take (i := 3) (d := 49) (v := .int .i64 (2 + (k : Int))) rfl rfl (by kernel_rfl) (by kernel_rfl) (by kernel_rfl) (fun _ _ _ h => h) rfl (fun W _ => by have e0 := wrap7 hk7; go_simp) hD2 ?_
      simp only [Act.put, sA, sB, sC]
      refine wpHz_one (i := 5) (by kernel_rfl) ?_
      refine wpOz_run rfl rfl (wpz_enter (d := 51) rfl (by go_simp) ((HTO.out _ c k (HB6.out.trans (hD2.mono HB6.out.size)) HG.out hk7).mono ?_))
      rintro e u3 ⟨rfl, hb⟩
      have hD3 : Below wx.heap.size wx u3 := hD2.trans (hb.mono hD2.size)
      have hz0 := hz0.below hb
      clear hb
      refine ⟨_, rfl, hD3, ?_⟩
      simp only [Act.put, sA, sB, sC]
      refine wpHz_take (i := 6) (d := 45) (v := .tuple #[.agg #[.string s, .string (qstr (toD (curM P Q) 0 f k))], .int .i64 0]) rfl rfl (by kernel_rfl) (by kernel_rfl) (by kernel_rfl) (fun _ _ _ h => h) rfl (fun W _ => by go_simp) hD3 ?_
      simp only [Act.put, sA, sB, sC]
      refine wpHz_take (i := 7) (d := 52) (v := .agg #[.string s, .string (qstr (toD (curM P Q) 0 f k))]) rfl rfl (by kernel_rfl) (by kernel_rfl) (by kernel_rfl) (fun _ _ _ h => h) rfl (fun W _ => by go_simp) hD3 ?_
      simp only [Act.put, sA, sB, sC]
      refine wpHz_take (i := 8) (d := 53) (v := .int .i64 0) rfl rfl (by kernel_rfl) (by kernel_rfl) (by kernel_rfl) (fun _ _ _ h => h) rfl (fun W _ => by go_simp) hD3 ?_
      simp only [Act.put, sA, sB, sC]
     all_goals (
      refine wpHz_one (i := 10) (by kernel_rfl) ?_
      have hset := hz0.set s (qstr (toD (curM P Q) 0 f k))
      have hD4 := (hD3.setCell (p := ⟨gz, 0, none⟩) hgz (.string s)).setCell (p := ⟨gz, 1, none⟩) hgz (.string (qstr (toD (curM P Q) 0 f k)))
      obtain ⟨_, _, zz0, zz1, zz2, zz3⟩ := hz0
      refine wpOz_run rfl rfl (wpz_skip (w' := ((u3.setCell ⟨gz, 0, none⟩ (.string s)).setCell ⟨gz, 1, none⟩ (.string (qstr (toD (curM P Q) 0 f k))))) rfl (by go_simp) ⟨hD4, ?_⟩)
      clear zz0 zz1 zz2 zz3 hgz hD3 hD2 hD1 hD0
      generalize ((u3.setCell ⟨gz, 0, none⟩ (.string s)).setCell ⟨gz, 1, none⟩ (.string (qstr (toD (curM P Q) 0 f k)))) = u5 at hset hD4 ⊢
      refine wpHz_take (i := 11) (d := 14) (v := .int .i64 0) rfl rfl (by kernel_rfl) (by kernel_rfl) (by kernel_rfl) (fun _ _ _ h => h) rfl (fun W _ => by go_simp) hD4 ?_
      simp only [Act.put, sA, sB, sC]
      refine wpAnyH_done (by kernel_rfl) ?_ _
      have HB7 := Lib.hid (HB6.out.trans (hD4.mono HB6.out.size))
      have HX7 := Lib.hid hset
      clear hset hD4 HB6 HTO HX6
      go_wp2_with fail
      refine wp_world (Below.refl u5.heap.size u5) (fun wx hbx => ?_)
      have HB8 := Lib.hid (HB7.out.trans (hbx.mono HB7.out.size))
      have HX8 := Lib.hid (HX7.out.below hbx)
      clear hbx HB7 HX7
      refine wp_region_held (S := fun W => Below wx.heap.size wx W) (by kernel_rfl) ?_
      change wpAnyH _ _ _ _ _ 13 _ _ wx.drew
      have hD0 := (Below.refl wx.heap.size wx).drew
      generalize wx.drew = W at *
      refine wpHz_take (i := 0) (d := 55) (v := .agg #[.string s, .string (qstr (toD (curM P Q) 0 f k))]) rfl rfl (by kernel_rfl) (by kernel_rfl) (by kernel_rfl) (fun _ _ _ h => h) rfl (fun W hW => by have r := HX8.out.below hW; have e0 := r.c0; have e1 := r.c1; go_simp) hD0 ?_
      simp only [Act.put, sA, sB, sC]
      refine wpHz_take (i := 1) (d := 56) (v := .slice (some ⟨g, 0, none⟩) 2 cl) rfl rfl (by kernel_rfl) (by kernel_rfl) (by kernel_rfl) (fun _ _ _ h => h) rfl (fun W _ => by go_simp) hD0 ?_
      simp only [Act.put, sA, sB, sC]
      refine wpHz_take (i := 2) (d := 57) (v := .pointer (some ⟨g, 0, none⟩)) rfl rfl (by kernel_rfl) (by kernel_rfl) (by kernel_rfl) (fun _ _ _ h => h) rfl (fun W _ => by go_simp) hD0 ?_
      simp only [Act.put, sA, sB, sC]
      refine wpHz_take (i := 3) (d := 58) (v := .slice a0 N0 q0) rfl rfl (by kernel_rfl) (by kernel_rfl) (by kernel_rfl) (fun _ _ _ h => h) rfl (fun W hW => by have e0 := (HLC.out W (HB8.out.trans (hW.mono HB8.out.size))).1; go_simp) hD0 ?_
      simp only [Act.put, sA, sB, sC]
      refine wpHz_take (i := 4) (d := 59) (v := .slice (some ⟨g, 0, none⟩) 2 cl) rfl rfl (by kernel_rfl) (by kernel_rfl) (by kernel_rfl) (fun _ _ _ h => h) rfl (fun W _ => by go_simp) hD0 ?_
      simp only [Act.put, sA, sB, sC]
      refine wpHz_take (i := 5) (d := 60) (v := .pointer (some ⟨g, 1, none⟩)) rfl rfl (by kernel_rfl) (by kernel_rfl) (by kernel_rfl) (fun _ _ _ h => h) rfl (fun W _ => by go_simp) hD0 ?_
      simp only [Act.put, sA, sB, sC]
      refine wpHz_take (i := 6) (d := 61) (v := .slice a1 N1 q1) rfl rfl (by kernel_rfl) (by kernel_rfl) (by kernel_rfl) (fun _ _ _ h => h) rfl (fun W hW => by have e0 := (HLC.out W (HB8.out.trans (hW.mono HB8.out.size))).2; go_simp) hD0 ?_
      simp only [Act.put, sA, sB, sC]
      refine wpHz_one (i := 7) (by kernel_rfl) ?_
      refine wpOz_run rfl rfl (wpz_enter (d := 62) rfl (by go_simp) ((HHO.out _ c k (HB8.out.trans (hD0.mono HB8.out.size)) HG.out hk7).mono ?_))
      rintro e u6 ⟨rfl, hb⟩
      have hD1 : Below wx.heap.size wx u6 := hD0.trans (hb.mono hD0.size)
      clear hb
      refine ⟨_, rfl, hD1, ?_⟩
      simp only [Act.put, sA, sB, sC]
      refine wpHz_take (i := 8) (d := 54) (v := .tuple #[.bool true, .int .i64 0]) rfl rfl (by kernel_rfl) (by kernel_rfl) (by kernel_rfl) (fun _ _ _ h => h) rfl (fun W _ => by go_simp) hD1 ?_
      simp only [Act.put, sA, sB, sC]
      refine wpHz_take (i := 9) (d := 63) (v := .bool true) rfl rfl (by kernel_rfl) (by kernel_rfl) (by kernel_rfl) (fun _ _ _ h => h) rfl (fun W _ => by go_simp) hD1 ?_
      simp only [Act.put, sA, sB, sC]
      refine wpHz_take (i := 10) (d := 64) (v := .int .i64 0) rfl rfl (by kernel_rfl) (by kernel_rfl) (by kernel_rfl) (fun _ _ _ h => h) rfl (fun W _ => by go_simp) hD1 ?_
      simp only [Act.put, sA, sB, sC]
      refine wpHz_take (i := 11) (d := 15) (v := .bool true) rfl rfl (by kernel_rfl) (by kernel_rfl) (by kernel_rfl) (fun _ _ _ h => h) rfl (fun W _ => by go_simp) hD1 ?_
      simp only [Act.put, sA, sB, sC]
      refine wpHz_take (i := 12) (d := 16) (v := .int .i64 0) rfl rfl (by kernel_rfl) (by kernel_rfl) (by kernel_rfl) (fun _ _ _ h => h) rfl (fun W _ => by go_simp) hD1 ?_
      simp only [Act.put, sA, sB, sC]
      refine wpAnyH_done (by kernel_rfl) ?_ _
      have HE := Lib.hid (HB2.out.trans ((HB8.out.trans (hD1.mono HB8.out.size)).mono HB2.out.size))
      clear hD0 hD1 HB8 HX8 HHO HG HLC
      go_wp2_with fail
      go_ret
      exact ⟨rfl, HE.out⟩)
end Go.Proofs.YtkponlbpgmnpgaaGreatDoor
