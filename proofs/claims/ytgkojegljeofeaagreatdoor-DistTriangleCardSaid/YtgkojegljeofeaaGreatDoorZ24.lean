/-
  DistTriangle is walked.
-/
import Derived.Test.YtgkojegljeofeaaGreatDoorZ23
import Derived.WalkSmall
namespace Go.Proofs.YtgkojegljeofeaaGreatDoor
open Go.RowKit NV Go.Maps Go.Sort Go.Shelf
open Go.Lib (decDigits)

set_option maxHeartbeats 12800000 in
set_option maxRecDepth 100000 in
theorem tri_any {A0 A1 A2 : Option Addr} {n0 n1 n2 c0 c1 c2 : Nat} {L0 L1 L2 : List MI} {w : World} (h0 : MR w A0 n0 L0 ∧ n0 ≤ 9223372036854775807 ∧ MX L0) (h1 : MR w A1 n1 L1 ∧ n1 ≤ 9223372036854775807 ∧ MX L1) (h2 : MR w A2 n2 L2 ∧ n2 ≤ 9223372036854775807 ∧ MX L2) (htab : Tab w) (hm : ML w) :
    Calls Tryz.prog 11 #[.slice A0 n0 c0, .slice A1 n1 c1, .slice A2 n2 c2] w fun e w' => e = .returned (.bool true) ∧ Below w.heap.size w w' := by
  have HL := Lib.hid (lives8_any w htab hm)
  have HTM := Lib.hid (fun W (hb : Below w.heap.size w W) => And.intro (htab.below hb) (ml_keep hm (ml_pos hm) hb))
  have HMD := Lib.hid (fun W (hb : Below w.heap.size w W) => made3_any (c0 := c0) (c1 := c1) (c2 := c2) (w := W) ⟨h0.1.below hb, h0.2⟩ ⟨h1.1.below hb, h1.2⟩ ⟨h2.1.below hb, h2.2⟩)
  clear h0 h1 h2 htab hm
  go_enter Tryz.func11, Tryz.ntmps11
  go_wp2_with fail
  refine HL.out.mono ?_
  rintro e w1 ⟨rfl, hb⟩
  have HB := Lib.hid hb
  clear hb HL
  go_wp2_with fail
  refine (HMD.out _ HB.out).mono ?_
  rintro e w2 ⟨v, r, rfl, hr, hb⟩
  have HB2 := Lib.hid (HB.out.trans (hb.mono HB.out.size))
  clear hb HMD HB
  cases r with
  | false =>
    clear hr
    go_wp2_with fail
    go_ret
    exact ⟨rfl, HB2.out⟩
  | true =>
    obtain ⟨g, cl, u0, u1, u2, D0, D1, D2, rfl, hg, hc0, hc1, hc2, d0, d1, d2⟩ := hr rfl
    obtain ⟨hk0, hl0⟩ := chk_dv d0
    obtain ⟨hk1, hl1⟩ := chk_dv d1
    obtain ⟨hk2, hl2⟩ := chk_dv d2
    obtain ⟨a0, q0, rfl, m0, _⟩ := d0
    obtain ⟨a1, q1, rfl, m1, _⟩ := d1
    obtain ⟨a2, q2, rfl, m2, _⟩ := d2
    obtain ⟨P, hP⟩ : ∃ P, P = tZ D0 := ⟨_, rfl⟩
    obtain ⟨Q, hQ⟩ : ∃ Q, Q = tZ D1 := ⟨_, rfl⟩
    obtain ⟨R, hR⟩ : ∃ R, R = tZ D2 := ⟨_, rfl⟩
    have hlP : P.length = D0.length := by rw [hP, tZ_len]
    have hlQ : Q.length = D1.length := by rw [hQ, tZ_len]
    have hlR : R.length = D2.length := by rw [hR, tZ_len]
    rw [← hP] at m0 hl0 hk0
    rw [← hQ] at m1 hl1 hk1
    rw [← hR] at m2 hl2 hk2
    obtain ⟨N, hN⟩ : ∃ N, D0.length = N := ⟨_, rfl⟩
    obtain ⟨M, hM⟩ : ∃ M, D1.length = M := ⟨_, rfl⟩
    obtain ⟨K, hK⟩ : ∃ K, D2.length = K := ⟨_, rfl⟩
    rw [hN] at m0 hlP hc0
    rw [hM] at m1 hlQ hc1
    rw [hK] at m2 hlR hc2
    have hN16 := (litB_yes hl0).1
    have hM16 := (litB_yes hl1).1
    have hK16 := (litB_yes hl2).1
    rw [hlP] at hN16
    rw [hlQ] at hM16
    rw [hlR] at hK16
    have p0 := DiL.of hk0
    have p1 := DiL.of hk1
    have p2 := DiL.of hk2
    have s1 : Sz 60 (1 : Rat) := Sz.mono (show Sz 1 (1 : Rat) from ⟨by decide, by decide⟩) (by omega)
    have hone : (0 : Rat) ≤ 1 := by decide
    have e1 : (⟨#[49]⟩ : ByteArray) = qstr 1 := q1Z.symm
    have hdd : ∀ {X Y : List MI} {n m x y : Nat} {aX aY : Option Addr} {W : World}, litB X = true → litB Y = true → chkZ X = 0 → chkZ Y = 0 → MR W aX n X → MR W aY m Y → n ≤ 16 → m ≤ 16 → Tab W → ML W → Calls Tryz.prog 18 #[.slice aX n x, .slice aY m y] W (fun e w' => e = .returned (.tuple #[.string (qstr (dl X Y 1)), .int .i64 0]) ∧ Below W.heap.size W w') := fun {X Y n m x y aX aY W} l1 l2 k1 k2 r1 r2 n1 n2 ht hm => by
      have h := Distance_any (c1 := x) (c2 := y) r1 r2 (by omega) (by omega) (litB_ml l1) (litB_ml l2) ht hm
      rw [e1, dlt_is2 l1 l2 k1 k2 s1 hone] at h
      exact h
    have HMR := Lib.hid (fun W (hb : Below w2.heap.size w2 W) => And.intro (m0.below hb) (And.intro (m1.below hb) (m2.below hb)))
    have HLC := Lib.hid (show ∀ W, Below w2.heap.size w2 W → W.cell? ⟨g, 0, none⟩ = some (.slice a0 N q0) ∧ W.cell? ⟨g, 1, none⟩ = some (.slice a1 M q1) ∧ W.cell? ⟨g, 2, none⟩ = some (.slice a2 K q2) from fun W hb => ⟨(hb.cell (p := ⟨g, 0, none⟩) hg).trans hc0, (hb.cell (p := ⟨g, 1, none⟩) hg).trans hc1, (hb.cell (p := ⟨g, 2, none⟩) hg).trans hc2⟩)
    have z01 := (dlt_run2 hl0 hl1 p0.ok p1.ok s1).2
    have z12 := (dlt_run2 hl1 hl2 p1.ok p2.ok s1).2
    have z02 := (dlt_run2 hl0 hl2 p0.ok p2.ok s1).2
    have hsy := dl_sym p0 p1
    have htr := dl_tri p0 p1 p2
    have hle := dl_le1 p0 p1 hone
    have hsm := dl_same p0 p1
    obtain ⟨b, hb⟩ : ∃ b, b = decide (P = Q) := ⟨_, rfl⟩
    obtain ⟨tx, htx⟩ : ∃ tx, tx = qstr (dl P Q 1) := ⟨_, rfl⟩
    obtain ⟨ty, hty⟩ : ∃ ty, ty = qstr (dl Q R 1) := ⟨_, rfl⟩
    obtain ⟨tz, htz⟩ : ∃ tz, tz = qstr (dl P R 1) := ⟨_, rfl⟩
    obtain ⟨ts, hts⟩ : ∃ ts, ts = qstr (dl P Q 1 + dl Q R 1) := ⟨_, rfl⟩
    have HTW := Lib.hid (fun W (hb : Below w2.heap.size w2 W) => HTM.out W (HB2.out.trans (hb.mono HB2.out.size)))
    have HD01 := Lib.hid (fun W (hb : Below w2.heap.size w2 W) => hdd (x := q0) (y := q1) hl0 hl1 hk0 hk1 (HMR.out W hb).1 (HMR.out W hb).2.1 hN16 hM16 (HTW.out W hb).1 (HTW.out W hb).2)
    have HD12 := Lib.hid (fun W (hb : Below w2.heap.size w2 W) => hdd (x := q1) (y := q2) hl1 hl2 hk1 hk2 (HMR.out W hb).2.1 (HMR.out W hb).2.2 hM16 hK16 (HTW.out W hb).1 (HTW.out W hb).2)
    have HD02 := Lib.hid (fun W (hb : Below w2.heap.size w2 W) => hdd (x := q0) (y := q2) hl0 hl2 hk0 hk2 (HMR.out W hb).1 (HMR.out W hb).2.2 hN16 hK16 (HTW.out W hb).1 (HTW.out W hb).2)
    have HD10 := Lib.hid (fun W (hb : Below w2.heap.size w2 W) => hdd (x := q1) (y := q0) hl1 hl0 hk1 hk0 (HMR.out W hb).2.1 (HMR.out W hb).1 hM16 hN16 (HTW.out W hb).1 (HTW.out W hb).2)
    rw [← hsy] at HD10
    have HLE1 := Lib.hid (show ∀ W, Calls Tryz.prog 47 #[.string tx, .string ⟨#[49]⟩] W (Rb true W) from fun W => by
      have h := least_q (z01.qok (by omega) (by omega)) (s1.qok (by omega) (by omega)) W
      rw [decide_eq_true hle, ← htx, ← e1] at h
      exact h)
    have HSM := Lib.hid (show ∀ W, Below w2.heap.size w2 W → Calls Tryz.prog 35 #[.slice a0 N q0, .slice a1 M q1] W (Rb b W) from fun W hw => by
      have h := rSame_any (c1 := q0) (c2 := q1) (HMR.out W hw).1 (HMR.out W hw).2.1 (by omega)
      rw [← hb] at h
      exact h)
    have zs := Sz.add z01 z12
    have HPL := Lib.hid (show ∀ W, Calls Tryz.prog 46 #[.string tx, .string ty] W (Rt ts W) from fun W => by
      rw [htx, hty, hts]
      exact lplus_q (z01.qok (by omega) (by omega)) (z12.qok (by omega) (by omega)) (by exact (zs.mono (show 1800 + 1800 + 1 ≤ 4000 by omega)).qok (by omega) (by omega)) W)
    have HLE2 := Lib.hid (show ∀ W, Calls Tryz.prog 47 #[.string tz, .string ts] W (Rb true W) from fun W => by
      have h := least_q (z02.qok (by omega) (by omega)) ((zs.mono (show 1800 + 1800 + 1 ≤ 4000 by omega)).qok (by omega) (by omega)) W
      rw [decide_eq_true htr, ← htz, ← hts] at h
      exact h)
    have HX0 := Lib.hid (show (tx.toList == [48]) = b from by
      have h1 : (tx = ⟨#[48]⟩) ↔ P = Q := by rw [htx, q0_iff]; exact hsm
      have h2 : ([48] : List UInt8) = (⟨#[48]⟩ : ByteArray).toList := by rw [Lib.toList_data]
      rw [hb, h2, eq_b]
      exact decide_eq_decide.2 ⟨fun e => h1.1 (ba_extZ e), fun e => by rw [h1.2 e]⟩)
    rw [← htx] at HD01 HD10
    rw [← hty] at HD12
    rw [← htz] at HD02
    clear hr hc0 hc1 hc2 m0 m1 m2 hk0 hk1 hk2 hl0 hl1 hl2 hlP hlQ hlR hP hQ hR hN hM hK htx hty htz hts hb hdd HTM HTW HMR hsy htr hle hsm z01 z12 z02 zs s1 hone e1 p0 p1 p2
    have HB3 := Lib.hid (Below.refl w2.heap.size w2)
    go_wp2_with fail
    refine wp_world HB3.out (fun wx hbx => ?_)
    have HBX2 := Lib.hid hbx
    clear hbx
    refine wp_region_held (S := fun W => Below wx.heap.size wx W) (by kernel_rfl) ?_
    change wpAnyH _ _ _ _ _ 12 _ _ wx.drew
    have hD0 := (Below.refl wx.heap.size wx).drew
    generalize wx.drew = W at *
    refine wpHz_take (i := 0) (d := 30) (v := .slice (some ⟨g, 0, none⟩) 3 cl) rfl rfl (by kernel_rfl) (by kernel_rfl) (by kernel_rfl) (fun _ _ _ h => h) rfl (fun W _ => by go_simp) hD0 ?_
    simp only [Act.put, List.setIfInBounds_toArray, List.set_cons_zero, List.set_cons_succ]
    refine wpHz_take (i := 1) (d := 31) (v := .pointer (some ⟨g, 0, none⟩)) rfl rfl (by kernel_rfl) (by kernel_rfl) (by kernel_rfl) (fun _ _ _ h => h) rfl (fun W _ => by go_simp) hD0 ?_
    simp only [Act.put, List.setIfInBounds_toArray, List.set_cons_zero, List.set_cons_succ]
    refine wpHz_take (i := 2) (d := 32) (v := .slice a0 N q0) rfl rfl (by kernel_rfl) (by kernel_rfl) (by kernel_rfl) (fun _ _ _ h => h) rfl (fun W hW => by have e0 := (HLC.out W (HBX2.out.trans (hW.mono HBX2.out.size))).1; go_simp) hD0 ?_
    simp only [Act.put, List.setIfInBounds_toArray, List.set_cons_zero, List.set_cons_succ]
    refine wpHz_take (i := 3) (d := 33) (v := .slice (some ⟨g, 0, none⟩) 3 cl) rfl rfl (by kernel_rfl) (by kernel_rfl) (by kernel_rfl) (fun _ _ _ h => h) rfl (fun W _ => by go_simp) hD0 ?_
    simp only [Act.put, List.setIfInBounds_toArray, List.set_cons_zero, List.set_cons_succ]
    refine wpHz_take (i := 4) (d := 34) (v := .pointer (some ⟨g, 1, none⟩)) rfl rfl (by kernel_rfl) (by kernel_rfl) (by kernel_rfl) (fun _ _ _ h => h) rfl (fun W _ => by go_simp) hD0 ?_
    simp only [Act.put, List.setIfInBounds_toArray, List.set_cons_zero, List.set_cons_succ]
    refine wpHz_take (i := 5) (d := 35) (v := .slice a1 M q1) rfl rfl (by kernel_rfl) (by kernel_rfl) (by kernel_rfl) (fun _ _ _ h => h) rfl (fun W hW => by have e0 := (HLC.out W (HBX2.out.trans (hW.mono HBX2.out.size))).2.1; go_simp) hD0 ?_
    simp only [Act.put, List.setIfInBounds_toArray, List.set_cons_zero, List.set_cons_succ]
    refine wpHz_one (i := 6) (by kernel_rfl) ?_
    refine wpOz_run rfl rfl (wpz_enter (d := 36) rfl (by go_simp) ((HD01.out _ (HBX2.out.trans (hD0.mono HBX2.out.size))).mono ?_))
    rintro e v1 ⟨rfl, hb⟩
    have hD1 : Below wx.heap.size wx v1 := hD0.trans (hb.mono hD0.size)
    clear hb
    refine ⟨_, rfl, hD1, ?_⟩
    simp only [Act.put, List.setIfInBounds_toArray, List.set_cons_zero, List.set_cons_succ]
    refine wpHz_take (i := 7) (d := 29) (v := .tuple #[.string tx, .int .i64 0]) rfl rfl (by kernel_rfl) (by kernel_rfl) (by kernel_rfl) (fun _ _ _ h => h) rfl (fun W _ => by go_simp) hD1 ?_
    simp only [Act.put, List.setIfInBounds_toArray, List.set_cons_zero, List.set_cons_succ]
    refine wpHz_take (i := 8) (d := 37) (v := .string tx) rfl rfl (by kernel_rfl) (by kernel_rfl) (by kernel_rfl) (fun _ _ _ h => h) rfl (fun W _ => by go_simp) hD1 ?_
    simp only [Act.put, List.setIfInBounds_toArray, List.set_cons_zero, List.set_cons_succ]
    refine wpHz_take (i := 9) (d := 38) (v := .int .i64 0) rfl rfl (by kernel_rfl) (by kernel_rfl) (by kernel_rfl) (fun _ _ _ h => h) rfl (fun W _ => by go_simp) hD1 ?_
    simp only [Act.put, List.setIfInBounds_toArray, List.set_cons_zero, List.set_cons_succ]
    refine wpHz_take (i := 10) (d := 9) (v := .string tx) rfl rfl (by kernel_rfl) (by kernel_rfl) (by kernel_rfl) (fun _ _ _ h => h) rfl (fun W _ => by go_simp) hD1 ?_
    simp only [Act.put, List.setIfInBounds_toArray, List.set_cons_zero, List.set_cons_succ]
    refine wpHz_take (i := 11) (d := 10) (v := .int .i64 0) rfl rfl (by kernel_rfl) (by kernel_rfl) (by kernel_rfl) (fun _ _ _ h => h) rfl (fun W _ => by go_simp) hD1 ?_
    simp only [Act.put, List.setIfInBounds_toArray, List.set_cons_zero, List.set_cons_succ]
    refine wpAnyH_done (by kernel_rfl) ?_ _
    have HB4 := Lib.hid (HBX2.out.trans (hD1.mono HBX2.out.size))
    clear HBX2 hD0 hD1 HD01
    go_wp2_with fail
    refine wp_world HB4.out (fun wx hbx => ?_)
    have HBX2 := Lib.hid hbx
    clear hbx
    refine wp_region_held (S := fun W => Below wx.heap.size wx W) (by kernel_rfl) ?_
    change wpAnyH _ _ _ _ _ 12 _ _ wx.drew
    have hD0 := (Below.refl wx.heap.size wx).drew
    generalize wx.drew = W at *
    refine wpHz_take (i := 0) (d := 40) (v := .slice (some ⟨g, 0, none⟩) 3 cl) rfl rfl (by kernel_rfl) (by kernel_rfl) (by kernel_rfl) (fun _ _ _ h => h) rfl (fun W _ => by go_simp) hD0 ?_
    simp only [Act.put, List.setIfInBounds_toArray, List.set_cons_zero, List.set_cons_succ]
    refine wpHz_take (i := 1) (d := 41) (v := .pointer (some ⟨g, 1, none⟩)) rfl rfl (by kernel_rfl) (by kernel_rfl) (by kernel_rfl) (fun _ _ _ h => h) rfl (fun W _ => by go_simp) hD0 ?_
    simp only [Act.put, List.setIfInBounds_toArray, List.set_cons_zero, List.set_cons_succ]
    refine wpHz_take (i := 2) (d := 42) (v := .slice a1 M q1) rfl rfl (by kernel_rfl) (by kernel_rfl) (by kernel_rfl) (fun _ _ _ h => h) rfl (fun W hW => by have e0 := (HLC.out W (HBX2.out.trans (hW.mono HBX2.out.size))).2.1; go_simp) hD0 ?_
    simp only [Act.put, List.setIfInBounds_toArray, List.set_cons_zero, List.set_cons_succ]
    refine wpHz_take (i := 3) (d := 43) (v := .slice (some ⟨g, 0, none⟩) 3 cl) rfl rfl (by kernel_rfl) (by kernel_rfl) (by kernel_rfl) (fun _ _ _ h => h) rfl (fun W _ => by go_simp) hD0 ?_
    simp only [Act.put, List.setIfInBounds_toArray, List.set_cons_zero, List.set_cons_succ]
    refine wpHz_take (i := 4) (d := 44) (v := .pointer (some ⟨g, 2, none⟩)) rfl rfl (by kernel_rfl) (by kernel_rfl) (by kernel_rfl) (fun _ _ _ h => h) rfl (fun W _ => by go_simp) hD0 ?_
    simp only [Act.put, List.setIfInBounds_toArray, List.set_cons_zero, List.set_cons_succ]
    refine wpHz_take (i := 5) (d := 45) (v := .slice a2 K q2) rfl rfl (by kernel_rfl) (by kernel_rfl) (by kernel_rfl) (fun _ _ _ h => h) rfl (fun W hW => by have e0 := (HLC.out W (HBX2.out.trans (hW.mono HBX2.out.size))).2.2; go_simp) hD0 ?_
    simp only [Act.put, List.setIfInBounds_toArray, List.set_cons_zero, List.set_cons_succ]
    refine wpHz_one (i := 6) (by kernel_rfl) ?_
    refine wpOz_run rfl rfl (wpz_enter (d := 46) rfl (by go_simp) ((HD12.out _ (HBX2.out.trans (hD0.mono HBX2.out.size))).mono ?_))
    rintro e v1 ⟨rfl, hb⟩
    have hD1 : Below wx.heap.size wx v1 := hD0.trans (hb.mono hD0.size)
    clear hb
    refine ⟨_, rfl, hD1, ?_⟩
    simp only [Act.put, List.setIfInBounds_toArray, List.set_cons_zero, List.set_cons_succ]
    refine wpHz_take (i := 7) (d := 39) (v := .tuple #[.string ty, .int .i64 0]) rfl rfl (by kernel_rfl) (by kernel_rfl) (by kernel_rfl) (fun _ _ _ h => h) rfl (fun W _ => by go_simp) hD1 ?_
    simp only [Act.put, List.setIfInBounds_toArray, List.set_cons_zero, List.set_cons_succ]
    refine wpHz_take (i := 8) (d := 47) (v := .string ty) rfl rfl (by kernel_rfl) (by kernel_rfl) (by kernel_rfl) (fun _ _ _ h => h) rfl (fun W _ => by go_simp) hD1 ?_
    simp only [Act.put, List.setIfInBounds_toArray, List.set_cons_zero, List.set_cons_succ]
    refine wpHz_take (i := 9) (d := 48) (v := .int .i64 0) rfl rfl (by kernel_rfl) (by kernel_rfl) (by kernel_rfl) (fun _ _ _ h => h) rfl (fun W _ => by go_simp) hD1 ?_
    simp only [Act.put, List.setIfInBounds_toArray, List.set_cons_zero, List.set_cons_succ]
    refine wpHz_take (i := 10) (d := 11) (v := .string ty) rfl rfl (by kernel_rfl) (by kernel_rfl) (by kernel_rfl) (fun _ _ _ h => h) rfl (fun W _ => by go_simp) hD1 ?_
    simp only [Act.put, List.setIfInBounds_toArray, List.set_cons_zero, List.set_cons_succ]
    refine wpHz_take (i := 11) (d := 12) (v := .int .i64 0) rfl rfl (by kernel_rfl) (by kernel_rfl) (by kernel_rfl) (fun _ _ _ h => h) rfl (fun W _ => by go_simp) hD1 ?_
    simp only [Act.put, List.setIfInBounds_toArray, List.set_cons_zero, List.set_cons_succ]
    refine wpAnyH_done (by kernel_rfl) ?_ _
    have HB5 := Lib.hid (HBX2.out.trans (hD1.mono HBX2.out.size))
    clear HBX2 hD0 hD1 HD12
    go_wp2_with fail
    refine wp_world HB5.out (fun wx hbx => ?_)
    have HBX2 := Lib.hid hbx
    clear hbx
    refine wp_region_held (S := fun W => Below wx.heap.size wx W) (by kernel_rfl) ?_
    change wpAnyH _ _ _ _ _ 12 _ _ wx.drew
    have hD0 := (Below.refl wx.heap.size wx).drew
    generalize wx.drew = W at *
    refine wpHz_take (i := 0) (d := 50) (v := .slice (some ⟨g, 0, none⟩) 3 cl) rfl rfl (by kernel_rfl) (by kernel_rfl) (by kernel_rfl) (fun _ _ _ h => h) rfl (fun W _ => by go_simp) hD0 ?_
    simp only [Act.put, List.setIfInBounds_toArray, List.set_cons_zero, List.set_cons_succ]
    refine wpHz_take (i := 1) (d := 51) (v := .pointer (some ⟨g, 0, none⟩)) rfl rfl (by kernel_rfl) (by kernel_rfl) (by kernel_rfl) (fun _ _ _ h => h) rfl (fun W _ => by go_simp) hD0 ?_
    simp only [Act.put, List.setIfInBounds_toArray, List.set_cons_zero, List.set_cons_succ]
    refine wpHz_take (i := 2) (d := 52) (v := .slice a0 N q0) rfl rfl (by kernel_rfl) (by kernel_rfl) (by kernel_rfl) (fun _ _ _ h => h) rfl (fun W hW => by have e0 := (HLC.out W (HBX2.out.trans (hW.mono HBX2.out.size))).1; go_simp) hD0 ?_
    simp only [Act.put, List.setIfInBounds_toArray, List.set_cons_zero, List.set_cons_succ]
    refine wpHz_take (i := 3) (d := 53) (v := .slice (some ⟨g, 0, none⟩) 3 cl) rfl rfl (by kernel_rfl) (by kernel_rfl) (by kernel_rfl) (fun _ _ _ h => h) rfl (fun W _ => by go_simp) hD0 ?_
    simp only [Act.put, List.setIfInBounds_toArray, List.set_cons_zero, List.set_cons_succ]
    refine wpHz_take (i := 4) (d := 54) (v := .pointer (some ⟨g, 2, none⟩)) rfl rfl (by kernel_rfl) (by kernel_rfl) (by kernel_rfl) (fun _ _ _ h => h) rfl (fun W _ => by go_simp) hD0 ?_
    simp only [Act.put, List.setIfInBounds_toArray, List.set_cons_zero, List.set_cons_succ]
    refine wpHz_take (i := 5) (d := 55) (v := .slice a2 K q2) rfl rfl (by kernel_rfl) (by kernel_rfl) (by kernel_rfl) (fun _ _ _ h => h) rfl (fun W hW => by have e0 := (HLC.out W (HBX2.out.trans (hW.mono HBX2.out.size))).2.2; go_simp) hD0 ?_
    simp only [Act.put, List.setIfInBounds_toArray, List.set_cons_zero, List.set_cons_succ]
    refine wpHz_one (i := 6) (by kernel_rfl) ?_
    refine wpOz_run rfl rfl (wpz_enter (d := 56) rfl (by go_simp) ((HD02.out _ (HBX2.out.trans (hD0.mono HBX2.out.size))).mono ?_))
    rintro e v1 ⟨rfl, hb⟩
    have hD1 : Below wx.heap.size wx v1 := hD0.trans (hb.mono hD0.size)
    clear hb
    refine ⟨_, rfl, hD1, ?_⟩
    simp only [Act.put, List.setIfInBounds_toArray, List.set_cons_zero, List.set_cons_succ]
    refine wpHz_take (i := 7) (d := 49) (v := .tuple #[.string tz, .int .i64 0]) rfl rfl (by kernel_rfl) (by kernel_rfl) (by kernel_rfl) (fun _ _ _ h => h) rfl (fun W _ => by go_simp) hD1 ?_
    simp only [Act.put, List.setIfInBounds_toArray, List.set_cons_zero, List.set_cons_succ]
    refine wpHz_take (i := 8) (d := 57) (v := .string tz) rfl rfl (by kernel_rfl) (by kernel_rfl) (by kernel_rfl) (fun _ _ _ h => h) rfl (fun W _ => by go_simp) hD1 ?_
    simp only [Act.put, List.setIfInBounds_toArray, List.set_cons_zero, List.set_cons_succ]
    refine wpHz_take (i := 9) (d := 58) (v := .int .i64 0) rfl rfl (by kernel_rfl) (by kernel_rfl) (by kernel_rfl) (fun _ _ _ h => h) rfl (fun W _ => by go_simp) hD1 ?_
    simp only [Act.put, List.setIfInBounds_toArray, List.set_cons_zero, List.set_cons_succ]
    refine wpHz_take (i := 10) (d := 13) (v := .string tz) rfl rfl (by kernel_rfl) (by kernel_rfl) (by kernel_rfl) (fun _ _ _ h => h) rfl (fun W _ => by go_simp) hD1 ?_
    simp only [Act.put, List.setIfInBounds_toArray, List.set_cons_zero, List.set_cons_succ]
    refine wpHz_take (i := 11) (d := 14) (v := .int .i64 0) rfl rfl (by kernel_rfl) (by kernel_rfl) (by kernel_rfl) (fun _ _ _ h => h) rfl (fun W _ => by go_simp) hD1 ?_
    simp only [Act.put, List.setIfInBounds_toArray, List.set_cons_zero, List.set_cons_succ]
    refine wpAnyH_done (by kernel_rfl) ?_ _
    have HB6 := Lib.hid (HBX2.out.trans (hD1.mono HBX2.out.size))
    clear HBX2 hD0 hD1 HD02
    go_wp2_with fail
    refine wp_world HB6.out (fun wx hbx => ?_)
    have HBX2 := Lib.hid hbx
    clear hbx
    refine wp_region_held (S := fun W => Below wx.heap.size wx W) (by kernel_rfl) ?_
    change wpAnyH _ _ _ _ _ 12 _ _ wx.drew
    have hD0 := (Below.refl wx.heap.size wx).drew
    generalize wx.drew = W at *
    refine wpHz_take (i := 0) (d := 60) (v := .slice (some ⟨g, 0, none⟩) 3 cl) rfl rfl (by kernel_rfl) (by kernel_rfl) (by kernel_rfl) (fun _ _ _ h => h) rfl (fun W _ => by go_simp) hD0 ?_
    simp only [Act.put, List.setIfInBounds_toArray, List.set_cons_zero, List.set_cons_succ]
    refine wpHz_take (i := 1) (d := 61) (v := .pointer (some ⟨g, 1, none⟩)) rfl rfl (by kernel_rfl) (by kernel_rfl) (by kernel_rfl) (fun _ _ _ h => h) rfl (fun W _ => by go_simp) hD0 ?_
    simp only [Act.put, List.setIfInBounds_toArray, List.set_cons_zero, List.set_cons_succ]
    refine wpHz_take (i := 2) (d := 62) (v := .slice a1 M q1) rfl rfl (by kernel_rfl) (by kernel_rfl) (by kernel_rfl) (fun _ _ _ h => h) rfl (fun W hW => by have e0 := (HLC.out W (HBX2.out.trans (hW.mono HBX2.out.size))).2.1; go_simp) hD0 ?_
    simp only [Act.put, List.setIfInBounds_toArray, List.set_cons_zero, List.set_cons_succ]
    refine wpHz_take (i := 3) (d := 63) (v := .slice (some ⟨g, 0, none⟩) 3 cl) rfl rfl (by kernel_rfl) (by kernel_rfl) (by kernel_rfl) (fun _ _ _ h => h) rfl (fun W _ => by go_simp) hD0 ?_
    simp only [Act.put, List.setIfInBounds_toArray, List.set_cons_zero, List.set_cons_succ]
    refine wpHz_take (i := 4) (d := 64) (v := .pointer (some ⟨g, 0, none⟩)) rfl rfl (by kernel_rfl) (by kernel_rfl) (by kernel_rfl) (fun _ _ _ h => h) rfl (fun W _ => by go_simp) hD0 ?_
    simp only [Act.put, List.setIfInBounds_toArray, List.set_cons_zero, List.set_cons_succ]
    refine wpHz_take (i := 5) (d := 65) (v := .slice a0 N q0) rfl rfl (by kernel_rfl) (by kernel_rfl) (by kernel_rfl) (fun _ _ _ h => h) rfl (fun W hW => by have e0 := (HLC.out W (HBX2.out.trans (hW.mono HBX2.out.size))).1; go_simp) hD0 ?_
    simp only [Act.put, List.setIfInBounds_toArray, List.set_cons_zero, List.set_cons_succ]
    refine wpHz_one (i := 6) (by kernel_rfl) ?_
    refine wpOz_run rfl rfl (wpz_enter (d := 66) rfl (by go_simp) ((HD10.out _ (HBX2.out.trans (hD0.mono HBX2.out.size))).mono ?_))
    rintro e v1 ⟨rfl, hb⟩
    have hD1 : Below wx.heap.size wx v1 := hD0.trans (hb.mono hD0.size)
    clear hb
    refine ⟨_, rfl, hD1, ?_⟩
    simp only [Act.put, List.setIfInBounds_toArray, List.set_cons_zero, List.set_cons_succ]
    refine wpHz_take (i := 7) (d := 59) (v := .tuple #[.string tx, .int .i64 0]) rfl rfl (by kernel_rfl) (by kernel_rfl) (by kernel_rfl) (fun _ _ _ h => h) rfl (fun W _ => by go_simp) hD1 ?_
    simp only [Act.put, List.setIfInBounds_toArray, List.set_cons_zero, List.set_cons_succ]
    refine wpHz_take (i := 8) (d := 67) (v := .string tx) rfl rfl (by kernel_rfl) (by kernel_rfl) (by kernel_rfl) (fun _ _ _ h => h) rfl (fun W _ => by go_simp) hD1 ?_
    simp only [Act.put, List.setIfInBounds_toArray, List.set_cons_zero, List.set_cons_succ]
    refine wpHz_take (i := 9) (d := 68) (v := .int .i64 0) rfl rfl (by kernel_rfl) (by kernel_rfl) (by kernel_rfl) (fun _ _ _ h => h) rfl (fun W _ => by go_simp) hD1 ?_
    simp only [Act.put, List.setIfInBounds_toArray, List.set_cons_zero, List.set_cons_succ]
    refine wpHz_take (i := 10) (d := 15) (v := .string tx) rfl rfl (by kernel_rfl) (by kernel_rfl) (by kernel_rfl) (fun _ _ _ h => h) rfl (fun W _ => by go_simp) hD1 ?_
    simp only [Act.put, List.setIfInBounds_toArray, List.set_cons_zero, List.set_cons_succ]
    refine wpHz_take (i := 11) (d := 16) (v := .int .i64 0) rfl rfl (by kernel_rfl) (by kernel_rfl) (by kernel_rfl) (fun _ _ _ h => h) rfl (fun W _ => by go_simp) hD1 ?_
    simp only [Act.put, List.setIfInBounds_toArray, List.set_cons_zero, List.set_cons_succ]
    refine wpAnyH_done (by kernel_rfl) ?_ _
    have HB7 := Lib.hid (HBX2.out.trans (hD1.mono HBX2.out.size))
    clear HBX2 hD0 hD1 HD10
    go_wp2_with fail
    refine wp_world HB7.out (fun wx hbx => ?_)
    have HBX2 := Lib.hid hbx
    clear hbx
    refine wp_region_held (S := fun W => Below wx.heap.size wx W) (by kernel_rfl) ?_
    change wpAnyH _ _ _ _ _ 43 _ _ wx.drew
    have hD0 := (Below.refl wx.heap.size wx).drew
    generalize wx.drew = W at *
    refine wpHz_take (i := 0) (d := 69) (v := .int .i64 0) rfl rfl (by kernel_rfl) (by kernel_rfl) (by kernel_rfl) (fun _ _ _ h => h) rfl (fun W _ => by go_simp) hD0 ?_
    simp only [Act.put, List.setIfInBounds_toArray, List.set_cons_zero, List.set_cons_succ]
    refine wpHz_take (i := 1) (d := 70) (v := .bool true) rfl rfl (by kernel_rfl) (by kernel_rfl) (by kernel_rfl) (fun _ _ _ h => h) rfl (fun W _ => by go_simp) hD0 ?_
    simp only [Act.put, List.setIfInBounds_toArray, List.set_cons_zero, List.set_cons_succ]
    refine wpHz_take (i := 2) (d := 71) (v := .bool true) rfl rfl (by kernel_rfl) (by kernel_rfl) (by kernel_rfl) (fun _ _ _ h => h) rfl (fun W _ => by go_simp) hD0 ?_
    simp only [Act.put, List.setIfInBounds_toArray, List.set_cons_zero, List.set_cons_succ]
    refine wpHz_takeG (i := 3) (d := 72) (v := .int .i64 0) rfl rfl (by kernel_rfl) (by kernel_rfl) (by kernel_rfl) (fun _ _ _ h => h) rfl (fun W _ => by go_simp) hD0 ?_
    simp only [Act.put, List.setIfInBounds_toArray, List.set_cons_zero, List.set_cons_succ]
    refine wpHz_takeG (i := 4) (d := 73) (v := .bool true) rfl rfl (by kernel_rfl) (by kernel_rfl) (by kernel_rfl) (fun _ _ _ h => h) rfl (fun W _ => by go_simp) hD0 ?_
    simp only [Act.put, List.setIfInBounds_toArray, List.set_cons_zero, List.set_cons_succ]
    refine wpHz_take (i := 5) (d := 74) (v := .bool true) rfl rfl (by kernel_rfl) (by kernel_rfl) (by kernel_rfl) (fun _ _ _ h => h) rfl (fun W _ => by go_simp) hD0 ?_
    simp only [Act.put, List.setIfInBounds_toArray, List.set_cons_zero, List.set_cons_succ]
    refine wpHz_take (i := 6) (d := 75) (v := .bool true) rfl rfl (by kernel_rfl) (by kernel_rfl) (by kernel_rfl) (fun _ _ _ h => h) rfl (fun W _ => by go_simp) hD0 ?_
    simp only [Act.put, List.setIfInBounds_toArray, List.set_cons_zero, List.set_cons_succ]
    refine wpHz_takeG (i := 7) (d := 76) (v := .int .i64 0) rfl rfl (by kernel_rfl) (by kernel_rfl) (by kernel_rfl) (fun _ _ _ h => h) rfl (fun W _ => by go_simp) hD0 ?_
    simp only [Act.put, List.setIfInBounds_toArray, List.set_cons_zero, List.set_cons_succ]
    refine wpHz_takeG (i := 8) (d := 77) (v := .bool true) rfl rfl (by kernel_rfl) (by kernel_rfl) (by kernel_rfl) (fun _ _ _ h => h) rfl (fun W _ => by go_simp) hD0 ?_
    simp only [Act.put, List.setIfInBounds_toArray, List.set_cons_zero, List.set_cons_succ]
    refine wpHz_take (i := 9) (d := 78) (v := .bool true) rfl rfl (by kernel_rfl) (by kernel_rfl) (by kernel_rfl) (fun _ _ _ h => h) rfl (fun W _ => by go_simp) hD0 ?_
    simp only [Act.put, List.setIfInBounds_toArray, List.set_cons_zero, List.set_cons_succ]
    refine wpHz_take (i := 10) (d := 79) (v := .bool true) rfl rfl (by kernel_rfl) (by kernel_rfl) (by kernel_rfl) (fun _ _ _ h => h) rfl (fun W _ => by go_simp) hD0 ?_
    simp only [Act.put, List.setIfInBounds_toArray, List.set_cons_zero, List.set_cons_succ]
    refine wpHz_takeG (i := 11) (d := 80) (v := .int .i64 0) rfl rfl (by kernel_rfl) (by kernel_rfl) (by kernel_rfl) (fun _ _ _ h => h) rfl (fun W _ => by go_simp) hD0 ?_
    simp only [Act.put, List.setIfInBounds_toArray, List.set_cons_zero, List.set_cons_succ]
    refine wpHz_takeG (i := 12) (d := 81) (v := .bool true) rfl rfl (by kernel_rfl) (by kernel_rfl) (by kernel_rfl) (fun _ _ _ h => h) rfl (fun W _ => by go_simp) hD0 ?_
    simp only [Act.put, List.setIfInBounds_toArray, List.set_cons_zero, List.set_cons_succ]
    refine wpHz_take (i := 13) (d := 82) (v := .bool true) rfl rfl (by kernel_rfl) (by kernel_rfl) (by kernel_rfl) (fun _ _ _ h => h) rfl (fun W _ => by go_simp) hD0 ?_
    simp only [Act.put, List.setIfInBounds_toArray, List.set_cons_zero, List.set_cons_succ]
    refine wpHz_take (i := 14) (d := 83) (v := .bool true) rfl rfl (by kernel_rfl) (by kernel_rfl) (by kernel_rfl) (fun _ _ _ h => h) rfl (fun W _ => by go_simp) hD0 ?_
    simp only [Act.put, List.setIfInBounds_toArray, List.set_cons_zero, List.set_cons_succ]
    refine wpHz_takeG (i := 15) (d := 84) (v := .string tx) rfl rfl (by kernel_rfl) (by kernel_rfl) (by kernel_rfl) (fun _ _ _ h => h) rfl (fun W _ => by go_simp) hD0 ?_
    simp only [Act.put, List.setIfInBounds_toArray, List.set_cons_zero, List.set_cons_succ]
    refine wpHz_takeG (i := 16) (d := 85) (v := .string tx) rfl rfl (by kernel_rfl) (by kernel_rfl) (by kernel_rfl) (fun _ _ _ h => h) rfl (fun W _ => by go_simp) hD0 ?_
    simp only [Act.put, List.setIfInBounds_toArray, List.set_cons_zero, List.set_cons_succ]
    refine wpHz_takeG (i := 17) (d := 86) (v := .bool true) rfl rfl (by kernel_rfl) (by kernel_rfl) (by kernel_rfl) (fun _ _ _ h => h) rfl (fun W _ => by go_simp) hD0 ?_
    simp only [Act.put, List.setIfInBounds_toArray, List.set_cons_zero, List.set_cons_succ]
    refine wpHz_take (i := 18) (d := 87) (v := .bool true) rfl rfl (by kernel_rfl) (by kernel_rfl) (by kernel_rfl) (fun _ _ _ h => h) rfl (fun W _ => by go_simp) hD0 ?_
    simp only [Act.put, List.setIfInBounds_toArray, List.set_cons_zero, List.set_cons_succ]
    refine wpHz_take (i := 19) (d := 88) (v := .bool true) rfl rfl (by kernel_rfl) (by kernel_rfl) (by kernel_rfl) (fun _ _ _ h => h) rfl (fun W _ => by go_simp) hD0 ?_
    simp only [Act.put, List.setIfInBounds_toArray, List.set_cons_zero, List.set_cons_succ]
    refine wpHz_takeG (i := 20) (d := 89) (v := .string tx) rfl rfl (by kernel_rfl) (by kernel_rfl) (by kernel_rfl) (fun _ _ _ h => h) rfl (fun W _ => by go_simp) hD0 ?_
    simp only [Act.put, List.setIfInBounds_toArray, List.set_cons_zero, List.set_cons_succ]
    refine wpHz_one (i := 21) (by kernel_rfl) ?_
    refine wpOz_runG rfl rfl (wpz_enter (d := 90) rfl (by go_simp) ((HLE1.out _).mono ?_))
    rintro e v1 ⟨rfl, hb⟩
    have hD1 : Below wx.heap.size wx v1 := hD0.trans (hb.mono hD0.size)
    clear hb
    refine ⟨_, rfl, hD1, ?_⟩
    simp only [Act.put, List.setIfInBounds_toArray, List.set_cons_zero, List.set_cons_succ]
    refine wpHz_take (i := 22) (d := 91) (v := .bool true) rfl rfl (by kernel_rfl) (by kernel_rfl) (by kernel_rfl) (fun _ _ _ h => h) rfl (fun W _ => by go_simp) hD1 ?_
    simp only [Act.put, List.setIfInBounds_toArray, List.set_cons_zero, List.set_cons_succ]
    refine wpHz_take (i := 23) (d := 92) (v := .bool true) rfl rfl (by kernel_rfl) (by kernel_rfl) (by kernel_rfl) (fun _ _ _ h => h) rfl (fun W _ => by go_simp) hD1 ?_
    simp only [Act.put, List.setIfInBounds_toArray, List.set_cons_zero, List.set_cons_succ]
    refine wpHz_takeG (i := 24) (d := 93) (v := .string tx) rfl rfl (by kernel_rfl) (by kernel_rfl) (by kernel_rfl) (fun _ _ _ h => h) rfl (fun W _ => by go_simp) hD1 ?_
    simp only [Act.put, List.setIfInBounds_toArray, List.set_cons_zero, List.set_cons_succ]
    refine wpHz_takeG (i := 25) (d := 94) (v := .bool b) rfl rfl (by kernel_rfl) (by kernel_rfl) (by kernel_rfl) (fun _ _ _ h => h) rfl (fun W _ => by have e0 := HX0.out; go_simp) hD1 ?_
    simp only [Act.put, List.setIfInBounds_toArray, List.set_cons_zero, List.set_cons_succ]
    refine wpHz_takeG (i := 26) (d := 95) (v := .slice (some ⟨g, 0, none⟩) 3 cl) rfl rfl (by kernel_rfl) (by kernel_rfl) (by kernel_rfl) (fun _ _ _ h => h) rfl (fun W _ => by go_simp) hD1 ?_
    simp only [Act.put, List.setIfInBounds_toArray, List.set_cons_zero, List.set_cons_succ]
    refine wpHz_takeG (i := 27) (d := 96) (v := .pointer (some ⟨g, 0, none⟩)) rfl rfl (by kernel_rfl) (by kernel_rfl) (by kernel_rfl) (fun _ _ _ h => h) rfl (fun W _ => by go_simp) hD1 ?_
    simp only [Act.put, List.setIfInBounds_toArray, List.set_cons_zero, List.set_cons_succ]
    refine wpHz_takeG (i := 28) (d := 97) (v := .slice a0 N q0) rfl rfl (by kernel_rfl) (by kernel_rfl) (by kernel_rfl) (fun _ _ _ h => h) rfl (fun W hW => by have e0 := (HLC.out W (HBX2.out.trans (hW.mono HBX2.out.size))).1; go_simp) hD1 ?_
    simp only [Act.put, List.setIfInBounds_toArray, List.set_cons_zero, List.set_cons_succ]
    refine wpHz_takeG (i := 29) (d := 98) (v := .slice (some ⟨g, 0, none⟩) 3 cl) rfl rfl (by kernel_rfl) (by kernel_rfl) (by kernel_rfl) (fun _ _ _ h => h) rfl (fun W _ => by go_simp) hD1 ?_
    simp only [Act.put, List.setIfInBounds_toArray, List.set_cons_zero, List.set_cons_succ]
    refine wpHz_takeG (i := 30) (d := 99) (v := .pointer (some ⟨g, 1, none⟩)) rfl rfl (by kernel_rfl) (by kernel_rfl) (by kernel_rfl) (fun _ _ _ h => h) rfl (fun W _ => by go_simp) hD1 ?_
    simp only [Act.put, List.setIfInBounds_toArray, List.set_cons_zero, List.set_cons_succ]
    refine wpHz_takeG (i := 31) (d := 100) (v := .slice a1 M q1) rfl rfl (by kernel_rfl) (by kernel_rfl) (by kernel_rfl) (fun _ _ _ h => h) rfl (fun W hW => by have e0 := (HLC.out W (HBX2.out.trans (hW.mono HBX2.out.size))).2.1; go_simp) hD1 ?_
    simp only [Act.put, List.setIfInBounds_toArray, List.set_cons_zero, List.set_cons_succ]
    refine wpHz_one (i := 32) (by kernel_rfl) ?_
    refine wpOz_runG rfl rfl (wpz_enter (d := 101) rfl (by go_simp) ((HSM.out _ (HBX2.out.trans (hD1.mono HBX2.out.size))).mono ?_))
    rintro e v2 ⟨rfl, hb⟩
    have hD2 : Below wx.heap.size wx v2 := hD1.trans (hb.mono hD1.size)
    clear hb
    refine ⟨_, rfl, hD2, ?_⟩
    simp only [Act.put, List.setIfInBounds_toArray, List.set_cons_zero, List.set_cons_succ]
    refine wpHz_takeG (i := 33) (d := 102) (v := .bool true) rfl rfl (by kernel_rfl) (by kernel_rfl) (by kernel_rfl) (fun _ _ _ h => h) rfl (fun W _ => by go_simp) hD2 ?_
    simp only [Act.put, List.setIfInBounds_toArray, List.set_cons_zero, List.set_cons_succ]
    refine wpHz_take (i := 34) (d := 103) (v := .bool true) rfl rfl (by kernel_rfl) (by kernel_rfl) (by kernel_rfl) (fun _ _ _ h => h) rfl (fun W _ => by go_simp) hD2 ?_
    simp only [Act.put, List.setIfInBounds_toArray, List.set_cons_zero, List.set_cons_succ]
    refine wpHz_take (i := 35) (d := 104) (v := .bool true) rfl rfl (by kernel_rfl) (by kernel_rfl) (by kernel_rfl) (fun _ _ _ h => h) rfl (fun W _ => by go_simp) hD2 ?_
    simp only [Act.put, List.setIfInBounds_toArray, List.set_cons_zero, List.set_cons_succ]
    refine wpHz_takeG (i := 36) (d := 105) (v := .string tz) rfl rfl (by kernel_rfl) (by kernel_rfl) (by kernel_rfl) (fun _ _ _ h => h) rfl (fun W _ => by go_simp) hD2 ?_
    simp only [Act.put, List.setIfInBounds_toArray, List.set_cons_zero, List.set_cons_succ]
    refine wpHz_takeG (i := 37) (d := 106) (v := .string tx) rfl rfl (by kernel_rfl) (by kernel_rfl) (by kernel_rfl) (fun _ _ _ h => h) rfl (fun W _ => by go_simp) hD2 ?_
    simp only [Act.put, List.setIfInBounds_toArray, List.set_cons_zero, List.set_cons_succ]
    refine wpHz_takeG (i := 38) (d := 107) (v := .string ty) rfl rfl (by kernel_rfl) (by kernel_rfl) (by kernel_rfl) (fun _ _ _ h => h) rfl (fun W _ => by go_simp) hD2 ?_
    simp only [Act.put, List.setIfInBounds_toArray, List.set_cons_zero, List.set_cons_succ]
    refine wpHz_one (i := 39) (by kernel_rfl) ?_
    refine wpOz_runG rfl rfl (wpz_enter (d := 108) rfl (by go_simp) ((HPL.out _).mono ?_))
    rintro e v3 ⟨rfl, hb⟩
    have hD3 : Below wx.heap.size wx v3 := hD2.trans (hb.mono hD2.size)
    clear hb
    refine ⟨_, rfl, hD3, ?_⟩
    simp only [Act.put, List.setIfInBounds_toArray, List.set_cons_zero, List.set_cons_succ]
    refine wpHz_one (i := 40) (by kernel_rfl) ?_
    refine wpOz_runG rfl rfl (wpz_enter (d := 109) rfl (by go_simp) ((HLE2.out _).mono ?_))
    rintro e v4 ⟨rfl, hb⟩
    have hD4 : Below wx.heap.size wx v4 := hD3.trans (hb.mono hD3.size)
    clear hb
    refine ⟨_, rfl, hD4, ?_⟩
    simp only [Act.put, List.setIfInBounds_toArray, List.set_cons_zero, List.set_cons_succ]
    refine wpHz_take (i := 41) (d := 110) (v := .bool true) rfl rfl (by kernel_rfl) (by kernel_rfl) (by kernel_rfl) (fun _ _ _ h => h) rfl (fun W _ => by go_simp) hD4 ?_
    simp only [Act.put, List.setIfInBounds_toArray, List.set_cons_zero, List.set_cons_succ]
    refine wpHz_take (i := 42) (d := 6) (v := .bool true) rfl rfl (by kernel_rfl) (by kernel_rfl) (by kernel_rfl) (fun _ _ _ h => h) rfl (fun W _ => by go_simp) hD4 ?_
    simp only [Act.put, List.setIfInBounds_toArray, List.set_cons_zero, List.set_cons_succ]
    refine wpAnyH_done (by kernel_rfl) ?_ _
    have HB8 := Lib.hid (HBX2.out.trans (hD4.mono HBX2.out.size))
    clear HBX2 hD0 hD1 hD2 hD3 hD4 HLE1 HX0 HSM HPL HLE2 HLC
    go_wp2_with fail
    go_ret
    exact ⟨rfl, HB2.out.trans (HB8.out.mono HB2.out.size)⟩
end Go.Proofs.YtgkojegljeofeaaGreatDoor
