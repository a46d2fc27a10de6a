/-
  DistFactors is walked.
-/
import Derived.Test.YtgkojegljeofeaaGreatDoorZ23
import Derived.WalkSmall
namespace Go.Proofs.YtgkojegljeofeaaGreatDoor
open Go.RowKit NV Go.Maps Go.Sort Go.Shelf
open Go.Lib (decDigits)

set_option maxHeartbeats 12800000 in
set_option maxRecDepth 100000 in
theorem fac_any {A0 A1 : Option Addr} {n0 n1 c0 c1 : Nat} {L0 L1 : List MI} {s : ByteArray} {w : World} (h0 : MR w A0 n0 L0 ∧ n0 ≤ 9223372036854775807 ∧ MX L0) (h1 : MR w A1 n1 L1 ∧ n1 ≤ 9223372036854775807 ∧ MX L1) (hs : s.size ≤ 140737488351232) (htab : Tab w) (hm : ML w) :
    Calls Tryz.prog 10 #[.slice A0 n0 c0, .slice A1 n1 c1, .string s] w fun e w' => e = .returned (.bool true) ∧ Below w.heap.size w w' := by
  have HL := Lib.hid (lives8_any w htab hm)
  have HTM := Lib.hid (fun W (hb : Below w.heap.size w W) => And.intro (htab.below hb) (ml_keep hm (ml_pos hm) hb))
  have HMD := Lib.hid (fun W (hb : Below w.heap.size w W) => made2_any (c0 := c0) (c1 := c1) (w := W) ⟨h0.1.below hb, h0.2⟩ ⟨h1.1.below hb, h1.2⟩)
  have HNUM := Lib.hid (fun W => number_any s hs W)
  clear h0 h1 hs htab hm
  cases hnb : numB s with
  | false =>
    rw [hnb] at HNUM
    clear hnb
    go_enter Tryz.func10, Tryz.ntmps10
    go_wp2_with fail
    refine HL.out.mono ?_
    rintro e w1 ⟨rfl, hb⟩
    have HB := Lib.hid hb
    clear hb HL
    go_wp2_with fail
    refine (HMD.out _ HB.out).mono ?_
    rintro e w2 ⟨v, r, rfl, _, hb⟩
    have HB2 := Lib.hid (HB.out.trans (hb.mono HB.out.size))
    clear hb HMD HB
    cases r with
    | false =>
      go_wp2_with fail
      go_ret
      exact ⟨rfl, HB2.out⟩
    | true =>
      go_wp2_with fail
      refine (HNUM.out _).mono ?_
      rintro e w3 ⟨rfl, hb⟩
      have HB3 := Lib.hid (HB2.out.trans (hb.mono HB2.out.size))
      clear hb HNUM HB2
      go_wp2_with fail
      go_ret
      exact ⟨rfl, HB3.out⟩
  | true =>
    rw [hnb] at HNUM
    obtain ⟨f, hsf, hfo, hf0, hsz⟩ := numB_yes hnb
    have hfz : Sz 60 f := (Sz.of (d := 24) (by omega) (by rw [← hsf]; exact hsz)).mono (by omega)
    have HFF := Lib.hid (And.intro hsf (And.intro hfz hf0))
    clear hnb hsf hfo hf0 hsz hfz
    go_enter Tryz.func10, Tryz.ntmps10
    go_wp2_with fail
    refine HL.out.mono ?_
    rintro e w1 ⟨rfl, hb⟩
    have HB := Lib.hid hb
    clear hb HL
    go_wp2_with fail
    refine (HMD.out _ HB.out).mono ?_
    rintro e w2 ⟨v, r, rfl, hr, hb⟩
    have HB2 := Lib.hid (HB.out.trans (hb.mono HB.out.size))
    clear hb HMD HB
    cases r with
    | false =>
      clear hr
      go_wp2_with fail
      go_ret
      exact ⟨rfl, HB2.out⟩
    | true =>
      obtain ⟨g, cl, u0, u1, D0, D1, rfl, hg, hc0, hc1, d0, d1⟩ := hr rfl
      obtain ⟨hk0, hl0⟩ := chk_dv d0
      obtain ⟨hk1, hl1⟩ := chk_dv d1
      obtain ⟨a0, q0, rfl, m0, _⟩ := d0
      obtain ⟨a1, q1, rfl, m1, _⟩ := d1
      obtain ⟨P, hP⟩ : ∃ P, P = tZ D0 := ⟨_, rfl⟩
      obtain ⟨Q, hQ⟩ : ∃ Q, Q = tZ D1 := ⟨_, rfl⟩
      have hlP : P.length = D0.length := by rw [hP, tZ_len]
      have hlQ : Q.length = D1.length := by rw [hQ, tZ_len]
      rw [← hP] at m0 hl0 hk0
      rw [← hQ] at m1 hl1 hk1
      obtain ⟨N, hN⟩ : ∃ N, D0.length = N := ⟨_, rfl⟩
      obtain ⟨M, hM⟩ : ∃ M, D1.length = M := ⟨_, rfl⟩
      rw [hN] at m0 hlP hc0
      rw [hM] at m1 hlQ hc1
      have hN16 := (litB_yes hl0).1
      have hM16 := (litB_yes hl1).1
      rw [hlP] at hN16
      rw [hlQ] at hM16
      have HTW := Lib.hid (fun W (hb : Below w2.heap.size w2 W) => HTM.out W (HB2.out.trans (hb.mono HB2.out.size)))
      have HMR := Lib.hid (fun W (hb : Below w2.heap.size w2 W) => And.intro (m0.below hb) (m1.below hb))
      have HLC := Lib.hid (show ∀ W, Below w2.heap.size w2 W → W.cell? ⟨g, 0, none⟩ = some (.slice a0 N q0) ∧ W.cell? ⟨g, 1, none⟩ = some (.slice a1 M q1) from fun W hb => ⟨(hb.cell (p := ⟨g, 0, none⟩) hg).trans hc0, (hb.cell (p := ⟨g, 1, none⟩) hg).trans hc1⟩)
      have hdd : ∀ {t : Rat} {W : World}, Below w2.heap.size w2 W → Sz 60 t → 0 ≤ t → Calls Tryz.prog 17 #[.slice a0 N q0, .slice a1 M q1, .string (qstr t)] W (fun e w' => e = .returned (.tuple #[.string (qstr (dl P Q t)), .int .i64 0]) ∧ Below W.heap.size W w') := fun {t W} hb ht h0 => by
        have h := Delta_any (c1 := q0) (c2 := q1) (sf := qstr t) (HMR.out W hb).1 (HMR.out W hb).2 (by omega) (by omega) (litB_ml hl0) (litB_ml hl1) (Nat.le_trans (qstr_size (ht.qok (by omega) (by omega))) (by omega)) (HTW.out W hb).1 (HTW.out W hb).2
        rw [dlt_is2 hl0 hl1 hk0 hk1 ht h0] at h
        exact h
      have hff : ∀ W, Below w2.heap.size w2 W → Calls Tryz.prog 19 #[.slice a0 N q0, .slice a1 M q1] W (TR (facE P Q) W) := fun W hb =>
        Factor_any (c1 := q0) (c2 := q1) (HMR.out W hb).1 (HMR.out W hb).2 (by omega) (by omega) (litB_ml hl0) (litB_ml hl1) (HTW.out W hb).1 (HTW.out W hb).2
      obtain ⟨hsf, hfz, hf0⟩ := HFF.out
      obtain ⟨td, htd⟩ : ∃ td, td = qstr (dl P Q f) := ⟨_, rfl⟩
      have HDF := Lib.hid (show ∀ W, Below w2.heap.size w2 W → Calls Tryz.prog 17 #[.slice a0 N q0, .slice a1 M q1, .string s] W (fun e w' => e = .returned (.tuple #[.string td, .int .i64 0]) ∧ Below W.heap.size W w') from fun W hb => by
        rw [hsf, htd]
        exact hdd hb hfz hf0)
      have h48 : ([48] : List UInt8) = (⟨#[48]⟩ : ByteArray).toList := by rw [Lib.toList_data]
      cases hall : allZ P Q with
      | false =>
        obtain ⟨hfe, hne⟩ := fac_no hk0 hk1 hall
        have HFA := Lib.hid (show ∀ W, Below w2.heap.size w2 W → Calls Tryz.prog 19 #[.slice a0 N q0, .slice a1 M q1] W (fun e w' => e = .returned (.tuple #[.string ⟨#[]⟩, .bool false, .int .i64 0]) ∧ Below W.heap.size W w') from fun W hb => by
          have h := hff W hb
          rw [hfe] at h
          exact h)
        have hx0 : (td.toList == [48]) = false := by
          rw [h48, eq_b, decide_eq_false_iff_not]
          exact fun e => hne f (q0_iff.1 (by rw [← htd]; exact ba_extZ e))
        have HX0 := Lib.hid hx0
        have HB3 := Lib.hid (Below.refl w2.heap.size w2)
        clear hx0 h48 hfe hne hall hsf hfz hf0 htd hff hdd HTW HMR HTM HFF hr hc0 hc1 m0 m1 hk0 hk1 hl0 hl1 hlP hlQ hP hQ hN hM
        go_wp2_with fail
        refine (HNUM.out _).mono ?_
        rintro e w3 ⟨rfl, hb⟩
        replace HB3 := Lib.hid hb
        clear hb HNUM
        go_wp2_with fail
        refine wp_world HB3.out (fun wx hbx => ?_)
        have HBX2 := Lib.hid hbx
        clear hbx
        refine wp_region_held (S := fun W => Below wx.heap.size wx W) (by kernel_rfl) ?_
        change wpAnyH _ _ _ _ _ 14 _ _ wx.drew
        have hD0 := (Below.refl wx.heap.size wx).drew
        generalize wx.drew = W at *
        refine wpHz_take (i := 0) (d := 33) (v := .slice (some ⟨g, 0, none⟩) 2 cl) rfl rfl (by kernel_rfl) (by kernel_rfl) (by kernel_rfl) (fun _ _ _ h => h) rfl (fun W _ => by go_simp) hD0 ?_
        simp only [Act.put, List.setIfInBounds_toArray, List.set_cons_zero, List.set_cons_succ]
        refine wpHz_take (i := 1) (d := 34) (v := .pointer (some ⟨g, 0, none⟩)) rfl rfl (by kernel_rfl) (by kernel_rfl) (by kernel_rfl) (fun _ _ _ h => h) rfl (fun W _ => by go_simp) hD0 ?_
        simp only [Act.put, List.setIfInBounds_toArray, List.set_cons_zero, List.set_cons_succ]
        refine wpHz_take (i := 2) (d := 35) (v := .slice a0 N q0) rfl rfl (by kernel_rfl) (by kernel_rfl) (by kernel_rfl) (fun _ _ _ h => h) rfl (fun W hW => by have e0 := (HLC.out W (HBX2.out.trans (hW.mono HBX2.out.size))).1; go_simp) hD0 ?_
        simp only [Act.put, List.setIfInBounds_toArray, List.set_cons_zero, List.set_cons_succ]
        refine wpHz_take (i := 3) (d := 36) (v := .slice (some ⟨g, 0, none⟩) 2 cl) rfl rfl (by kernel_rfl) (by kernel_rfl) (by kernel_rfl) (fun _ _ _ h => h) rfl (fun W _ => by go_simp) hD0 ?_
        simp only [Act.put, List.setIfInBounds_toArray, List.set_cons_zero, List.set_cons_succ]
        refine wpHz_take (i := 4) (d := 37) (v := .pointer (some ⟨g, 1, none⟩)) rfl rfl (by kernel_rfl) (by kernel_rfl) (by kernel_rfl) (fun _ _ _ h => h) rfl (fun W _ => by go_simp) hD0 ?_
        simp only [Act.put, List.setIfInBounds_toArray, List.set_cons_zero, List.set_cons_succ]
        refine wpHz_take (i := 5) (d := 38) (v := .slice a1 M q1) rfl rfl (by kernel_rfl) (by kernel_rfl) (by kernel_rfl) (fun _ _ _ h => h) rfl (fun W hW => by have e0 := (HLC.out W (HBX2.out.trans (hW.mono HBX2.out.size))).2; go_simp) hD0 ?_
        simp only [Act.put, List.setIfInBounds_toArray, List.set_cons_zero, List.set_cons_succ]
        refine wpHz_one (i := 6) (by kernel_rfl) ?_
        refine wpOz_run rfl rfl (wpz_enter (d := 39) rfl (by go_simp) ((HFA.out _ (HBX2.out.trans (hD0.mono HBX2.out.size))).mono ?_))
        rintro e v1 ⟨rfl, hb⟩
        have hD1 : Below wx.heap.size wx v1 := hD0.trans (hb.mono hD0.size)
        clear hb
        refine ⟨_, rfl, hD1, ?_⟩
        simp only [Act.put, List.setIfInBounds_toArray, List.set_cons_zero, List.set_cons_succ]
        refine wpHz_take (i := 7) (d := 32) (v := .tuple #[.string ⟨#[]⟩, .bool false, .int .i64 0]) rfl rfl (by kernel_rfl) (by kernel_rfl) (by kernel_rfl) (fun _ _ _ h => h) rfl (fun W _ => by go_simp) hD1 ?_
        simp only [Act.put, List.setIfInBounds_toArray, List.set_cons_zero, List.set_cons_succ]
        refine wpHz_take (i := 8) (d := 40) (v := .string ⟨#[]⟩) rfl rfl (by kernel_rfl) (by kernel_rfl) (by kernel_rfl) (fun _ _ _ h => h) rfl (fun W _ => by go_simp) hD1 ?_
        simp only [Act.put, List.setIfInBounds_toArray, List.set_cons_zero, List.set_cons_succ]
        refine wpHz_take (i := 9) (d := 41) (v := .bool false) rfl rfl (by kernel_rfl) (by kernel_rfl) (by kernel_rfl) (fun _ _ _ h => h) rfl (fun W _ => by go_simp) hD1 ?_
        simp only [Act.put, List.setIfInBounds_toArray, List.set_cons_zero, List.set_cons_succ]
        refine wpHz_take (i := 10) (d := 42) (v := .int .i64 0) rfl rfl (by kernel_rfl) (by kernel_rfl) (by kernel_rfl) (fun _ _ _ h => h) rfl (fun W _ => by go_simp) hD1 ?_
        simp only [Act.put, List.setIfInBounds_toArray, List.set_cons_zero, List.set_cons_succ]
        refine wpHz_take (i := 11) (d := 9) (v := .string ⟨#[]⟩) rfl rfl (by kernel_rfl) (by kernel_rfl) (by kernel_rfl) (fun _ _ _ h => h) rfl (fun W _ => by go_simp) hD1 ?_
        simp only [Act.put, List.setIfInBounds_toArray, List.set_cons_zero, List.set_cons_succ]
        refine wpHz_take (i := 12) (d := 10) (v := .bool false) rfl rfl (by kernel_rfl) (by kernel_rfl) (by kernel_rfl) (fun _ _ _ h => h) rfl (fun W _ => by go_simp) hD1 ?_
        simp only [Act.put, List.setIfInBounds_toArray, List.set_cons_zero, List.set_cons_succ]
        refine wpHz_take (i := 13) (d := 11) (v := .int .i64 0) rfl rfl (by kernel_rfl) (by kernel_rfl) (by kernel_rfl) (fun _ _ _ h => h) rfl (fun W _ => by go_simp) hD1 ?_
        simp only [Act.put, List.setIfInBounds_toArray, List.set_cons_zero, List.set_cons_succ]
        refine wpAnyH_done (by kernel_rfl) ?_ _
        have HB4 := Lib.hid (HBX2.out.trans (hD1.mono HBX2.out.size))
        clear HBX2 hD0 hD1 HFA
        go_wp2_with fail
        refine wp_world HB4.out (fun wx hbx => ?_)
        have HBX2 := Lib.hid hbx
        clear hbx
        refine wp_region_held (S := fun W => Below wx.heap.size wx W) (by kernel_rfl) ?_
        change wpAnyH _ _ _ _ _ 13 _ _ wx.drew
        have hD0 := (Below.refl wx.heap.size wx).drew
        generalize wx.drew = W at *
        refine wpHz_take (i := 0) (d := 44) (v := .slice (some ⟨g, 0, none⟩) 2 cl) rfl rfl (by kernel_rfl) (by kernel_rfl) (by kernel_rfl) (fun _ _ _ h => h) rfl (fun W _ => by go_simp) hD0 ?_
        simp only [Act.put, List.setIfInBounds_toArray, List.set_cons_zero, List.set_cons_succ]
        refine wpHz_take (i := 1) (d := 45) (v := .pointer (some ⟨g, 0, none⟩)) rfl rfl (by kernel_rfl) (by kernel_rfl) (by kernel_rfl) (fun _ _ _ h => h) rfl (fun W _ => by go_simp) hD0 ?_
        simp only [Act.put, List.setIfInBounds_toArray, List.set_cons_zero, List.set_cons_succ]
        refine wpHz_take (i := 2) (d := 46) (v := .slice a0 N q0) rfl rfl (by kernel_rfl) (by kernel_rfl) (by kernel_rfl) (fun _ _ _ h => h) rfl (fun W hW => by have e0 := (HLC.out W (HBX2.out.trans (hW.mono HBX2.out.size))).1; go_simp) hD0 ?_
        simp only [Act.put, List.setIfInBounds_toArray, List.set_cons_zero, List.set_cons_succ]
        refine wpHz_take (i := 3) (d := 47) (v := .slice (some ⟨g, 0, none⟩) 2 cl) rfl rfl (by kernel_rfl) (by kernel_rfl) (by kernel_rfl) (fun _ _ _ h => h) rfl (fun W _ => by go_simp) hD0 ?_
        simp only [Act.put, List.setIfInBounds_toArray, List.set_cons_zero, List.set_cons_succ]
        refine wpHz_take (i := 4) (d := 48) (v := .pointer (some ⟨g, 1, none⟩)) rfl rfl (by kernel_rfl) (by kernel_rfl) (by kernel_rfl) (fun _ _ _ h => h) rfl (fun W _ => by go_simp) hD0 ?_
        simp only [Act.put, List.setIfInBounds_toArray, List.set_cons_zero, List.set_cons_succ]
        refine wpHz_take (i := 5) (d := 49) (v := .slice a1 M q1) rfl rfl (by kernel_rfl) (by kernel_rfl) (by kernel_rfl) (fun _ _ _ h => h) rfl (fun W hW => by have e0 := (HLC.out W (HBX2.out.trans (hW.mono HBX2.out.size))).2; go_simp) hD0 ?_
        simp only [Act.put, List.setIfInBounds_toArray, List.set_cons_zero, List.set_cons_succ]
        refine wpHz_take (i := 6) (d := 50) (v := .string s) rfl rfl (by kernel_rfl) (by kernel_rfl) (by kernel_rfl) (fun _ _ _ h => h) rfl (fun W _ => by go_simp) hD0 ?_
        simp only [Act.put, List.setIfInBounds_toArray, List.set_cons_zero, List.set_cons_succ]
        refine wpHz_one (i := 7) (by kernel_rfl) ?_
        refine wpOz_run rfl rfl (wpz_enter (d := 51) rfl (by go_simp) ((HDF.out _ (HBX2.out.trans (hD0.mono HBX2.out.size))).mono ?_))
        rintro e v1 ⟨rfl, hb⟩
        have hD1 : Below wx.heap.size wx v1 := hD0.trans (hb.mono hD0.size)
        clear hb
        refine ⟨_, rfl, hD1, ?_⟩
        simp only [Act.put, List.setIfInBounds_toArray, List.set_cons_zero, List.set_cons_succ]
        refine wpHz_take (i := 8) (d := 43) (v := .tuple #[.string td, .int .i64 0]) rfl rfl (by kernel_rfl) (by kernel_rfl) (by kernel_rfl) (fun _ _ _ h => h) rfl (fun W _ => by go_simp) hD1 ?_
        simp only [Act.put, List.setIfInBounds_toArray, List.set_cons_zero, List.set_cons_succ]
        refine wpHz_take (i := 9) (d := 52) (v := .string td) rfl rfl (by kernel_rfl) (by kernel_rfl) (by kernel_rfl) (fun _ _ _ h => h) rfl (fun W _ => by go_simp) hD1 ?_
        simp only [Act.put, List.setIfInBounds_toArray, List.set_cons_zero, List.set_cons_succ]
        refine wpHz_take (i := 10) (d := 53) (v := .int .i64 0) rfl rfl (by kernel_rfl) (by kernel_rfl) (by kernel_rfl) (fun _ _ _ h => h) rfl (fun W _ => by go_simp) hD1 ?_
        simp only [Act.put, List.setIfInBounds_toArray, List.set_cons_zero, List.set_cons_succ]
        refine wpHz_take (i := 11) (d := 12) (v := .string td) rfl rfl (by kernel_rfl) (by kernel_rfl) (by kernel_rfl) (fun _ _ _ h => h) rfl (fun W _ => by go_simp) hD1 ?_
        simp only [Act.put, List.setIfInBounds_toArray, List.set_cons_zero, List.set_cons_succ]
        refine wpHz_take (i := 12) (d := 13) (v := .int .i64 0) rfl rfl (by kernel_rfl) (by kernel_rfl) (by kernel_rfl) (fun _ _ _ h => h) rfl (fun W _ => by go_simp) hD1 ?_
        simp only [Act.put, List.setIfInBounds_toArray, List.set_cons_zero, List.set_cons_succ]
        refine wpAnyH_done (by kernel_rfl) ?_ _
        have HB5 := Lib.hid (HBX2.out.trans (hD1.mono HBX2.out.size))
        clear HBX2 hD0 hD1 HDF
        have hx0 := HX0.out
        go_wp2_with fail
        go_ret
        exact ⟨rfl, HB2.out.trans (HB5.out.mono HB2.out.size)⟩
      | true =>
        obtain ⟨r, hfe, hrz, hr0, hd0, hr1, hiff⟩ := fac_yes hl0 hl1 hk0 hk1 hall
        obtain ⟨tr, htr⟩ : ∃ tr, tr = qstr r := ⟨_, rfl⟩
        have HFA := Lib.hid (show ∀ W, Below w2.heap.size w2 W → Calls Tryz.prog 19 #[.slice a0 N q0, .slice a1 M q1] W (fun e w' => e = .returned (.tuple #[.string tr, .bool true, .int .i64 0]) ∧ Below W.heap.size W w') from fun W hb => by
          have h := hff W hb
          rw [hfe, ← htr] at h
          exact h)
        have HDR := Lib.hid (show ∀ W, Below w2.heap.size w2 W → Calls Tryz.prog 17 #[.slice a0 N q0, .slice a1 M q1, .string tr] W (fun e w' => e = .returned (.tuple #[.string ⟨#[48]⟩, .int .i64 0]) ∧ Below W.heap.size W w') from fun W hb => by
          have h := hdd hb hrz hr0
          rw [hd0, q0Z, ← htr] at h
          exact h)
        have s1 : Sz 60 (1 : Rat) := Sz.mono (show Sz 1 (1 : Rat) from ⟨by decide, by decide⟩) (by omega)
        have HLE1 := Lib.hid (show ∀ W, Calls Tryz.prog 47 #[.string ⟨#[49]⟩, .string tr] W (Rb true W) from fun W => by
          have h := least_q (s1.qok (by omega) (by omega)) (hrz.qok (by omega) (by omega)) W
          rw [decide_eq_true hr1, q1Z, ← htr] at h
          exact h)
        obtain ⟨b, hb⟩ : ∃ b, b = decide (r ≤ f) := ⟨_, rfl⟩
        have HLE2 := Lib.hid (show ∀ W, Calls Tryz.prog 47 #[.string tr, .string s] W (Rb b W) from fun W => by
          have h := least_q (hrz.qok (by omega) (by omega)) (hfz.qok (by omega) (by omega)) W
          rw [← hb, ← htr, ← hsf] at h
          exact h)
        have hx0 : (td.toList == [48]) = b := by
          rw [h48, eq_b, hb]
          exact decide_eq_decide.2 ((show td.data.toList = _ ↔ dl P Q f = 0 from ⟨fun e => q0_iff.1 (by rw [← htd]; exact ba_extZ e), fun e => by rw [htd, q0_iff.2 e]⟩).trans (hiff f hf0))
        have HX0 := Lib.hid hx0
        have HB3 := Lib.hid (Below.refl w2.heap.size w2)
        clear hx0 h48 hfe hrz hr0 hd0 hr1 hiff htr s1 hb hall hsf hfz hf0 htd hff hdd HTW HMR HTM HFF hr hc0 hc1 m0 m1 hk0 hk1 hl0 hl1 hlP hlQ hP hQ hN hM
        go_wp2_with fail
        refine (HNUM.out _).mono ?_
        rintro e w3 ⟨rfl, hb⟩
        replace HB3 := Lib.hid hb
        clear hb HNUM
        go_wp2_with fail
        refine wp_world HB3.out (fun wx hbx => ?_)
        have HBX2 := Lib.hid hbx
        clear hbx
        refine wp_region_held (S := fun W => Below wx.heap.size wx W) (by kernel_rfl) ?_
        change wpAnyH _ _ _ _ _ 14 _ _ wx.drew
        have hD0 := (Below.refl wx.heap.size wx).drew
        generalize wx.drew = W at *
        refine wpHz_take (i := 0) (d := 33) (v := .slice (some ⟨g, 0, none⟩) 2 cl) rfl rfl (by kernel_rfl) (by kernel_rfl) (by kernel_rfl) (fun _ _ _ h => h) rfl (fun W _ => by go_simp) hD0 ?_
        simp only [Act.put, List.setIfInBounds_toArray, List.set_cons_zero, List.set_cons_succ]
        refine wpHz_take (i := 1) (d := 34) (v := .pointer (some ⟨g, 0, none⟩)) rfl rfl (by kernel_rfl) (by kernel_rfl) (by kernel_rfl) (fun _ _ _ h => h) rfl (fun W _ => by go_simp) hD0 ?_
        simp only [Act.put, List.setIfInBounds_toArray, List.set_cons_zero, List.set_cons_succ]
        refine wpHz_take (i := 2) (d := 35) (v := .slice a0 N q0) rfl rfl (by kernel_rfl) (by kernel_rfl) (by kernel_rfl) (fun _ _ _ h => h) rfl (fun W hW => by have e0 := (HLC.out W (HBX2.out.trans (hW.mono HBX2.out.size))).1; go_simp) hD0 ?_
        simp only [Act.put, List.setIfInBounds_toArray, List.set_cons_zero, List.set_cons_succ]
        refine wpHz_take (i := 3) (d := 36) (v := .slice (some ⟨g, 0, none⟩) 2 cl) rfl rfl (by kernel_rfl) (by kernel_rfl) (by kernel_rfl) (fun _ _ _ h => h) rfl (fun W _ => by go_simp) hD0 ?_
        simp only [Act.put, List.setIfInBounds_toArray, List.set_cons_zero, List.set_cons_succ]
        refine wpHz_take (i := 4) (d := 37) (v := .pointer (some ⟨g, 1, none⟩)) rfl rfl (by kernel_rfl) (by kernel_rfl) (by kernel_rfl) (fun _ _ _ h => h) rfl (fun W _ => by go_simp) hD0 ?_
        simp only [Act.put, List.setIfInBounds_toArray, List.set_cons_zero, List.set_cons_succ]
        refine wpHz_take (i := 5) (d := 38) (v := .slice a1 M q1) rfl rfl (by kernel_rfl) (by kernel_rfl) (by kernel_rfl) (fun _ _ _ h => h) rfl (fun W hW => by have e0 := (HLC.out W (HBX2.out.trans (hW.mono HBX2.out.size))).2; go_simp) hD0 ?_
        simp only [Act.put, List.setIfInBounds_toArray, List.set_cons_zero, List.set_cons_succ]
        refine wpHz_one (i := 6) (by kernel_rfl) ?_
        refine wpOz_run rfl rfl (wpz_enter (d := 39) rfl (by go_simp) ((HFA.out _ (HBX2.out.trans (hD0.mono HBX2.out.size))).mono ?_))
        rintro e v1 ⟨rfl, hb⟩
        have hD1 : Below wx.heap.size wx v1 := hD0.trans (hb.mono hD0.size)
        clear hb
        refine ⟨_, rfl, hD1, ?_⟩
        simp only [Act.put, List.setIfInBounds_toArray, List.set_cons_zero, List.set_cons_succ]
        refine wpHz_take (i := 7) (d := 32) (v := .tuple #[.string tr, .bool true, .int .i64 0]) rfl rfl (by kernel_rfl) (by kernel_rfl) (by kernel_rfl) (fun _ _ _ h => h) rfl (fun W _ => by go_simp) hD1 ?_
        simp only [Act.put, List.setIfInBounds_toArray, List.set_cons_zero, List.set_cons_succ]
        refine wpHz_take (i := 8) (d := 40) (v := .string tr) rfl rfl (by kernel_rfl) (by kernel_rfl) (by kernel_rfl) (fun _ _ _ h => h) rfl (fun W _ => by go_simp) hD1 ?_
        simp only [Act.put, List.setIfInBounds_toArray, List.set_cons_zero, List.set_cons_succ]
        refine wpHz_take (i := 9) (d := 41) (v := .bool true) rfl rfl (by kernel_rfl) (by kernel_rfl) (by kernel_rfl) (fun _ _ _ h => h) rfl (fun W _ => by go_simp) hD1 ?_
        simp only [Act.put, List.setIfInBounds_toArray, List.set_cons_zero, List.set_cons_succ]
        refine wpHz_take (i := 10) (d := 42) (v := .int .i64 0) rfl rfl (by kernel_rfl) (by kernel_rfl) (by kernel_rfl) (fun _ _ _ h => h) rfl (fun W _ => by go_simp) hD1 ?_
        simp only [Act.put, List.setIfInBounds_toArray, List.set_cons_zero, List.set_cons_succ]
        refine wpHz_take (i := 11) (d := 9) (v := .string tr) rfl rfl (by kernel_rfl) (by kernel_rfl) (by kernel_rfl) (fun _ _ _ h => h) rfl (fun W _ => by go_simp) hD1 ?_
        simp only [Act.put, List.setIfInBounds_toArray, List.set_cons_zero, List.set_cons_succ]
        refine wpHz_take (i := 12) (d := 10) (v := .bool true) rfl rfl (by kernel_rfl) (by kernel_rfl) (by kernel_rfl) (fun _ _ _ h => h) rfl (fun W _ => by go_simp) hD1 ?_
        simp only [Act.put, List.setIfInBounds_toArray, List.set_cons_zero, List.set_cons_succ]
        refine wpHz_take (i := 13) (d := 11) (v := .int .i64 0) rfl rfl (by kernel_rfl) (by kernel_rfl) (by kernel_rfl) (fun _ _ _ h => h) rfl (fun W _ => by go_simp) hD1 ?_
        simp only [Act.put, List.setIfInBounds_toArray, List.set_cons_zero, List.set_cons_succ]
        refine wpAnyH_done (by kernel_rfl) ?_ _
        have HB4 := Lib.hid (HBX2.out.trans (hD1.mono HBX2.out.size))
        clear HBX2 hD0 hD1 HFA
        go_wp2_with fail
        refine wp_world HB4.out (fun wx hbx => ?_)
        have HBX2 := Lib.hid hbx
        clear hbx
        refine wp_region_held (S := fun W => Below wx.heap.size wx W) (by kernel_rfl) ?_
        change wpAnyH _ _ _ _ _ 13 _ _ wx.drew
        have hD0 := (Below.refl wx.heap.size wx).drew
        generalize wx.drew = W at *
        refine wpHz_take (i := 0) (d := 44) (v := .slice (some ⟨g, 0, none⟩) 2 cl) rfl rfl (by kernel_rfl) (by kernel_rfl) (by kernel_rfl) (fun _ _ _ h => h) rfl (fun W _ => by go_simp) hD0 ?_
        simp only [Act.put, List.setIfInBounds_toArray, List.set_cons_zero, List.set_cons_succ]
        refine wpHz_take (i := 1) (d := 45) (v := .pointer (some ⟨g, 0, none⟩)) rfl rfl (by kernel_rfl) (by kernel_rfl) (by kernel_rfl) (fun _ _ _ h => h) rfl (fun W _ => by go_simp) hD0 ?_
        simp only [Act.put, List.setIfInBounds_toArray, List.set_cons_zero, List.set_cons_succ]
        refine wpHz_take (i := 2) (d := 46) (v := .slice a0 N q0) rfl rfl (by kernel_rfl) (by kernel_rfl) (by kernel_rfl) (fun _ _ _ h => h) rfl (fun W hW => by have e0 := (HLC.out W (HBX2.out.trans (hW.mono HBX2.out.size))).1; go_simp) hD0 ?_
        simp only [Act.put, List.setIfInBounds_toArray, List.set_cons_zero, List.set_cons_succ]
        refine wpHz_take (i := 3) (d := 47) (v := .slice (some ⟨g, 0, none⟩) 2 cl) rfl rfl (by kernel_rfl) (by kernel_rfl) (by kernel_rfl) (fun _ _ _ h => h) rfl (fun W _ => by go_simp) hD0 ?_
        simp only [Act.put, List.setIfInBounds_toArray, List.set_cons_zero, List.set_cons_succ]
        refine wpHz_take (i := 4) (d := 48) (v := .pointer (some ⟨g, 1, none⟩)) rfl rfl (by kernel_rfl) (by kernel_rfl) (by kernel_rfl) (fun _ _ _ h => h) rfl (fun W _ => by go_simp) hD0 ?_
        simp only [Act.put, List.setIfInBounds_toArray, List.set_cons_zero, List.set_cons_succ]
        refine wpHz_take (i := 5) (d := 49) (v := .slice a1 M q1) rfl rfl (by kernel_rfl) (by kernel_rfl) (by kernel_rfl) (fun _ _ _ h => h) rfl (fun W hW => by have e0 := (HLC.out W (HBX2.out.trans (hW.mono HBX2.out.size))).2; go_simp) hD0 ?_
        simp only [Act.put, List.setIfInBounds_toArray, List.set_cons_zero, List.set_cons_succ]
        refine wpHz_take (i := 6) (d := 50) (v := .string s) rfl rfl (by kernel_rfl) (by kernel_rfl) (by kernel_rfl) (fun _ _ _ h => h) rfl (fun W _ => by go_simp) hD0 ?_
        simp only [Act.put, List.setIfInBounds_toArray, List.set_cons_zero, List.set_cons_succ]
        refine wpHz_one (i := 7) (by kernel_rfl) ?_
        refine wpOz_run rfl rfl (wpz_enter (d := 51) rfl (by go_simp) ((HDF.out _ (HBX2.out.trans (hD0.mono HBX2.out.size))).mono ?_))
        rintro e v1 ⟨rfl, hb⟩
        have hD1 : Below wx.heap.size wx v1 := hD0.trans (hb.mono hD0.size)
        clear hb
        refine ⟨_, rfl, hD1, ?_⟩
        simp only [Act.put, List.setIfInBounds_toArray, List.set_cons_zero, List.set_cons_succ]
        refine wpHz_take (i := 8) (d := 43) (v := .tuple #[.string td, .int .i64 0]) rfl rfl (by kernel_rfl) (by kernel_rfl) (by kernel_rfl) (fun _ _ _ h => h) rfl (fun W _ => by go_simp) hD1 ?_
        simp only [Act.put, List.setIfInBounds_toArray, List.set_cons_zero, List.set_cons_succ]
        refine wpHz_take (i := 9) (d := 52) (v := .string td) rfl rfl (by kernel_rfl) (by kernel_rfl) (by kernel_rfl) (fun _ _ _ h => h) rfl (fun W _ => by go_simp) hD1 ?_
        simp only [Act.put, List.setIfInBounds_toArray, List.set_cons_zero, List.set_cons_succ]
        refine wpHz_take (i := 10) (d := 53) (v := .int .i64 0) rfl rfl (by kernel_rfl) (by kernel_rfl) (by kernel_rfl) (fun _ _ _ h => h) rfl (fun W _ => by go_simp) hD1 ?_
        simp only [Act.put, List.setIfInBounds_toArray, List.set_cons_zero, List.set_cons_succ]
        refine wpHz_take (i := 11) (d := 12) (v := .string td) rfl rfl (by kernel_rfl) (by kernel_rfl) (by kernel_rfl) (fun _ _ _ h => h) rfl (fun W _ => by go_simp) hD1 ?_
        simp only [Act.put, List.setIfInBounds_toArray, List.set_cons_zero, List.set_cons_succ]
        refine wpHz_take (i := 12) (d := 13) (v := .int .i64 0) rfl rfl (by kernel_rfl) (by kernel_rfl) (by kernel_rfl) (fun _ _ _ h => h) rfl (fun W _ => by go_simp) hD1 ?_
        simp only [Act.put, List.setIfInBounds_toArray, List.set_cons_zero, List.set_cons_succ]
        refine wpAnyH_done (by kernel_rfl) ?_ _
        have HB5 := Lib.hid (HBX2.out.trans (hD1.mono HBX2.out.size))
        clear HBX2 hD0 hD1 HDF
        go_wp2_with fail
        refine wp_world HB5.out (fun wx hbx => ?_)
        have HBX2 := Lib.hid hbx
        clear hbx
        refine wp_region_held (S := fun W => Below wx.heap.size wx W) (by kernel_rfl) ?_
        change wpAnyH _ _ _ _ _ 13 _ _ wx.drew
        have hD0 := (Below.refl wx.heap.size wx).drew
        generalize wx.drew = W at *
        refine wpHz_take (i := 0) (d := 75) (v := .slice (some ⟨g, 0, none⟩) 2 cl) rfl rfl (by kernel_rfl) (by kernel_rfl) (by kernel_rfl) (fun _ _ _ h => h) rfl (fun W _ => by go_simp) hD0 ?_
        simp only [Act.put, List.setIfInBounds_toArray, List.set_cons_zero, List.set_cons_succ]
        refine wpHz_take (i := 1) (d := 76) (v := .pointer (some ⟨g, 0, none⟩)) rfl rfl (by kernel_rfl) (by kernel_rfl) (by kernel_rfl) (fun _ _ _ h => h) rfl (fun W _ => by go_simp) hD0 ?_
        simp only [Act.put, List.setIfInBounds_toArray, List.set_cons_zero, List.set_cons_succ]
        refine wpHz_take (i := 2) (d := 77) (v := .slice a0 N q0) rfl rfl (by kernel_rfl) (by kernel_rfl) (by kernel_rfl) (fun _ _ _ h => h) rfl (fun W hW => by have e0 := (HLC.out W (HBX2.out.trans (hW.mono HBX2.out.size))).1; go_simp) hD0 ?_
        simp only [Act.put, List.setIfInBounds_toArray, List.set_cons_zero, List.set_cons_succ]
        refine wpHz_take (i := 3) (d := 78) (v := .slice (some ⟨g, 0, none⟩) 2 cl) rfl rfl (by kernel_rfl) (by kernel_rfl) (by kernel_rfl) (fun _ _ _ h => h) rfl (fun W _ => by go_simp) hD0 ?_
        simp only [Act.put, List.setIfInBounds_toArray, List.set_cons_zero, List.set_cons_succ]
        refine wpHz_take (i := 4) (d := 79) (v := .pointer (some ⟨g, 1, none⟩)) rfl rfl (by kernel_rfl) (by kernel_rfl) (by kernel_rfl) (fun _ _ _ h => h) rfl (fun W _ => by go_simp) hD0 ?_
        simp only [Act.put, List.setIfInBounds_toArray, List.set_cons_zero, List.set_cons_succ]
        refine wpHz_take (i := 5) (d := 80) (v := .slice a1 M q1) rfl rfl (by kernel_rfl) (by kernel_rfl) (by kernel_rfl) (fun _ _ _ h => h) rfl (fun W hW => by have e0 := (HLC.out W (HBX2.out.trans (hW.mono HBX2.out.size))).2; go_simp) hD0 ?_
        simp only [Act.put, List.setIfInBounds_toArray, List.set_cons_zero, List.set_cons_succ]
        refine wpHz_take (i := 6) (d := 81) (v := .string tr) rfl rfl (by kernel_rfl) (by kernel_rfl) (by kernel_rfl) (fun _ _ _ h => h) rfl (fun W _ => by go_simp) hD0 ?_
        simp only [Act.put, List.setIfInBounds_toArray, List.set_cons_zero, List.set_cons_succ]
        refine wpHz_one (i := 7) (by kernel_rfl) ?_
        refine wpOz_run rfl rfl (wpz_enter (d := 82) rfl (by go_simp) ((HDR.out _ (HBX2.out.trans (hD0.mono HBX2.out.size))).mono ?_))
        rintro e v1 ⟨rfl, hb⟩
        have hD1 : Below wx.heap.size wx v1 := hD0.trans (hb.mono hD0.size)
        clear hb
        refine ⟨_, rfl, hD1, ?_⟩
        simp only [Act.put, List.setIfInBounds_toArray, List.set_cons_zero, List.set_cons_succ]
        refine wpHz_take (i := 8) (d := 74) (v := .tuple #[.string ⟨#[48]⟩, .int .i64 0]) rfl rfl (by kernel_rfl) (by kernel_rfl) (by kernel_rfl) (fun _ _ _ h => h) rfl (fun W _ => by go_simp) hD1 ?_
        simp only [Act.put, List.setIfInBounds_toArray, List.set_cons_zero, List.set_cons_succ]
        refine wpHz_take (i := 9) (d := 83) (v := .string ⟨#[48]⟩) rfl rfl (by kernel_rfl) (by kernel_rfl) (by kernel_rfl) (fun _ _ _ h => h) rfl (fun W _ => by go_simp) hD1 ?_
        simp only [Act.put, List.setIfInBounds_toArray, List.set_cons_zero, List.set_cons_succ]
        refine wpHz_take (i := 10) (d := 84) (v := .int .i64 0) rfl rfl (by kernel_rfl) (by kernel_rfl) (by kernel_rfl) (fun _ _ _ h => h) rfl (fun W _ => by go_simp) hD1 ?_
        simp only [Act.put, List.setIfInBounds_toArray, List.set_cons_zero, List.set_cons_succ]
        refine wpHz_take (i := 11) (d := 14) (v := .string ⟨#[48]⟩) rfl rfl (by kernel_rfl) (by kernel_rfl) (by kernel_rfl) (fun _ _ _ h => h) rfl (fun W _ => by go_simp) hD1 ?_
        simp only [Act.put, List.setIfInBounds_toArray, List.set_cons_zero, List.set_cons_succ]
        refine wpHz_take (i := 12) (d := 15) (v := .int .i64 0) rfl rfl (by kernel_rfl) (by kernel_rfl) (by kernel_rfl) (fun _ _ _ h => h) rfl (fun W _ => by go_simp) hD1 ?_
        simp only [Act.put, List.setIfInBounds_toArray, List.set_cons_zero, List.set_cons_succ]
        refine wpAnyH_done (by kernel_rfl) ?_ _
        have HB6 := Lib.hid (HBX2.out.trans (hD1.mono HBX2.out.size))
        clear HBX2 hD0 hD1 HDR
        have hx0 := HX0.out
        go_wp2_with fail
        refine (HLE1.out _).mono ?_
        rintro e w4 ⟨rfl, hb4⟩
        have HB7 := Lib.hid (HB6.out.trans (hb4.mono HB6.out.size))
        clear hb4 HLE1
        go_wp2_with fail
        refine (HLE2.out _).mono ?_
        rintro e w5 ⟨rfl, hb5⟩
        have HB8 := Lib.hid (HB7.out.trans (hb5.mono HB7.out.size))
        clear hb5 HLE2
        go_wp2_with fail
        go_ret
        exact ⟨rfl, HB2.out.trans (HB8.out.mono HB2.out.size)⟩
end Go.Proofs.YtgkojegljeofeaaGreatDoor
