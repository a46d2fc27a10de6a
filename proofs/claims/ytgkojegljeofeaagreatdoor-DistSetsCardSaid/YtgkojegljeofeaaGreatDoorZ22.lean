/-
  DistSets is walked.
-/
import Derived.Test.YtgkojegljeofeaaGreatDoorZ21
import Derived.WalkSmall
namespace Go.Proofs.YtgkojegljeofeaaGreatDoor
open Go.RowKit NV Go.Maps Go.Sort Go.Shelf
open Go.Lib (decDigits)

theorem selZ (S k : Nat) (hS : S < 18446744073709551616) : (bits BinOp.and IntKind.u64 ((S : Int) / 2 ^ k) 1 == 1) = decide (S / 2 ^ k % 2 = 1) := by
  have e : ((S : Int) / 2 ^ k) = ((S / 2 ^ k : Nat) : Int) := by rw [Int.natCast_ediv, Int.natCast_pow]; rfl
  have h1 : S / 2 ^ k ≤ S := Nat.div_le_self _ _
  rw [e]
  generalize S / 2 ^ k = m at *
  rw [and_one_u64 _ (by omega) (by omega)]
  by_cases h : m % 2 = 1
  · rw [decide_eq_true h, beq_iff_eq]; omega
  · rw [decide_eq_false h, beq_eq_false_iff_ne]; omega

set_option maxHeartbeats 12800000 in
set_option maxRecDepth 100000 in
theorem sets_any {A0 A1 : Option Addr} {n0 n1 c0 c1 : Nat} {L0 L1 : List MI} {s : ByteArray} {S : Nat} {w : World} (h0 : MR w A0 n0 L0 ∧ n0 ≤ 9223372036854775807 ∧ MX L0) (h1 : MR w A1 n1 L1 ∧ n1 ≤ 9223372036854775807 ∧ MX L1) (hs : s.size ≤ 140737488351232) (hS : S < 18446744073709551616) (htab : Tab w) (hm : ML w) :
    Calls Tryz.prog 6 #[.slice A0 n0 c0, .slice A1 n1 c1, .string s, .int .u64 (S : Int)] w fun e w' => e = .returned (.bool true) ∧ Below w.heap.size w w' := by
  have HL := Lib.hid (lives8_any w htab hm)
  have HTM := Lib.hid (fun W (hb : Below w.heap.size w W) => And.intro (htab.below hb) (ml_keep hm (ml_pos hm) hb))
  have HMD := Lib.hid (fun W (hb : Below w.heap.size w W) => made2_any (c0 := c0) (c1 := c1) (w := W) ⟨h0.1.below hb, h0.2⟩ ⟨h1.1.below hb, h1.2⟩)
  have HNUM := Lib.hid (fun W => number_any s hs W)
  have HSS := Lib.hid hS
  clear h0 h1 hs htab hm hS
  cases hnb : numB s with
  | false =>
    rw [hnb] at HNUM
    clear hnb
    go_enter Tryz.func6, Tryz.ntmps6
    go_wp2_with fail
    refine HL.out.mono ?_
    rintro e w1 ⟨rfl, hb⟩
    have HB := Lib.hid hb
    clear hb HL
    go_wp2_with fail
    refine (HMD.out _ HB.out).mono ?_
    rintro e w2 ⟨v, r, rfl, _, hb⟩
    have HB2 := Lib.hid (HB.out.trans (hb.mono HB.out.size))
    clear hb HMD HB
    cases r with
    | false =>
      go_wp2_with fail
      go_ret
      exact ⟨rfl, HB2.out⟩
    | true =>
      go_wp2_with fail
      refine (HNUM.out _).mono ?_
      rintro e w3 ⟨rfl, hb⟩
      have HB3 := Lib.hid (HB2.out.trans (hb.mono HB2.out.size))
      clear hb HNUM HB2
      go_wp2_with fail
      go_ret
      exact ⟨rfl, HB3.out⟩
  | true =>
    rw [hnb] at HNUM
    obtain ⟨f, hsf, hfo, hf0, hsz⟩ := numB_yes hnb
    have hfz : Sz 24 f := Sz.of (by omega) (by rw [← hsf]; exact hsz)
    have HFF := Lib.hid (And.intro hsf (And.intro hfz hf0))
    clear hnb hsf hfo hf0 hsz hfz
    go_enter Tryz.func6, Tryz.ntmps6
    go_wp2_with fail
    refine HL.out.mono ?_
    rintro e w1 ⟨rfl, hb⟩
    have HB := Lib.hid hb
    clear hb HL
    go_wp2_with fail
    refine (HMD.out _ HB.out).mono ?_
    rintro e w2 ⟨v, r, rfl, hr, hb⟩
    have HB2 := Lib.hid (HB.out.trans (hb.mono HB.out.size))
    clear hb HMD HB
    cases r with
    | false =>
      clear hr
      go_wp2_with fail
      go_ret
      exact ⟨rfl, HB2.out⟩
    | true =>
      obtain ⟨g, cl, u0, u1, D0, D1, rfl, hg, hc0, hc1, d0, d1⟩ := hr rfl
      obtain ⟨hk0, hl0⟩ := chk_dv d0
      obtain ⟨hk1, hl1⟩ := chk_dv d1
      obtain ⟨a0, q0, rfl, m0, _⟩ := d0
      obtain ⟨a1, q1, rfl, m1, _⟩ := d1
      obtain ⟨ge, tx, ty, tu, tv, tm, e1, e2, e3, e4, hF⟩ := sets_ok (fun i => decide (S / 2 ^ i % 2 = 1)) hl0 hl1 hk0 hk1 HFF.out.2.1 HFF.out.2.2
      have hdl := dlt_is hl0 hl1 hk0 hk1 HFF.out.2.1 HFF.out.2.2
      have hN16 := (litB_yes hl0).1
      have hM16 := (litB_yes hl1).1
      have hml0 := litB_ml hl0
      have hml1 := litB_ml hl1
      rw [← HFF.out.1] at hF hdl
      obtain ⟨P, hP⟩ : ∃ P, P = tZ D0 := ⟨_, rfl⟩
      obtain ⟨Q, hQ⟩ : ∃ Q, Q = tZ D1 := ⟨_, rfl⟩
      have hlP : P.length = D0.length := by rw [hP, tZ_len]
      have hlQ : Q.length = D1.length := by rw [hQ, tZ_len]
      rw [← hP] at m0 hF hdl hN16 hml0 hl0 hk0
      rw [← hQ] at m1 hF hdl hM16 hml1 hl1 hk1
      obtain ⟨N, hN⟩ : ∃ N, D0.length = N := ⟨_, rfl⟩
      obtain ⟨M, hM⟩ : ∃ M, D1.length = M := ⟨_, rfl⟩
      rw [hN] at m0 hlP hc0
      rw [hM] at m1 hlQ hc1
      rw [hlP] at hN16
      rw [hlQ] at hM16
      obtain ⟨td, htd⟩ : ∃ td, td = qstr (sm (dD P Q f) P.length) := ⟨_, rfl⟩
      rw [← htd] at hF hdl
      obtain ⟨pb, hpb⟩ : ∃ pb : Nat → ByteArray, pb = fun i => qstr (vQ Q (kZ (getZ P i))) := ⟨_, rfl⟩
      rw [← hpb] at hF
      have HMR := Lib.hid (fun W (hb : Below w2.heap.size w2 W) => And.intro (m0.below hb) (m1.below hb))
      have HLC := Lib.hid (show ∀ W, Below w2.heap.size w2 W → W.cell? ⟨g, 0, none⟩ = some (.slice a0 N q0) ∧ W.cell? ⟨g, 1, none⟩ = some (.slice a1 M q1) from fun W hb => ⟨(hb.cell (p := ⟨g, 0, none⟩) hg).trans hc0, (hb.cell (p := ⟨g, 1, none⟩) hg).trans hc1⟩)
      have HDL := Lib.hid (show ∀ W, Below w2.heap.size w2 W → Calls Tryz.prog 17 #[.slice a0 N q0, .slice a1 M q1, .string s] W (fun e w' => e = .returned (.tuple #[.string td, .int .i64 0]) ∧ Below W.heap.size W w') from fun W hb => by
        have h := Delta_any (c1 := q0) (c2 := q1) (sf := s) (HMR.out W hb).1 (HMR.out W hb).2 (by omega) (by omega) hml0 hml1 (by have := HFF.out.2.1; rw [HFF.out.1]; exact Nat.le_trans (qstr_size (Sz.qok this (by omega) (by omega))) (by omega)) (HTM.out W (HB2.out.trans (hb.mono HB2.out.size))).1 (HTM.out W (HB2.out.trans (hb.mono HB2.out.size))).2
        rw [hdl] at h
        exact h)
      have HAT := Lib.hid (show ∀ W, Below w2.heap.size w2 W → ∀ i, Calls Tryz.prog 38 #[.slice a1 M q1, .string (getZ P i).1] W (Rt (pb i) W) from fun W hb i => by
        have h := rAt_any (cap := q1) (key := (getZ P i).1) (HMR.out W hb).2 (by omega)
        rw [hpb]
        show Calls _ _ _ W (Rt (qstr (vQ Q (kZ (getZ P i)))) W)
        rw [← (vQ_ok (chk_ok hk1).1 _).1]
        exact h.mono fun e w' ⟨h1, h2⟩ => ⟨h1, h2 ▸ Below.refl _ _⟩)
      have HSF := Lib.hid hF
      have HPN := Lib.hid (show P.length = N from by omega)
      clear hF hr hc0 hc1 m0 m1 hk0 hk1 hl0 hl1 hdl hml0 hml1 hlP hlQ hP hQ hN hM htd hpb HTM
      go_wp2_with fail
      refine (HNUM.out _).mono ?_
      rintro e w3 ⟨rfl, hb⟩
      have HB3 := Lib.hid hb
      clear hb HNUM
      go_wp2_with fail
      refine wp_world HB3.out (fun wx hbx => ?_)
      have HBX2 := Lib.hid hbx
      clear hbx
      refine wp_region_held (S := fun W => Below wx.heap.size wx W) (by kernel_rfl) ?_
      change wpAnyH _ _ _ _ _ 13 _ _ wx.drew
      have hD0 := (Below.refl wx.heap.size wx).drew
      generalize wx.drew = W at *
      refine wpHz_take (i := 0) (d := 36) (v := .slice (some ⟨g, 0, none⟩) 2 cl) rfl rfl (by kernel_rfl) (by kernel_rfl) (by kernel_rfl) (fun _ _ _ h => h) rfl (fun W _ => by go_simp) hD0 ?_
      simp only [Act.put, List.setIfInBounds_toArray, List.set_cons_zero, List.set_cons_succ]
      refine wpHz_take (i := 1) (d := 37) (v := .pointer (some ⟨g, 0, none⟩)) rfl rfl (by kernel_rfl) (by kernel_rfl) (by kernel_rfl) (fun _ _ _ h => h) rfl (fun W _ => by go_simp) hD0 ?_
      simp only [Act.put, List.setIfInBounds_toArray, List.set_cons_zero, List.set_cons_succ]
      refine wpHz_take (i := 2) (d := 38) (v := .slice a0 N q0) rfl rfl (by kernel_rfl) (by kernel_rfl) (by kernel_rfl) (fun _ _ _ h => h) rfl (fun W hW => by have e0 := (HLC.out W (HBX2.out.trans (hW.mono HBX2.out.size))).1; go_simp) hD0 ?_
      simp only [Act.put, List.setIfInBounds_toArray, List.set_cons_zero, List.set_cons_succ]
      refine wpHz_take (i := 3) (d := 39) (v := .slice (some ⟨g, 0, none⟩) 2 cl) rfl rfl (by kernel_rfl) (by kernel_rfl) (by kernel_rfl) (fun _ _ _ h => h) rfl (fun W _ => by go_simp) hD0 ?_
      simp only [Act.put, List.setIfInBounds_toArray, List.set_cons_zero, List.set_cons_succ]
      refine wpHz_take (i := 4) (d := 40) (v := .pointer (some ⟨g, 1, none⟩)) rfl rfl (by kernel_rfl) (by kernel_rfl) (by kernel_rfl) (fun _ _ _ h => h) rfl (fun W _ => by go_simp) hD0 ?_
      simp only [Act.put, List.setIfInBounds_toArray, List.set_cons_zero, List.set_cons_succ]
      refine wpHz_take (i := 5) (d := 41) (v := .slice a1 M q1) rfl rfl (by kernel_rfl) (by kernel_rfl) (by kernel_rfl) (fun _ _ _ h => h) rfl (fun W hW => by have e0 := (HLC.out W (HBX2.out.trans (hW.mono HBX2.out.size))).2; go_simp) hD0 ?_
      simp only [Act.put, List.setIfInBounds_toArray, List.set_cons_zero, List.set_cons_succ]
      refine wpHz_take (i := 6) (d := 42) (v := .string s) rfl rfl (by kernel_rfl) (by kernel_rfl) (by kernel_rfl) (fun _ _ _ h => h) rfl (fun W _ => by go_simp) hD0 ?_
      simp only [Act.put, List.setIfInBounds_toArray, List.set_cons_zero, List.set_cons_succ]
      refine wpHz_one (i := 7) (by kernel_rfl) ?_
      refine wpOz_run rfl rfl (wpz_enter (d := 43) rfl (by go_simp) ((HDL.out _ (HBX2.out.trans (hD0.mono HBX2.out.size))).mono ?_))
      rintro e u1 ⟨rfl, hb⟩
      have hD1 : Below wx.heap.size wx u1 := hD0.trans (hb.mono hD0.size)
      clear hb
      refine ⟨_, rfl, hD1, ?_⟩
      simp only [Act.put, List.setIfInBounds_toArray, List.set_cons_zero, List.set_cons_succ]
      refine wpHz_take (i := 8) (d := 35) (v := .tuple #[.string td, .int .i64 0]) rfl rfl (by kernel_rfl) (by kernel_rfl) (by kernel_rfl) (fun _ _ _ h => h) rfl (fun W _ => by go_simp) hD1 ?_
      simp only [Act.put, List.setIfInBounds_toArray, List.set_cons_zero, List.set_cons_succ]
      refine wpHz_take (i := 9) (d := 44) (v := .string td) rfl rfl (by kernel_rfl) (by kernel_rfl) (by kernel_rfl) (fun _ _ _ h => h) rfl (fun W _ => by go_simp) hD1 ?_
      simp only [Act.put, List.setIfInBounds_toArray, List.set_cons_zero, List.set_cons_succ]
      refine wpHz_take (i := 10) (d := 45) (v := .int .i64 0) rfl rfl (by kernel_rfl) (by kernel_rfl) (by kernel_rfl) (fun _ _ _ h => h) rfl (fun W _ => by go_simp) hD1 ?_
      simp only [Act.put, List.setIfInBounds_toArray, List.set_cons_zero, List.set_cons_succ]
      refine wpHz_take (i := 11) (d := 11) (v := .string td) rfl rfl (by kernel_rfl) (by kernel_rfl) (by kernel_rfl) (fun _ _ _ h => h) rfl (fun W _ => by go_simp) hD1 ?_
      simp only [Act.put, List.setIfInBounds_toArray, List.set_cons_zero, List.set_cons_succ]
      refine wpHz_take (i := 12) (d := 12) (v := .int .i64 0) rfl rfl (by kernel_rfl) (by kernel_rfl) (by kernel_rfl) (fun _ _ _ h => h) rfl (fun W _ => by go_simp) hD1 ?_
      simp only [Act.put, List.setIfInBounds_toArray, List.set_cons_zero, List.set_cons_succ]
      refine wpAnyH_done (by kernel_rfl) ?_ _
      have HB4 := Lib.hid (HBX2.out.trans (hD1.mono HBX2.out.size))
      clear hD0 hD1 HBX2 HDL HB3
      go_wp2_with fail
      go_loopw [13, 14, 15, 16, 17] (fun x13 x14 x15 x16 x17 wr => ∃ k : Nat, k ≤ N ∧ x13 = .string (tx k) ∧ x14 = .string (ty k) ∧ x15 = .string (tu k) ∧ x16 = .string (tv k) ∧ x17 = .int .i64 (k : Int) ∧ Below w2.heap.size w2 wr) (fun _ _ _ _ iv _ => N - (intOf iv).toNat)
      case atStart =>
        obtain ⟨z1, z2, z3, z4⟩ := HSF.out.z
        exact ⟨0, Nat.zero_le _, by rw [z1], by rw [z2], by rw [z3], by rw [z4], rfl, HB4.out⟩
      case round =>
        obtain ⟨k, hk, rfl, rfl, rfl, rfl, rfl, hb⟩ := hrel
        have HBR := Lib.hid hb
        have c0 := (HLC.out wr hb).1
        clear hb
        by_cases hlt : k < N
        · obtain ⟨ad, x, had, hx, _, e0, e1x⟩ := (HMR.out wr HBR.out).1.at hlt
          subst had
          have hgx := getZ_of hx
          have HLW := Lib.hid (show ∀ W, Below w2.heap.size w2 W → W.cell? ⟨g, 0, none⟩ = some (.slice (some ad) N q0) ∧ W.cell? ⟨g, 1, none⟩ = some (.slice a1 M q1) ∧ W.cell? (ad.add (k * 2)) = some (.string x.1) ∧ W.cell? ⟨(ad.add (k * 2)).block, (ad.add (k * 2)).off + 1, none⟩ = some (.string x.2) from fun W hb => by
            obtain ⟨ad', x', h1, h2, _, h3, h4⟩ := (HMR.out W hb).1.at hlt
            obtain rfl := Option.some.inj h1
            rw [hx] at h2
            obtain rfl := Option.some.inj h2
            exact ⟨(HLC.out W hb).1, (HLC.out W hb).2, h3, h4⟩)
          have HATK := Lib.hid (fun W hb => HAT.out W hb k)
          have HPX := Lib.hid (fun W h => HSF.out.px k W (by rw [HPN.out]; exact hlt) h)
          have HPY := Lib.hid (fun W h => HSF.out.py k W (by rw [HPN.out]; exact hlt) h)
          have HXY0 := Lib.hid (HSF.out.pxy0 k (by rw [HPN.out]; exact hlt))
          have HPU := Lib.hid (fun W h => HSF.out.pu k W (by rw [HPN.out]; exact hlt) h)
          have HPV := Lib.hid (fun W h => HSF.out.pv k W (by rw [HPN.out]; exact hlt) h)
          have HUV0 := Lib.hid (HSF.out.puv0 k (by rw [HPN.out]; exact hlt))
          have HTMK := Lib.hid (fun W => HSF.out.tmm k W (by rw [HPN.out]; exact hlt))
          have HLEK := Lib.hid (fun W => HSF.out.le k W (by rw [HPN.out]; exact hlt))
          rw [hgx] at HATK HPX HPU HLEK
          obtain ⟨key, pk⟩ := x
          clear hx hgx HMR HAT e1x
          obtain ⟨gk, hgk⟩ : ∃ gk, gk = ge k := ⟨_, rfl⟩
          rw [← hgk] at HPU HPV HUV0 HLEK
          clear hgk
          generalize pb k = pbk at *
          generalize tm k = tmk at *
          have hshr := selZ S k HSS.out
          cases hsel : decide (S / 2 ^ k % 2 = 1) with
          | true =>
            rw [hsel] at hshr
            have HPX1 := Lib.hid (fun W => HPX.out W hsel)
            have HPY1 := Lib.hid (fun W => HPY.out W hsel)
            clear HPX HPY HXY0 hsel
            obtain ⟨tx1, htx1⟩ : ∃ tx1, tx1 = tx (k + 1) := ⟨_, rfl⟩
            obtain ⟨ty1, hty1⟩ : ∃ ty1, ty1 = ty (k + 1) := ⟨_, rfl⟩
            rw [← htx1] at HPX1
            rw [← hty1] at HPY1
            have HTX1 := Lib.hid (show Value.string tx1 = Value.string (tx (k + 1)) by rw [htx1])
            have HTY1 := Lib.hid (show Value.string ty1 = Value.string (ty (k + 1)) by rw [hty1])
            clear htx1 hty1
            cases gk with
            | true =>
              have HUV1 := Lib.hid (HUV0.out rfl)
              clear HPU HPV HUV0
              go_wp2_with fail
              clear hshr
              refine wp_world HBR.out (fun wx hbx => ?_)
              have HBX2 := Lib.hid hbx
              clear hbx
              refine wp_region_held (S := fun W => Below wx.heap.size wx W) (by kernel_rfl) ?_
              change wpAnyH _ _ _ _ _ 18 _ _ wx.drew
              have hD0 := (Below.refl wx.heap.size wx).drew
              generalize wx.drew = W at *
              refine wpHz_take (i := 0) (d := 68) (v := .string (tx k)) rfl rfl (by kernel_rfl) (by kernel_rfl) (by kernel_rfl) (fun _ _ _ h => h) rfl (fun W _ => by go_simp) hD0 ?_
              simp only [Act.put, List.setIfInBounds_toArray, List.set_cons_zero, List.set_cons_succ]
              refine wpHz_take (i := 1) (d := 69) (v := .slice (some ⟨g, 0, none⟩) 2 cl) rfl rfl (by kernel_rfl) (by kernel_rfl) (by kernel_rfl) (fun _ _ _ h => h) rfl (fun W _ => by go_simp) hD0 ?_
              simp only [Act.put, List.setIfInBounds_toArray, List.set_cons_zero, List.set_cons_succ]
              refine wpHz_take (i := 2) (d := 70) (v := .pointer (some ⟨g, 0, none⟩)) rfl rfl (by kernel_rfl) (by kernel_rfl) (by kernel_rfl) (fun _ _ _ h => h) rfl (fun W _ => by go_simp) hD0 ?_
              simp only [Act.put, List.setIfInBounds_toArray, List.set_cons_zero, List.set_cons_succ]
              refine wpHz_take (i := 3) (d := 71) (v := .slice (some ad) N q0) rfl rfl (by kernel_rfl) (by kernel_rfl) (by kernel_rfl) (fun _ _ _ h => h) rfl (fun W hW => by have e0 := (HLW.out W (HBX2.out.trans (hW.mono HBX2.out.size))).1; go_simp) hD0 ?_
              simp only [Act.put, List.setIfInBounds_toArray, List.set_cons_zero, List.set_cons_succ]
              refine wpHz_take (i := 4) (d := 72) (v := .int .i64 (k : Int)) rfl rfl (by kernel_rfl) (by kernel_rfl) (by kernel_rfl) (fun _ _ _ h => h) rfl (fun W _ => by go_simp) hD0 ?_
              simp only [Act.put, List.setIfInBounds_toArray, List.set_cons_zero, List.set_cons_succ]
              refine wpHz_take (i := 5) (d := 73) (v := .pointer (some (ad.add (k * 2)))) rfl rfl (by kernel_rfl) (by kernel_rfl) (by kernel_rfl) (fun _ _ _ h => h) rfl (fun W _ => by go_simp) hD0 ?_
              simp only [Act.put, List.setIfInBounds_toArray, List.set_cons_zero, List.set_cons_succ]
              refine wpHz_take (i := 6) (d := 74) (v := .pointer (some ⟨(ad.add (k * 2)).block, (ad.add (k * 2)).off + 1, none⟩)) rfl rfl (by kernel_rfl) (by kernel_rfl) (by kernel_rfl) (fun _ _ _ h => h) rfl (fun W _ => by go_simp) hD0 ?_
              simp only [Act.put, List.setIfInBounds_toArray, List.set_cons_zero, List.set_cons_succ]
              refine wpHz_take (i := 7) (d := 75) (v := .string pk) rfl rfl (by kernel_rfl) (by kernel_rfl) (by kernel_rfl) (fun _ _ _ h => h) rfl (fun W hW => by have e0 := (HLW.out W (HBX2.out.trans (hW.mono HBX2.out.size))).2.2.2; go_simp) hD0 ?_
              simp only [Act.put, List.setIfInBounds_toArray, List.set_cons_zero, List.set_cons_succ]
              refine wpHz_take (i := 9) (d := 77) (v := .string (ty k)) rfl rfl (by kernel_rfl) (by kernel_rfl) (by kernel_rfl) (fun _ _ _ h => h) rfl (fun W _ => by go_simp) hD0 ?_
              simp only [Act.put, List.setIfInBounds_toArray, List.set_cons_zero, List.set_cons_succ]
              refine wpHz_take (i := 10) (d := 78) (v := .slice (some ⟨g, 0, none⟩) 2 cl) rfl rfl (by kernel_rfl) (by kernel_rfl) (by kernel_rfl) (fun _ _ _ h => h) rfl (fun W _ => by go_simp) hD0 ?_
              simp only [Act.put, List.setIfInBounds_toArray, List.set_cons_zero, List.set_cons_succ]
              refine wpHz_take (i := 11) (d := 79) (v := .pointer (some ⟨g, 1, none⟩)) rfl rfl (by kernel_rfl) (by kernel_rfl) (by kernel_rfl) (fun _ _ _ h => h) rfl (fun W _ => by go_simp) hD0 ?_
              simp only [Act.put, List.setIfInBounds_toArray, List.set_cons_zero, List.set_cons_succ]
              refine wpHz_take (i := 12) (d := 80) (v := .slice a1 M q1) rfl rfl (by kernel_rfl) (by kernel_rfl) (by kernel_rfl) (fun _ _ _ h => h) rfl (fun W hW => by have e0 := (HLW.out W (HBX2.out.trans (hW.mono HBX2.out.size))).2.1; go_simp) hD0 ?_
              simp only [Act.put, List.setIfInBounds_toArray, List.set_cons_zero, List.set_cons_succ]
              refine wpHz_take (i := 13) (d := 81) (v := .string key) rfl rfl (by kernel_rfl) (by kernel_rfl) (by kernel_rfl) (fun _ _ _ h => h) rfl (fun W _ => by go_simp) hD0 ?_
              simp only [Act.put, List.setIfInBounds_toArray, List.set_cons_zero, List.set_cons_succ]
              refine wpHz_one (i := 8) (by kernel_rfl) ?_
              refine wpOz_run rfl rfl (wpz_enter (d := 76) rfl (by go_simp) ((HPX1.out _).mono ?_))
              rintro e v1 ⟨rfl, hb⟩
              have hD1 : Below wx.heap.size wx v1 := hD0.trans (hb.mono hD0.size)
              clear hb
              refine ⟨_, rfl, hD1, ?_⟩
              simp only [Act.put, List.setIfInBounds_toArray, List.set_cons_zero, List.set_cons_succ]
              refine wpHz_one (i := 14) (by kernel_rfl) ?_
              refine wpOz_run rfl rfl (wpz_enter (d := 82) rfl (by go_simp) ((HATK.out _ (HBX2.out.trans (hD1.mono HBX2.out.size))).mono ?_))
              rintro e v2 ⟨rfl, hb⟩
              have hD2 : Below wx.heap.size wx v2 := hD1.trans (hb.mono hD1.size)
              clear hb
              refine ⟨_, rfl, hD2, ?_⟩
              simp only [Act.put, List.setIfInBounds_toArray, List.set_cons_zero, List.set_cons_succ]
              refine wpHz_one (i := 15) (by kernel_rfl) ?_
              refine wpOz_run rfl rfl (wpz_enter (d := 83) rfl (by go_simp) ((HPY1.out _).mono ?_))
              rintro e v3 ⟨rfl, hb⟩
              have hD3 : Below wx.heap.size wx v3 := hD2.trans (hb.mono hD2.size)
              clear hb
              refine ⟨_, rfl, hD3, ?_⟩
              simp only [Act.put, List.setIfInBounds_toArray, List.set_cons_zero, List.set_cons_succ]
              refine wpHz_take (i := 16) (d := 13) (v := .string tx1) rfl rfl (by kernel_rfl) (by kernel_rfl) (by kernel_rfl) (fun _ _ _ h => h) rfl (fun W _ => by go_simp) hD3 ?_
              simp only [Act.put, List.setIfInBounds_toArray, List.set_cons_zero, List.set_cons_succ]
              refine wpHz_take (i := 17) (d := 14) (v := .string ty1) rfl rfl (by kernel_rfl) (by kernel_rfl) (by kernel_rfl) (fun _ _ _ h => h) rfl (fun W _ => by go_simp) hD3 ?_
              simp only [Act.put, List.setIfInBounds_toArray, List.set_cons_zero, List.set_cons_succ]
              refine wpAnyH_done (by kernel_rfl) ?_ _
              have HB5 := Lib.hid (HBX2.out.trans (hD3.mono HBX2.out.size))
              clear hD0 hD1 hD2 hD3 HBX2
              go_wp2_with fail
              refine wp_world HB5.out (fun wx hbx => ?_)
              have HBX2 := Lib.hid hbx
              clear hbx
              refine wp_region_held (S := fun W => Below wx.heap.size wx W) (by kernel_rfl) ?_
              change wpAnyH _ _ _ _ _ 16 _ _ wx.drew
              have hD0 := (Below.refl wx.heap.size wx).drew
              generalize wx.drew = W at *
              refine wpHz_take (i := 0) (d := 84) (v := .slice (some ⟨g, 0, none⟩) 2 cl) rfl rfl (by kernel_rfl) (by kernel_rfl) (by kernel_rfl) (fun _ _ _ h => h) rfl (fun W _ => by go_simp) hD0 ?_
              simp only [Act.put, List.setIfInBounds_toArray, List.set_cons_zero, List.set_cons_succ]
              refine wpHz_take (i := 1) (d := 85) (v := .pointer (some ⟨g, 0, none⟩)) rfl rfl (by kernel_rfl) (by kernel_rfl) (by kernel_rfl) (fun _ _ _ h => h) rfl (fun W _ => by go_simp) hD0 ?_
              simp only [Act.put, List.setIfInBounds_toArray, List.set_cons_zero, List.set_cons_succ]
              refine wpHz_take (i := 2) (d := 86) (v := .slice (some ad) N q0) rfl rfl (by kernel_rfl) (by kernel_rfl) (by kernel_rfl) (fun _ _ _ h => h) rfl (fun W hW => by have e0 := (HLW.out W (HBX2.out.trans (hW.mono HBX2.out.size))).1; go_simp) hD0 ?_
              simp only [Act.put, List.setIfInBounds_toArray, List.set_cons_zero, List.set_cons_succ]
              refine wpHz_take (i := 3) (d := 87) (v := .int .i64 (k : Int)) rfl rfl (by kernel_rfl) (by kernel_rfl) (by kernel_rfl) (fun _ _ _ h => h) rfl (fun W _ => by go_simp) hD0 ?_
              simp only [Act.put, List.setIfInBounds_toArray, List.set_cons_zero, List.set_cons_succ]
              refine wpHz_take (i := 4) (d := 88) (v := .pointer (some (ad.add (k * 2)))) rfl rfl (by kernel_rfl) (by kernel_rfl) (by kernel_rfl) (fun _ _ _ h => h) rfl (fun W _ => by go_simp) hD0 ?_
              simp only [Act.put, List.setIfInBounds_toArray, List.set_cons_zero, List.set_cons_succ]
              refine wpHz_take (i := 5) (d := 89) (v := .pointer (some ⟨(ad.add (k * 2)).block, (ad.add (k * 2)).off + 1, none⟩)) rfl rfl (by kernel_rfl) (by kernel_rfl) (by kernel_rfl) (fun _ _ _ h => h) rfl (fun W _ => by go_simp) hD0 ?_
              simp only [Act.put, List.setIfInBounds_toArray, List.set_cons_zero, List.set_cons_succ]
              refine wpHz_take (i := 6) (d := 90) (v := .string pk) rfl rfl (by kernel_rfl) (by kernel_rfl) (by kernel_rfl) (fun _ _ _ h => h) rfl (fun W hW => by have e0 := (HLW.out W (HBX2.out.trans (hW.mono HBX2.out.size))).2.2.2; go_simp) hD0 ?_
              simp only [Act.put, List.setIfInBounds_toArray, List.set_cons_zero, List.set_cons_succ]
              refine wpHz_take (i := 7) (d := 91) (v := .string s) rfl rfl (by kernel_rfl) (by kernel_rfl) (by kernel_rfl) (fun _ _ _ h => h) rfl (fun W _ => by go_simp) hD0 ?_
              simp only [Act.put, List.setIfInBounds_toArray, List.set_cons_zero, List.set_cons_succ]
              refine wpHz_take (i := 8) (d := 92) (v := .slice (some ⟨g, 0, none⟩) 2 cl) rfl rfl (by kernel_rfl) (by kernel_rfl) (by kernel_rfl) (fun _ _ _ h => h) rfl (fun W _ => by go_simp) hD0 ?_
              simp only [Act.put, List.setIfInBounds_toArray, List.set_cons_zero, List.set_cons_succ]
              refine wpHz_take (i := 9) (d := 93) (v := .pointer (some ⟨g, 1, none⟩)) rfl rfl (by kernel_rfl) (by kernel_rfl) (by kernel_rfl) (fun _ _ _ h => h) rfl (fun W _ => by go_simp) hD0 ?_
              simp only [Act.put, List.setIfInBounds_toArray, List.set_cons_zero, List.set_cons_succ]
              refine wpHz_take (i := 10) (d := 94) (v := .slice a1 M q1) rfl rfl (by kernel_rfl) (by kernel_rfl) (by kernel_rfl) (fun _ _ _ h => h) rfl (fun W hW => by have e0 := (HLW.out W (HBX2.out.trans (hW.mono HBX2.out.size))).2.1; go_simp) hD0 ?_
              simp only [Act.put, List.setIfInBounds_toArray, List.set_cons_zero, List.set_cons_succ]
              refine wpHz_take (i := 11) (d := 95) (v := .string key) rfl rfl (by kernel_rfl) (by kernel_rfl) (by kernel_rfl) (fun _ _ _ h => h) rfl (fun W _ => by go_simp) hD0 ?_
              simp only [Act.put, List.setIfInBounds_toArray, List.set_cons_zero, List.set_cons_succ]
              refine wpHz_one (i := 12) (by kernel_rfl) ?_
              refine wpOz_run rfl rfl (wpz_enter (d := 96) rfl (by go_simp) ((HATK.out _ (HBX2.out.trans (hD0.mono HBX2.out.size))).mono ?_))
              rintro e v1 ⟨rfl, hb⟩
              have hD1 : Below wx.heap.size wx v1 := hD0.trans (hb.mono hD0.size)
              clear hb
              refine ⟨_, rfl, hD1, ?_⟩
              simp only [Act.put, List.setIfInBounds_toArray, List.set_cons_zero, List.set_cons_succ]
              refine wpHz_one (i := 13) (by kernel_rfl) ?_
              refine wpOz_run rfl rfl (wpz_enter (d := 97) rfl (by go_simp) ((HTMK.out _).mono ?_))
              rintro e v2 ⟨rfl, hb⟩
              have hD2 : Below wx.heap.size wx v2 := hD1.trans (hb.mono hD1.size)
              clear hb
              refine ⟨_, rfl, hD2, ?_⟩
              simp only [Act.put, List.setIfInBounds_toArray, List.set_cons_zero, List.set_cons_succ]
              refine wpHz_one (i := 14) (by kernel_rfl) ?_
              refine wpOz_run rfl rfl (wpz_enter (d := 98) rfl (by go_simp) ((HLEK.out _).mono ?_))
              rintro e v3 ⟨rfl, hb⟩
              have hD3 : Below wx.heap.size wx v3 := hD2.trans (hb.mono hD2.size)
              clear hb
              refine ⟨_, rfl, hD3, ?_⟩
              simp only [Act.put, List.setIfInBounds_toArray, List.set_cons_zero, List.set_cons_succ]
              refine wpHz_take (i := 15) (d := 99) (v := .bool false) rfl rfl (by kernel_rfl) (by kernel_rfl) (by kernel_rfl) (fun _ _ _ h => h) rfl (fun W _ => by go_simp) hD3 ?_
              simp only [Act.put, List.setIfInBounds_toArray, List.set_cons_zero, List.set_cons_succ]
              refine wpAnyH_done (by kernel_rfl) ?_ _
              have HB6 := Lib.hid (HBX2.out.trans (hD3.mono HBX2.out.size))
              clear hD0 hD1 hD2 hD3 HBX2
              go_wp2_with fail
              go_roundw
              case rel => exact ⟨k + 1, by omega, HTX1.out, HTY1.out, by rw [HUV1.out.1], by rw [HUV1.out.2], by go_num, HB6.out⟩
              case measure => simp [intOf]; omega
            | false =>
              have HPU1 := Lib.hid (fun W => HPU.out W rfl)
              have HPV1 := Lib.hid (fun W => HPV.out W rfl)
              clear HPU HPV HUV0
              go_wp2_with fail
              clear hshr
              refine wp_world HBR.out (fun wx hbx => ?_)
              have HBX2 := Lib.hid hbx
              clear hbx
              refine wp_region_held (S := fun W => Below wx.heap.size wx W) (by kernel_rfl) ?_
              change wpAnyH _ _ _ _ _ 18 _ _ wx.drew
              have hD0 := (Below.refl wx.heap.size wx).drew
              generalize wx.drew = W at *
              refine wpHz_take (i := 0) (d := 68) (v := .string (tx k)) rfl rfl (by kernel_rfl) (by kernel_rfl) (by kernel_rfl) (fun _ _ _ h => h) rfl (fun W _ => by go_simp) hD0 ?_
              simp only [Act.put, List.setIfInBounds_toArray, List.set_cons_zero, List.set_cons_succ]
              refine wpHz_take (i := 1) (d := 69) (v := .slice (some ⟨g, 0, none⟩) 2 cl) rfl rfl (by kernel_rfl) (by kernel_rfl) (by kernel_rfl) (fun _ _ _ h => h) rfl (fun W _ => by go_simp) hD0 ?_
              simp only [Act.put, List.setIfInBounds_toArray, List.set_cons_zero, List.set_cons_succ]
              refine wpHz_take (i := 2) (d := 70) (v := .pointer (some ⟨g, 0, none⟩)) rfl rfl (by kernel_rfl) (by kernel_rfl) (by kernel_rfl) (fun _ _ _ h => h) rfl (fun W _ => by go_simp) hD0 ?_
              simp only [Act.put, List.setIfInBounds_toArray, List.set_cons_zero, List.set_cons_succ]
              refine wpHz_take (i := 3) (d := 71) (v := .slice (some ad) N q0) rfl rfl (by kernel_rfl) (by kernel_rfl) (by kernel_rfl) (fun _ _ _ h => h) rfl (fun W hW => by have e0 := (HLW.out W (HBX2.out.trans (hW.mono HBX2.out.size))).1; go_simp) hD0 ?_
              simp only [Act.put, List.setIfInBounds_toArray, List.set_cons_zero, List.set_cons_succ]
              refine wpHz_take (i := 4) (d := 72) (v := .int .i64 (k : Int)) rfl rfl (by kernel_rfl) (by kernel_rfl) (by kernel_rfl) (fun _ _ _ h => h) rfl (fun W _ => by go_simp) hD0 ?_
              simp only [Act.put, List.setIfInBounds_toArray, List.set_cons_zero, List.set_cons_succ]
              refine wpHz_take (i := 5) (d := 73) (v := .pointer (some (ad.add (k * 2)))) rfl rfl (by kernel_rfl) (by kernel_rfl) (by kernel_rfl) (fun _ _ _ h => h) rfl (fun W _ => by go_simp) hD0 ?_
              simp only [Act.put, List.setIfInBounds_toArray, List.set_cons_zero, List.set_cons_succ]
              refine wpHz_take (i := 6) (d := 74) (v := .pointer (some ⟨(ad.add (k * 2)).block, (ad.add (k * 2)).off + 1, none⟩)) rfl rfl (by kernel_rfl) (by kernel_rfl) (by kernel_rfl) (fun _ _ _ h => h) rfl (fun W _ => by go_simp) hD0 ?_
              simp only [Act.put, List.setIfInBounds_toArray, List.set_cons_zero, List.set_cons_succ]
              refine wpHz_take (i := 7) (d := 75) (v := .string pk) rfl rfl (by kernel_rfl) (by kernel_rfl) (by kernel_rfl) (fun _ _ _ h => h) rfl (fun W hW => by have e0 := (HLW.out W (HBX2.out.trans (hW.mono HBX2.out.size))).2.2.2; go_simp) hD0 ?_
              simp only [Act.put, List.setIfInBounds_toArray, List.set_cons_zero, List.set_cons_succ]
              refine wpHz_take (i := 9) (d := 77) (v := .string (ty k)) rfl rfl (by kernel_rfl) (by kernel_rfl) (by kernel_rfl) (fun _ _ _ h => h) rfl (fun W _ => by go_simp) hD0 ?_
              simp only [Act.put, List.setIfInBounds_toArray, List.set_cons_zero, List.set_cons_succ]
              refine wpHz_take (i := 10) (d := 78) (v := .slice (some ⟨g, 0, none⟩) 2 cl) rfl rfl (by kernel_rfl) (by kernel_rfl) (by kernel_rfl) (fun _ _ _ h => h) rfl (fun W _ => by go_simp) hD0 ?_
              simp only [Act.put, List.setIfInBounds_toArray, List.set_cons_zero, List.set_cons_succ]
              refine wpHz_take (i := 11) (d := 79) (v := .pointer (some ⟨g, 1, none⟩)) rfl rfl (by kernel_rfl) (by kernel_rfl) (by kernel_rfl) (fun _ _ _ h => h) rfl (fun W _ => by go_simp) hD0 ?_
              simp only [Act.put, List.setIfInBounds_toArray, List.set_cons_zero, List.set_cons_succ]
              refine wpHz_take (i := 12) (d := 80) (v := .slice a1 M q1) rfl rfl (by kernel_rfl) (by kernel_rfl) (by kernel_rfl) (fun _ _ _ h => h) rfl (fun W hW => by have e0 := (HLW.out W (HBX2.out.trans (hW.mono HBX2.out.size))).2.1; go_simp) hD0 ?_
              simp only [Act.put, List.setIfInBounds_toArray, List.set_cons_zero, List.set_cons_succ]
              refine wpHz_take (i := 13) (d := 81) (v := .string key) rfl rfl (by kernel_rfl) (by kernel_rfl) (by kernel_rfl) (fun _ _ _ h => h) rfl (fun W _ => by go_simp) hD0 ?_
              simp only [Act.put, List.setIfInBounds_toArray, List.set_cons_zero, List.set_cons_succ]
              refine wpHz_one (i := 8) (by kernel_rfl) ?_
              refine wpOz_run rfl rfl (wpz_enter (d := 76) rfl (by go_simp) ((HPX1.out _).mono ?_))
              rintro e v1 ⟨rfl, hb⟩
              have hD1 : Below wx.heap.size wx v1 := hD0.trans (hb.mono hD0.size)
              clear hb
              refine ⟨_, rfl, hD1, ?_⟩
              simp only [Act.put, List.setIfInBounds_toArray, List.set_cons_zero, List.set_cons_succ]
              refine wpHz_one (i := 14) (by kernel_rfl) ?_
              refine wpOz_run rfl rfl (wpz_enter (d := 82) rfl (by go_simp) ((HATK.out _ (HBX2.out.trans (hD1.mono HBX2.out.size))).mono ?_))
              rintro e v2 ⟨rfl, hb⟩
              have hD2 : Below wx.heap.size wx v2 := hD1.trans (hb.mono hD1.size)
              clear hb
              refine ⟨_, rfl, hD2, ?_⟩
              simp only [Act.put, List.setIfInBounds_toArray, List.set_cons_zero, List.set_cons_succ]
              refine wpHz_one (i := 15) (by kernel_rfl) ?_
              refine wpOz_run rfl rfl (wpz_enter (d := 83) rfl (by go_simp) ((HPY1.out _).mono ?_))
              rintro e v3 ⟨rfl, hb⟩
              have hD3 : Below wx.heap.size wx v3 := hD2.trans (hb.mono hD2.size)
              clear hb
              refine ⟨_, rfl, hD3, ?_⟩
              simp only [Act.put, List.setIfInBounds_toArray, List.set_cons_zero, List.set_cons_succ]
              refine wpHz_take (i := 16) (d := 13) (v := .string tx1) rfl rfl (by kernel_rfl) (by kernel_rfl) (by kernel_rfl) (fun _ _ _ h => h) rfl (fun W _ => by go_simp) hD3 ?_
              simp only [Act.put, List.setIfInBounds_toArray, List.set_cons_zero, List.set_cons_succ]
              refine wpHz_take (i := 17) (d := 14) (v := .string ty1) rfl rfl (by kernel_rfl) (by kernel_rfl) (by kernel_rfl) (fun _ _ _ h => h) rfl (fun W _ => by go_simp) hD3 ?_
              simp only [Act.put, List.setIfInBounds_toArray, List.set_cons_zero, List.set_cons_succ]
              refine wpAnyH_done (by kernel_rfl) ?_ _
              have HB5 := Lib.hid (HBX2.out.trans (hD3.mono HBX2.out.size))
              clear hD0 hD1 hD2 hD3 HBX2
              go_wp2_with fail
              refine wp_world HB5.out (fun wx hbx => ?_)
              have HBX2 := Lib.hid hbx
              clear hbx
              refine wp_region_held (S := fun W => Below wx.heap.size wx W) (by kernel_rfl) ?_
              change wpAnyH _ _ _ _ _ 16 _ _ wx.drew
              have hD0 := (Below.refl wx.heap.size wx).drew
              generalize wx.drew = W at *
              refine wpHz_take (i := 0) (d := 84) (v := .slice (some ⟨g, 0, none⟩) 2 cl) rfl rfl (by kernel_rfl) (by kernel_rfl) (by kernel_rfl) (fun _ _ _ h => h) rfl (fun W _ => by go_simp) hD0 ?_
              simp only [Act.put, List.setIfInBounds_toArray, List.set_cons_zero, List.set_cons_succ]
              refine wpHz_take (i := 1) (d := 85) (v := .pointer (some ⟨g, 0, none⟩)) rfl rfl (by kernel_rfl) (by kernel_rfl) (by kernel_rfl) (fun _ _ _ h => h) rfl (fun W _ => by go_simp) hD0 ?_
              simp only [Act.put, List.setIfInBounds_toArray, List.set_cons_zero, List.set_cons_succ]
              refine wpHz_take (i := 2) (d := 86) (v := .slice (some ad) N q0) rfl rfl (by kernel_rfl) (by kernel_rfl) (by kernel_rfl) (fun _ _ _ h => h) rfl (fun W hW => by have e0 := (HLW.out W (HBX2.out.trans (hW.mono HBX2.out.size))).1; go_simp) hD0 ?_
              simp only [Act.put, List.setIfInBounds_toArray, List.set_cons_zero, List.set_cons_succ]
              refine wpHz_take (i := 3) (d := 87) (v := .int .i64 (k : Int)) rfl rfl (by kernel_rfl) (by kernel_rfl) (by kernel_rfl) (fun _ _ _ h => h) rfl (fun W _ => by go_simp) hD0 ?_
              simp only [Act.put, List.setIfInBounds_toArray, List.set_cons_zero, List.set_cons_succ]
              refine wpHz_take (i := 4) (d := 88) (v := .pointer (some (ad.add (k * 2)))) rfl rfl (by kernel_rfl) (by kernel_rfl) (by kernel_rfl) (fun _ _ _ h => h) rfl (fun W _ => by go_simp) hD0 ?_
              simp only [Act.put, List.setIfInBounds_toArray, List.set_cons_zero, List.set_cons_succ]
              refine wpHz_take (i := 5) (d := 89) (v := .pointer (some ⟨(ad.add (k * 2)).block, (ad.add (k * 2)).off + 1, none⟩)) rfl rfl (by kernel_rfl) (by kernel_rfl) (by kernel_rfl) (fun _ _ _ h => h) rfl (fun W _ => by go_simp) hD0 ?_
              simp only [Act.put, List.setIfInBounds_toArray, List.set_cons_zero, List.set_cons_succ]
              refine wpHz_take (i := 6) (d := 90) (v := .string pk) rfl rfl (by kernel_rfl) (by kernel_rfl) (by kernel_rfl) (fun _ _ _ h => h) rfl (fun W hW => by have e0 := (HLW.out W (HBX2.out.trans (hW.mono HBX2.out.size))).2.2.2; go_simp) hD0 ?_
              simp only [Act.put, List.setIfInBounds_toArray, List.set_cons_zero, List.set_cons_succ]
              refine wpHz_take (i := 7) (d := 91) (v := .string s) rfl rfl (by kernel_rfl) (by kernel_rfl) (by kernel_rfl) (fun _ _ _ h => h) rfl (fun W _ => by go_simp) hD0 ?_
              simp only [Act.put, List.setIfInBounds_toArray, List.set_cons_zero, List.set_cons_succ]
              refine wpHz_take (i := 8) (d := 92) (v := .slice (some ⟨g, 0, none⟩) 2 cl) rfl rfl (by kernel_rfl) (by kernel_rfl) (by kernel_rfl) (fun _ _ _ h => h) rfl (fun W _ => by go_simp) hD0 ?_
              simp only [Act.put, List.setIfInBounds_toArray, List.set_cons_zero, List.set_cons_succ]
              refine wpHz_take (i := 9) (d := 93) (v := .pointer (some ⟨g, 1, none⟩)) rfl rfl (by kernel_rfl) (by kernel_rfl) (by kernel_rfl) (fun _ _ _ h => h) rfl (fun W _ => by go_simp) hD0 ?_
              simp only [Act.put, List.setIfInBounds_toArray, List.set_cons_zero, List.set_cons_succ]
              refine wpHz_take (i := 10) (d := 94) (v := .slice a1 M q1) rfl rfl (by kernel_rfl) (by kernel_rfl) (by kernel_rfl) (fun _ _ _ h => h) rfl (fun W hW => by have e0 := (HLW.out W (HBX2.out.trans (hW.mono HBX2.out.size))).2.1; go_simp) hD0 ?_
              simp only [Act.put, List.setIfInBounds_toArray, List.set_cons_zero, List.set_cons_succ]
              refine wpHz_take (i := 11) (d := 95) (v := .string key) rfl rfl (by kernel_rfl) (by kernel_rfl) (by kernel_rfl) (fun _ _ _ h => h) rfl (fun W _ => by go_simp) hD0 ?_
              simp only [Act.put, List.setIfInBounds_toArray, List.set_cons_zero, List.set_cons_succ]
              refine wpHz_one (i := 12) (by kernel_rfl) ?_
              refine wpOz_run rfl rfl (wpz_enter (d := 96) rfl (by go_simp) ((HATK.out _ (HBX2.out.trans (hD0.mono HBX2.out.size))).mono ?_))
              rintro e v1 ⟨rfl, hb⟩
              have hD1 : Below wx.heap.size wx v1 := hD0.trans (hb.mono hD0.size)
              clear hb
              refine ⟨_, rfl, hD1, ?_⟩
              simp only [Act.put, List.setIfInBounds_toArray, List.set_cons_zero, List.set_cons_succ]
              refine wpHz_one (i := 13) (by kernel_rfl) ?_
              refine wpOz_run rfl rfl (wpz_enter (d := 97) rfl (by go_simp) ((HTMK.out _).mono ?_))
              rintro e v2 ⟨rfl, hb⟩
              have hD2 : Below wx.heap.size wx v2 := hD1.trans (hb.mono hD1.size)
              clear hb
              refine ⟨_, rfl, hD2, ?_⟩
              simp only [Act.put, List.setIfInBounds_toArray, List.set_cons_zero, List.set_cons_succ]
              refine wpHz_one (i := 14) (by kernel_rfl) ?_
              refine wpOz_run rfl rfl (wpz_enter (d := 98) rfl (by go_simp) ((HLEK.out _).mono ?_))
              rintro e v3 ⟨rfl, hb⟩
              have hD3 : Below wx.heap.size wx v3 := hD2.trans (hb.mono hD2.size)
              clear hb
              refine ⟨_, rfl, hD3, ?_⟩
              simp only [Act.put, List.setIfInBounds_toArray, List.set_cons_zero, List.set_cons_succ]
              refine wpHz_take (i := 15) (d := 99) (v := .bool true) rfl rfl (by kernel_rfl) (by kernel_rfl) (by kernel_rfl) (fun _ _ _ h => h) rfl (fun W _ => by go_simp) hD3 ?_
              simp only [Act.put, List.setIfInBounds_toArray, List.set_cons_zero, List.set_cons_succ]
              refine wpAnyH_done (by kernel_rfl) ?_ _
              have HB6 := Lib.hid (HBX2.out.trans (hD3.mono HBX2.out.size))
              clear hD0 hD1 hD2 hD3 HBX2
              go_wp2_with fail
              refine wp_world HB6.out (fun wx hbx => ?_)
              have HBX2 := Lib.hid hbx
              clear hbx
              refine wp_region_held (S := fun W => Below wx.heap.size wx W) (by kernel_rfl) ?_
              change wpAnyH _ _ _ _ _ 18 _ _ wx.drew
              have hD0 := (Below.refl wx.heap.size wx).drew
              generalize wx.drew = W at *
              refine wpHz_take (i := 0) (d := 100) (v := .string (tu k)) rfl rfl (by kernel_rfl) (by kernel_rfl) (by kernel_rfl) (fun _ _ _ h => h) rfl (fun W _ => by go_simp) hD0 ?_
              simp only [Act.put, List.setIfInBounds_toArray, List.set_cons_zero, List.set_cons_succ]
              refine wpHz_take (i := 1) (d := 101) (v := .slice (some ⟨g, 0, none⟩) 2 cl) rfl rfl (by kernel_rfl) (by kernel_rfl) (by kernel_rfl) (fun _ _ _ h => h) rfl (fun W _ => by go_simp) hD0 ?_
              simp only [Act.put, List.setIfInBounds_toArray, List.set_cons_zero, List.set_cons_succ]
              refine wpHz_take (i := 2) (d := 102) (v := .pointer (some ⟨g, 0, none⟩)) rfl rfl (by kernel_rfl) (by kernel_rfl) (by kernel_rfl) (fun _ _ _ h => h) rfl (fun W _ => by go_simp) hD0 ?_
              simp only [Act.put, List.setIfInBounds_toArray, List.set_cons_zero, List.set_cons_succ]
              refine wpHz_take (i := 3) (d := 103) (v := .slice (some ad) N q0) rfl rfl (by kernel_rfl) (by kernel_rfl) (by kernel_rfl) (fun _ _ _ h => h) rfl (fun W hW => by have e0 := (HLW.out W (HBX2.out.trans (hW.mono HBX2.out.size))).1; go_simp) hD0 ?_
              simp only [Act.put, List.setIfInBounds_toArray, List.set_cons_zero, List.set_cons_succ]
              refine wpHz_take (i := 4) (d := 104) (v := .int .i64 (k : Int)) rfl rfl (by kernel_rfl) (by kernel_rfl) (by kernel_rfl) (fun _ _ _ h => h) rfl (fun W _ => by go_simp) hD0 ?_
              simp only [Act.put, List.setIfInBounds_toArray, List.set_cons_zero, List.set_cons_succ]
              refine wpHz_take (i := 5) (d := 105) (v := .pointer (some (ad.add (k * 2)))) rfl rfl (by kernel_rfl) (by kernel_rfl) (by kernel_rfl) (fun _ _ _ h => h) rfl (fun W _ => by go_simp) hD0 ?_
              simp only [Act.put, List.setIfInBounds_toArray, List.set_cons_zero, List.set_cons_succ]
              refine wpHz_take (i := 6) (d := 106) (v := .pointer (some ⟨(ad.add (k * 2)).block, (ad.add (k * 2)).off + 1, none⟩)) rfl rfl (by kernel_rfl) (by kernel_rfl) (by kernel_rfl) (fun _ _ _ h => h) rfl (fun W _ => by go_simp) hD0 ?_
              simp only [Act.put, List.setIfInBounds_toArray, List.set_cons_zero, List.set_cons_succ]
              refine wpHz_take (i := 7) (d := 107) (v := .string pk) rfl rfl (by kernel_rfl) (by kernel_rfl) (by kernel_rfl) (fun _ _ _ h => h) rfl (fun W hW => by have e0 := (HLW.out W (HBX2.out.trans (hW.mono HBX2.out.size))).2.2.2; go_simp) hD0 ?_
              simp only [Act.put, List.setIfInBounds_toArray, List.set_cons_zero, List.set_cons_succ]
              refine wpHz_take (i := 9) (d := 109) (v := .string (tv k)) rfl rfl (by kernel_rfl) (by kernel_rfl) (by kernel_rfl) (fun _ _ _ h => h) rfl (fun W _ => by go_simp) hD0 ?_
              simp only [Act.put, List.setIfInBounds_toArray, List.set_cons_zero, List.set_cons_succ]
              refine wpHz_take (i := 10) (d := 110) (v := .slice (some ⟨g, 0, none⟩) 2 cl) rfl rfl (by kernel_rfl) (by kernel_rfl) (by kernel_rfl) (fun _ _ _ h => h) rfl (fun W _ => by go_simp) hD0 ?_
              simp only [Act.put, List.setIfInBounds_toArray, List.set_cons_zero, List.set_cons_succ]
              refine wpHz_take (i := 11) (d := 111) (v := .pointer (some ⟨g, 1, none⟩)) rfl rfl (by kernel_rfl) (by kernel_rfl) (by kernel_rfl) (fun _ _ _ h => h) rfl (fun W _ => by go_simp) hD0 ?_
              simp only [Act.put, List.setIfInBounds_toArray, List.set_cons_zero, List.set_cons_succ]
              refine wpHz_take (i := 12) (d := 112) (v := .slice a1 M q1) rfl rfl (by kernel_rfl) (by kernel_rfl) (by kernel_rfl) (fun _ _ _ h => h) rfl (fun W hW => by have e0 := (HLW.out W (HBX2.out.trans (hW.mono HBX2.out.size))).2.1; go_simp) hD0 ?_
              simp only [Act.put, List.setIfInBounds_toArray, List.set_cons_zero, List.set_cons_succ]
              refine wpHz_take (i := 13) (d := 113) (v := .string key) rfl rfl (by kernel_rfl) (by kernel_rfl) (by kernel_rfl) (fun _ _ _ h => h) rfl (fun W _ => by go_simp) hD0 ?_
              simp only [Act.put, List.setIfInBounds_toArray, List.set_cons_zero, List.set_cons_succ]
              refine wpHz_one (i := 8) (by kernel_rfl) ?_
              refine wpOz_run rfl rfl (wpz_enter (d := 108) rfl (by go_simp) ((HPU1.out _).mono ?_))
              rintro e v1 ⟨rfl, hb⟩
              have hD1 : Below wx.heap.size wx v1 := hD0.trans (hb.mono hD0.size)
              clear hb
              refine ⟨_, rfl, hD1, ?_⟩
              simp only [Act.put, List.setIfInBounds_toArray, List.set_cons_zero, List.set_cons_succ]
              refine wpHz_one (i := 14) (by kernel_rfl) ?_
              refine wpOz_run rfl rfl (wpz_enter (d := 114) rfl (by go_simp) ((HATK.out _ (HBX2.out.trans (hD1.mono HBX2.out.size))).mono ?_))
              rintro e v2 ⟨rfl, hb⟩
              have hD2 : Below wx.heap.size wx v2 := hD1.trans (hb.mono hD1.size)
              clear hb
              refine ⟨_, rfl, hD2, ?_⟩
              simp only [Act.put, List.setIfInBounds_toArray, List.set_cons_zero, List.set_cons_succ]
              refine wpHz_one (i := 15) (by kernel_rfl) ?_
              refine wpOz_run rfl rfl (wpz_enter (d := 115) rfl (by go_simp) ((HPV1.out _).mono ?_))
              rintro e v3 ⟨rfl, hb⟩
              have hD3 : Below wx.heap.size wx v3 := hD2.trans (hb.mono hD2.size)
              clear hb
              refine ⟨_, rfl, hD3, ?_⟩
              simp only [Act.put, List.setIfInBounds_toArray, List.set_cons_zero, List.set_cons_succ]
              refine wpHz_take (i := 16) (d := 15) (v := .string (tu (k + 1))) rfl rfl (by kernel_rfl) (by kernel_rfl) (by kernel_rfl) (fun _ _ _ h => h) rfl (fun W _ => by go_simp) hD3 ?_
              simp only [Act.put, List.setIfInBounds_toArray, List.set_cons_zero, List.set_cons_succ]
              refine wpHz_take (i := 17) (d := 16) (v := .string (tv (k + 1))) rfl rfl (by kernel_rfl) (by kernel_rfl) (by kernel_rfl) (fun _ _ _ h => h) rfl (fun W _ => by go_simp) hD3 ?_
              simp only [Act.put, List.setIfInBounds_toArray, List.set_cons_zero, List.set_cons_succ]
              refine wpAnyH_done (by kernel_rfl) ?_ _
              have HB7 := Lib.hid (HBX2.out.trans (hD3.mono HBX2.out.size))
              clear hD0 hD1 hD2 hD3 HBX2
              go_wp2_with fail
              go_roundw
              case rel => exact ⟨k + 1, by omega, HTX1.out, HTY1.out, rfl, rfl, by go_num, HB7.out⟩
              case measure => simp [intOf]; omega
          | false =>
            rw [hsel] at hshr
            have HXY1 := Lib.hid (HXY0.out hsel)
            clear HPX HPY HXY0 hsel
            cases gk with
            | true =>
              have HUV1 := Lib.hid (HUV0.out rfl)
              clear HPU HPV HUV0
              go_wp2_with fail
              clear hshr
              refine wp_world HBR.out (fun wx hbx => ?_)
              have HBX2 := Lib.hid hbx
              clear hbx
              refine wp_region_held (S := fun W => Below wx.heap.size wx W) (by kernel_rfl) ?_
              change wpAnyH _ _ _ _ _ 16 _ _ wx.drew
              have hD0 := (Below.refl wx.heap.size wx).drew
              generalize wx.drew = W at *
              refine wpHz_take (i := 0) (d := 84) (v := .slice (some ⟨g, 0, none⟩) 2 cl) rfl rfl (by kernel_rfl) (by kernel_rfl) (by kernel_rfl) (fun _ _ _ h => h) rfl (fun W _ => by go_simp) hD0 ?_
              simp only [Act.put, List.setIfInBounds_toArray, List.set_cons_zero, List.set_cons_succ]
              refine wpHz_take (i := 1) (d := 85) (v := .pointer (some ⟨g, 0, none⟩)) rfl rfl (by kernel_rfl) (by kernel_rfl) (by kernel_rfl) (fun _ _ _ h => h) rfl (fun W _ => by go_simp) hD0 ?_
              simp only [Act.put, List.setIfInBounds_toArray, List.set_cons_zero, List.set_cons_succ]
              refine wpHz_take (i := 2) (d := 86) (v := .slice (some ad) N q0) rfl rfl (by kernel_rfl) (by kernel_rfl) (by kernel_rfl) (fun _ _ _ h => h) rfl (fun W hW => by have e0 := (HLW.out W (HBX2.out.trans (hW.mono HBX2.out.size))).1; go_simp) hD0 ?_
              simp only [Act.put, List.setIfInBounds_toArray, List.set_cons_zero, List.set_cons_succ]
              refine wpHz_take (i := 3) (d := 87) (v := .int .i64 (k : Int)) rfl rfl (by kernel_rfl) (by kernel_rfl) (by kernel_rfl) (fun _ _ _ h => h) rfl (fun W _ => by go_simp) hD0 ?_
              simp only [Act.put, List.setIfInBounds_toArray, List.set_cons_zero, List.set_cons_succ]
              refine wpHz_take (i := 4) (d := 88) (v := .pointer (some (ad.add (k * 2)))) rfl rfl (by kernel_rfl) (by kernel_rfl) (by kernel_rfl) (fun _ _ _ h => h) rfl (fun W _ => by go_simp) hD0 ?_
              simp only [Act.put, List.setIfInBounds_toArray, List.set_cons_zero, List.set_cons_succ]
              refine wpHz_take (i := 5) (d := 89) (v := .pointer (some ⟨(ad.add (k * 2)).block, (ad.add (k * 2)).off + 1, none⟩)) rfl rfl (by kernel_rfl) (by kernel_rfl) (by kernel_rfl) (fun _ _ _ h => h) rfl (fun W _ => by go_simp) hD0 ?_
              simp only [Act.put, List.setIfInBounds_toArray, List.set_cons_zero, List.set_cons_succ]
              refine wpHz_take (i := 6) (d := 90) (v := .string pk) rfl rfl (by kernel_rfl) (by kernel_rfl) (by kernel_rfl) (fun _ _ _ h => h) rfl (fun W hW => by have e0 := (HLW.out W (HBX2.out.trans (hW.mono HBX2.out.size))).2.2.2; go_simp) hD0 ?_
              simp only [Act.put, List.setIfInBounds_toArray, List.set_cons_zero, List.set_cons_succ]
              refine wpHz_take (i := 7) (d := 91) (v := .string s) rfl rfl (by kernel_rfl) (by kernel_rfl) (by kernel_rfl) (fun _ _ _ h => h) rfl (fun W _ => by go_simp) hD0 ?_
              simp only [Act.put, List.setIfInBounds_toArray, List.set_cons_zero, List.set_cons_succ]
              refine wpHz_take (i := 8) (d := 92) (v := .slice (some ⟨g, 0, none⟩) 2 cl) rfl rfl (by kernel_rfl) (by kernel_rfl) (by kernel_rfl) (fun _ _ _ h => h) rfl (fun W _ => by go_simp) hD0 ?_
              simp only [Act.put, List.setIfInBounds_toArray, List.set_cons_zero, List.set_cons_succ]
              refine wpHz_take (i := 9) (d := 93) (v := .pointer (some ⟨g, 1, none⟩)) rfl rfl (by kernel_rfl) (by kernel_rfl) (by kernel_rfl) (fun _ _ _ h => h) rfl (fun W _ => by go_simp) hD0 ?_
              simp only [Act.put, List.setIfInBounds_toArray, List.set_cons_zero, List.set_cons_succ]
              refine wpHz_take (i := 10) (d := 94) (v := .slice a1 M q1) rfl rfl (by kernel_rfl) (by kernel_rfl) (by kernel_rfl) (fun _ _ _ h => h) rfl (fun W hW => by have e0 := (HLW.out W (HBX2.out.trans (hW.mono HBX2.out.size))).2.1; go_simp) hD0 ?_
              simp only [Act.put, List.setIfInBounds_toArray, List.set_cons_zero, List.set_cons_succ]
              refine wpHz_take (i := 11) (d := 95) (v := .string key) rfl rfl (by kernel_rfl) (by kernel_rfl) (by kernel_rfl) (fun _ _ _ h => h) rfl (fun W _ => by go_simp) hD0 ?_
              simp only [Act.put, List.setIfInBounds_toArray, List.set_cons_zero, List.set_cons_succ]
              refine wpHz_one (i := 12) (by kernel_rfl) ?_
              refine wpOz_run rfl rfl (wpz_enter (d := 96) rfl (by go_simp) ((HATK.out _ (HBX2.out.trans (hD0.mono HBX2.out.size))).mono ?_))
              rintro e v1 ⟨rfl, hb⟩
              have hD1 : Below wx.heap.size wx v1 := hD0.trans (hb.mono hD0.size)
              clear hb
              refine ⟨_, rfl, hD1, ?_⟩
              simp only [Act.put, List.setIfInBounds_toArray, List.set_cons_zero, List.set_cons_succ]
              refine wpHz_one (i := 13) (by kernel_rfl) ?_
              refine wpOz_run rfl rfl (wpz_enter (d := 97) rfl (by go_simp) ((HTMK.out _).mono ?_))
              rintro e v2 ⟨rfl, hb⟩
              have hD2 : Below wx.heap.size wx v2 := hD1.trans (hb.mono hD1.size)
              clear hb
              refine ⟨_, rfl, hD2, ?_⟩
              simp only [Act.put, List.setIfInBounds_toArray, List.set_cons_zero, List.set_cons_succ]
              refine wpHz_one (i := 14) (by kernel_rfl) ?_
              refine wpOz_run rfl rfl (wpz_enter (d := 98) rfl (by go_simp) ((HLEK.out _).mono ?_))
              rintro e v3 ⟨rfl, hb⟩
              have hD3 : Below wx.heap.size wx v3 := hD2.trans (hb.mono hD2.size)
              clear hb
              refine ⟨_, rfl, hD3, ?_⟩
              simp only [Act.put, List.setIfInBounds_toArray, List.set_cons_zero, List.set_cons_succ]
              refine wpHz_take (i := 15) (d := 99) (v := .bool false) rfl rfl (by kernel_rfl) (by kernel_rfl) (by kernel_rfl) (fun _ _ _ h => h) rfl (fun W _ => by go_simp) hD3 ?_
              simp only [Act.put, List.setIfInBounds_toArray, List.set_cons_zero, List.set_cons_succ]
              refine wpAnyH_done (by kernel_rfl) ?_ _
              have HB6 := Lib.hid (HBX2.out.trans (hD3.mono HBX2.out.size))
              clear hD0 hD1 hD2 hD3 HBX2
              go_wp2_with fail
              go_roundw
              case rel => exact ⟨k + 1, by omega, by rw [HXY1.out.1], by rw [HXY1.out.2], by rw [HUV1.out.1], by rw [HUV1.out.2], by go_num, HB6.out⟩
              case measure => simp [intOf]; omega
            | false =>
              have HPU1 := Lib.hid (fun W => HPU.out W rfl)
              have HPV1 := Lib.hid (fun W => HPV.out W rfl)
              clear HPU HPV HUV0
              go_wp2_with fail
              clear hshr
              refine wp_world HBR.out (fun wx hbx => ?_)
              have HBX2 := Lib.hid hbx
              clear hbx
              refine wp_region_held (S := fun W => Below wx.heap.size wx W) (by kernel_rfl) ?_
              change wpAnyH _ _ _ _ _ 16 _ _ wx.drew
              have hD0 := (Below.refl wx.heap.size wx).drew
              generalize wx.drew = W at *
              refine wpHz_take (i := 0) (d := 84) (v := .slice (some ⟨g, 0, none⟩) 2 cl) rfl rfl (by kernel_rfl) (by kernel_rfl) (by kernel_rfl) (fun _ _ _ h => h) rfl (fun W _ => by go_simp) hD0 ?_
              simp only [Act.put, List.setIfInBounds_toArray, List.set_cons_zero, List.set_cons_succ]
              refine wpHz_take (i := 1) (d := 85) (v := .pointer (some ⟨g, 0, none⟩)) rfl rfl (by kernel_rfl) (by kernel_rfl) (by kernel_rfl) (fun _ _ _ h => h) rfl (fun W _ => by go_simp) hD0 ?_
              simp only [Act.put, List.setIfInBounds_toArray, List.set_cons_zero, List.set_cons_succ]
              refine wpHz_take (i := 2) (d := 86) (v := .slice (some ad) N q0) rfl rfl (by kernel_rfl) (by kernel_rfl) (by kernel_rfl) (fun _ _ _ h => h) rfl (fun W hW => by have e0 := (HLW.out W (HBX2.out.trans (hW.mono HBX2.out.size))).1; go_simp) hD0 ?_
              simp only [Act.put, List.setIfInBounds_toArray, List.set_cons_zero, List.set_cons_succ]
              refine wpHz_take (i := 3) (d := 87) (v := .int .i64 (k : Int)) rfl rfl (by kernel_rfl) (by kernel_rfl) (by kernel_rfl) (fun _ _ _ h => h) rfl (fun W _ => by go_simp) hD0 ?_
              simp only [Act.put, List.setIfInBounds_toArray, List.set_cons_zero, List.set_cons_succ]
              refine wpHz_take (i := 4) (d := 88) (v := .pointer (some (ad.add (k * 2)))) rfl rfl (by kernel_rfl) (by kernel_rfl) (by kernel_rfl) (fun _ _ _ h => h) rfl (fun W _ => by go_simp) hD0 ?_
              simp only [Act.put, List.setIfInBounds_toArray, List.set_cons_zero, List.set_cons_succ]
              refine wpHz_take (i := 5) (d := 89) (v := .pointer (some ⟨(ad.add (k * 2)).block, (ad.add (k * 2)).off + 1, none⟩)) rfl rfl (by kernel_rfl) (by kernel_rfl) (by kernel_rfl) (fun _ _ _ h => h) rfl (fun W _ => by go_simp) hD0 ?_
              simp only [Act.put, List.setIfInBounds_toArray, List.set_cons_zero, List.set_cons_succ]
              refine wpHz_take (i := 6) (d := 90) (v := .string pk) rfl rfl (by kernel_rfl) (by kernel_rfl) (by kernel_rfl) (fun _ _ _ h => h) rfl (fun W hW => by have e0 := (HLW.out W (HBX2.out.trans (hW.mono HBX2.out.size))).2.2.2; go_simp) hD0 ?_
              simp only [Act.put, List.setIfInBounds_toArray, List.set_cons_zero, List.set_cons_succ]
              refine wpHz_take (i := 7) (d := 91) (v := .string s) rfl rfl (by kernel_rfl) (by kernel_rfl) (by kernel_rfl) (fun _ _ _ h => h) rfl (fun W _ => by go_simp) hD0 ?_
              simp only [Act.put, List.setIfInBounds_toArray, List.set_cons_zero, List.set_cons_succ]
              refine wpHz_take (i := 8) (d := 92) (v := .slice (some ⟨g, 0, none⟩) 2 cl) rfl rfl (by kernel_rfl) (by kernel_rfl) (by kernel_rfl) (fun _ _ _ h => h) rfl (fun W _ => by go_simp) hD0 ?_
              simp only [Act.put, List.setIfInBounds_toArray, List.set_cons_zero, List.set_cons_succ]
              refine wpHz_take (i := 9) (d := 93) (v := .pointer (some ⟨g, 1, none⟩)) rfl rfl (by kernel_rfl) (by kernel_rfl) (by kernel_rfl) (fun _ _ _ h => h) rfl (fun W _ => by go_simp) hD0 ?_
              simp only [Act.put, List.setIfInBounds_toArray, List.set_cons_zero, List.set_cons_succ]
              refine wpHz_take (i := 10) (d := 94) (v := .slice a1 M q1) rfl rfl (by kernel_rfl) (by kernel_rfl) (by kernel_rfl) (fun _ _ _ h => h) rfl (fun W hW => by have e0 := (HLW.out W (HBX2.out.trans (hW.mono HBX2.out.size))).2.1; go_simp) hD0 ?_
              simp only [Act.put, List.setIfInBounds_toArray, List.set_cons_zero, List.set_cons_succ]
              refine wpHz_take (i := 11) (d := 95) (v := .string key) rfl rfl (by kernel_rfl) (by kernel_rfl) (by kernel_rfl) (fun _ _ _ h => h) rfl (fun W _ => by go_simp) hD0 ?_
              simp only [Act.put, List.setIfInBounds_toArray, List.set_cons_zero, List.set_cons_succ]
              refine wpHz_one (i := 12) (by kernel_rfl) ?_
              refine wpOz_run rfl rfl (wpz_enter (d := 96) rfl (by go_simp) ((HATK.out _ (HBX2.out.trans (hD0.mono HBX2.out.size))).mono ?_))
              rintro e v1 ⟨rfl, hb⟩
              have hD1 : Below wx.heap.size wx v1 := hD0.trans (hb.mono hD0.size)
              clear hb
              refine ⟨_, rfl, hD1, ?_⟩
              simp only [Act.put, List.setIfInBounds_toArray, List.set_cons_zero, List.set_cons_succ]
              refine wpHz_one (i := 13) (by kernel_rfl) ?_
              refine wpOz_run rfl rfl (wpz_enter (d := 97) rfl (by go_simp) ((HTMK.out _).mono ?_))
              rintro e v2 ⟨rfl, hb⟩
              have hD2 : Below wx.heap.size wx v2 := hD1.trans (hb.mono hD1.size)
              clear hb
              refine ⟨_, rfl, hD2, ?_⟩
              simp only [Act.put, List.setIfInBounds_toArray, List.set_cons_zero, List.set_cons_succ]
              refine wpHz_one (i := 14) (by kernel_rfl) ?_
              refine wpOz_run rfl rfl (wpz_enter (d := 98) rfl (by go_simp) ((HLEK.out _).mono ?_))
              rintro e v3 ⟨rfl, hb⟩
              have hD3 : Below wx.heap.size wx v3 := hD2.trans (hb.mono hD2.size)
              clear hb
              refine ⟨_, rfl, hD3, ?_⟩
              simp only [Act.put, List.setIfInBounds_toArray, List.set_cons_zero, List.set_cons_succ]
              refine wpHz_take (i := 15) (d := 99) (v := .bool true) rfl rfl (by kernel_rfl) (by kernel_rfl) (by kernel_rfl) (fun _ _ _ h => h) rfl (fun W _ => by go_simp) hD3 ?_
              simp only [Act.put, List.setIfInBounds_toArray, List.set_cons_zero, List.set_cons_succ]
              refine wpAnyH_done (by kernel_rfl) ?_ _
              have HB6 := Lib.hid (HBX2.out.trans (hD3.mono HBX2.out.size))
              clear hD0 hD1 hD2 hD3 HBX2
              go_wp2_with fail
              refine wp_world HB6.out (fun wx hbx => ?_)
              have HBX2 := Lib.hid hbx
              clear hbx
              refine wp_region_held (S := fun W => Below wx.heap.size wx W) (by kernel_rfl) ?_
              change wpAnyH _ _ _ _ _ 18 _ _ wx.drew
              have hD0 := (Below.refl wx.heap.size wx).drew
              generalize wx.drew = W at *
              refine wpHz_take (i := 0) (d := 100) (v := .string (tu k)) rfl rfl (by kernel_rfl) (by kernel_rfl) (by kernel_rfl) (fun _ _ _ h => h) rfl (fun W _ => by go_simp) hD0 ?_
              simp only [Act.put, List.setIfInBounds_toArray, List.set_cons_zero, List.set_cons_succ]
              refine wpHz_take (i := 1) (d := 101) (v := .slice (some ⟨g, 0, none⟩) 2 cl) rfl rfl (by kernel_rfl) (by kernel_rfl) (by kernel_rfl) (fun _ _ _ h => h) rfl (fun W _ => by go_simp) hD0 ?_
              simp only [Act.put, List.setIfInBounds_toArray, List.set_cons_zero, List.set_cons_succ]
              refine wpHz_take (i := 2) (d := 102) (v := .pointer (some ⟨g, 0, none⟩)) rfl rfl (by kernel_rfl) (by kernel_rfl) (by kernel_rfl) (fun _ _ _ h => h) rfl (fun W _ => by go_simp) hD0 ?_
              simp only [Act.put, List.setIfInBounds_toArray, List.set_cons_zero, List.set_cons_succ]
              refine wpHz_take (i := 3) (d := 103) (v := .slice (some ad) N q0) rfl rfl (by kernel_rfl) (by kernel_rfl) (by kernel_rfl) (fun _ _ _ h => h) rfl (fun W hW => by have e0 := (HLW.out W (HBX2.out.trans (hW.mono HBX2.out.size))).1; go_simp) hD0 ?_
              simp only [Act.put, List.setIfInBounds_toArray, List.set_cons_zero, List.set_cons_succ]
              refine wpHz_take (i := 4) (d := 104) (v := .int .i64 (k : Int)) rfl rfl (by kernel_rfl) (by kernel_rfl) (by kernel_rfl) (fun _ _ _ h => h) rfl (fun W _ => by go_simp) hD0 ?_
              simp only [Act.put, List.setIfInBounds_toArray, List.set_cons_zero, List.set_cons_succ]
              refine wpHz_take (i := 5) (d := 105) (v := .pointer (some (ad.add (k * 2)))) rfl rfl (by kernel_rfl) (by kernel_rfl) (by kernel_rfl) (fun _ _ _ h => h) rfl (fun W _ => by go_simp) hD0 ?_
              simp only [Act.put, List.setIfInBounds_toArray, List.set_cons_zero, List.set_cons_succ]
              refine wpHz_take (i := 6) (d := 106) (v := .pointer (some ⟨(ad.add (k * 2)).block, (ad.add (k * 2)).off + 1, none⟩)) rfl rfl (by kernel_rfl) (by kernel_rfl) (by kernel_rfl) (fun _ _ _ h => h) rfl (fun W _ => by go_simp) hD0 ?_
              simp only [Act.put, List.setIfInBounds_toArray, List.set_cons_zero, List.set_cons_succ]
              refine wpHz_take (i := 7) (d := 107) (v := .string pk) rfl rfl (by kernel_rfl) (by kernel_rfl) (by kernel_rfl) (fun _ _ _ h => h) rfl (fun W hW => by have e0 := (HLW.out W (HBX2.out.trans (hW.mono HBX2.out.size))).2.2.2; go_simp) hD0 ?_
              simp only [Act.put, List.setIfInBounds_toArray, List.set_cons_zero, List.set_cons_succ]
              refine wpHz_take (i := 9) (d := 109) (v := .string (tv k)) rfl rfl (by kernel_rfl) (by kernel_rfl) (by kernel_rfl) (fun _ _ _ h => h) rfl (fun W _ => by go_simp) hD0 ?_
              simp only [Act.put, List.setIfInBounds_toArray, List.set_cons_zero, List.set_cons_succ]
              refine wpHz_take (i := 10) (d := 110) (v := .slice (some ⟨g, 0, none⟩) 2 cl) rfl rfl (by kernel_rfl) (by kernel_rfl) (by kernel_rfl) (fun _ _ _ h => h) rfl (fun W _ => by go_simp) hD0 ?_
              simp only [Act.put, List.setIfInBounds_toArray, List.set_cons_zero, List.set_cons_succ]
              refine wpHz_take (i := 11) (d := 111) (v := .pointer (some ⟨g, 1, none⟩)) rfl rfl (by kernel_rfl) (by kernel_rfl) (by kernel_rfl) (fun _ _ _ h => h) rfl (fun W _ => by go_simp) hD0 ?_
              simp only [Act.put, List.setIfInBounds_toArray, List.set_cons_zero, List.set_cons_succ]
              refine wpHz_take (i := 12) (d := 112) (v := .slice a1 M q1) rfl rfl (by kernel_rfl) (by kernel_rfl) (by kernel_rfl) (fun _ _ _ h => h) rfl (fun W hW => by have e0 := (HLW.out W (HBX2.out.trans (hW.mono HBX2.out.size))).2.1; go_simp) hD0 ?_
              simp only [Act.put, List.setIfInBounds_toArray, List.set_cons_zero, List.set_cons_succ]
              refine wpHz_take (i := 13) (d := 113) (v := .string key) rfl rfl (by kernel_rfl) (by kernel_rfl) (by kernel_rfl) (fun _ _ _ h => h) rfl (fun W _ => by go_simp) hD0 ?_
              simp only [Act.put, List.setIfInBounds_toArray, List.set_cons_zero, List.set_cons_succ]
              refine wpHz_one (i := 8) (by kernel_rfl) ?_
              refine wpOz_run rfl rfl (wpz_enter (d := 108) rfl (by go_simp) ((HPU1.out _).mono ?_))
              rintro e v1 ⟨rfl, hb⟩
              have hD1 : Below wx.heap.size wx v1 := hD0.trans (hb.mono hD0.size)
              clear hb
              refine ⟨_, rfl, hD1, ?_⟩
              simp only [Act.put, List.setIfInBounds_toArray, List.set_cons_zero, List.set_cons_succ]
              refine wpHz_one (i := 14) (by kernel_rfl) ?_
              refine wpOz_run rfl rfl (wpz_enter (d := 114) rfl (by go_simp) ((HATK.out _ (HBX2.out.trans (hD1.mono HBX2.out.size))).mono ?_))
              rintro e v2 ⟨rfl, hb⟩
              have hD2 : Below wx.heap.size wx v2 := hD1.trans (hb.mono hD1.size)
              clear hb
              refine ⟨_, rfl, hD2, ?_⟩
              simp only [Act.put, List.setIfInBounds_toArray, List.set_cons_zero, List.set_cons_succ]
              refine wpHz_one (i := 15) (by kernel_rfl) ?_
              refine wpOz_run rfl rfl (wpz_enter (d := 115) rfl (by go_simp) ((HPV1.out _).mono ?_))
              rintro e v3 ⟨rfl, hb⟩
              have hD3 : Below wx.heap.size wx v3 := hD2.trans (hb.mono hD2.size)
              clear hb
              refine ⟨_, rfl, hD3, ?_⟩
              simp only [Act.put, List.setIfInBounds_toArray, List.set_cons_zero, List.set_cons_succ]
              refine wpHz_take (i := 16) (d := 15) (v := .string (tu (k + 1))) rfl rfl (by kernel_rfl) (by kernel_rfl) (by kernel_rfl) (fun _ _ _ h => h) rfl (fun W _ => by go_simp) hD3 ?_
              simp only [Act.put, List.setIfInBounds_toArray, List.set_cons_zero, List.set_cons_succ]
              refine wpHz_take (i := 17) (d := 16) (v := .string (tv (k + 1))) rfl rfl (by kernel_rfl) (by kernel_rfl) (by kernel_rfl) (fun _ _ _ h => h) rfl (fun W _ => by go_simp) hD3 ?_
              simp only [Act.put, List.setIfInBounds_toArray, List.set_cons_zero, List.set_cons_succ]
              refine wpAnyH_done (by kernel_rfl) ?_ _
              have HB7 := Lib.hid (HBX2.out.trans (hD3.mono HBX2.out.size))
              clear hD0 hD1 hD2 hD3 HBX2
              go_wp2_with fail
              go_roundw
              case rel => exact ⟨k + 1, by omega, by rw [HXY1.out.1], by rw [HXY1.out.2], rfl, rfl, by go_num, HB7.out⟩
              case measure => simp [intOf]; omega
        · obtain rfl : k = N := by omega
          have ht1 := HSF.out.t1
          have hl1 := HSF.out.l1
          have ht2 := HSF.out.t2
          have heq := HSF.out.eq
          rw [HPN.out] at ht1 hl1 ht2 heq
          have HT1 := Lib.hid ht1
          have HP1 := Lib.hid HSF.out.p1
          have HL1 := Lib.hid hl1
          have HT2 := Lib.hid ht2
          have HP2 := Lib.hid HSF.out.p2
          have HL2 := Lib.hid HSF.out.l2
          have HL3 := Lib.hid HSF.out.l3
          have heq2 : ((tu k).toList == e4.toList) = true := by rw [heq, beq_self_eq_true]
          have HBA := Lib.hid (HB2.out.trans (HBR.out.mono HB2.out.size))
          clear ht1 hl1 ht2 heq HSF HPN HMR HAT HLC HBR HB4
          generalize tx k = tx1 at *
          generalize ty k = ty1 at *
          generalize tu k = tu1 at *
          generalize tv k = tv1 at *
          go_wp2_with fail
          refine (HT1.out _).mono ?_
          rintro e y ⟨rfl, hb⟩
          replace HBA := Lib.hid (HBA.out.trans (hb.mono HBA.out.size))
          clear hb HT1
          go_wp2_with fail
          refine (HP1.out _).mono ?_
          rintro e y ⟨rfl, hb⟩
          replace HBA := Lib.hid (HBA.out.trans (hb.mono HBA.out.size))
          clear hb HP1
          go_wp2_with fail
          refine (HL1.out _).mono ?_
          rintro e y ⟨rfl, hb⟩
          replace HBA := Lib.hid (HBA.out.trans (hb.mono HBA.out.size))
          clear hb HL1
          go_wp2_with fail
          refine (HT2.out _).mono ?_
          rintro e y ⟨rfl, hb⟩
          replace HBA := Lib.hid (HBA.out.trans (hb.mono HBA.out.size))
          clear hb HT2
          go_wp2_with fail
          refine (HP2.out _).mono ?_
          rintro e y ⟨rfl, hb⟩
          replace HBA := Lib.hid (HBA.out.trans (hb.mono HBA.out.size))
          clear hb HP2
          go_wp2_with fail
          refine (HL2.out _).mono ?_
          rintro e y ⟨rfl, hb⟩
          replace HBA := Lib.hid (HBA.out.trans (hb.mono HBA.out.size))
          clear hb HL2
          go_wp2_with fail
          refine (HL3.out _).mono ?_
          rintro e y ⟨rfl, hb⟩
          replace HBA := Lib.hid (HBA.out.trans (hb.mono HBA.out.size))
          clear hb HL3
          go_wp2_with fail
          go_ret
          exact ⟨rfl, HBA.out⟩

end Go.Proofs.YtgkojegljeofeaaGreatDoor
