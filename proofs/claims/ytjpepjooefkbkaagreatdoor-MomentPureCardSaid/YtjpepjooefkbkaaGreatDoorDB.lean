/-
  The reference of layer 8: both, Delta, Distance, within, Factor, part, Moment; light of two lists; DistMeasures is walked. The laws of layer 9: made of two lists, least, holds; the reference's Max.
-/
import Derived.Test.YtjpepjooefkbkaaGreatDoorZE
import Derived.Test.YtjpepjooefkbkaaGreatDoorU19
import Derived.WalkSmall
import Derived.Test.YtjpepjooefkbkaaGreatDoorD1
namespace Go.Proofs.YtjpepjooefkbkaaGreatDoor
section
open Go.RowKit NV Go.Maps Go.Sort Go.Shelf
open Go.Lib (decDigits)
set_option maxHeartbeats 1600000 in
set_option maxRecDepth 100000 in
theorem rboth_any {P Q : List MI} {N M c1 c2 : Nat} {a1 a2 : Option Addr} {w : World} (hp : MR w a1 N P) (hq : MR w a2 M Q) (hN : N ≤ 1000) (hM : M ≤ 1000) (hlp : ML2 P) (hlq : ML2 Q) :
  Calls Tryz.prog 34 #[.slice a1 N c1, .slice a2 M c2] w fun e w' => e = .returned (.int .i64 ((bE P Q : Nat) : Int)) ∧ Below w.heap.size w w' := by
 have HP := Lib.hid (rCheck_any (cap := c1) hp (by omega) hlp)
 have HQ := Lib.hid (fun W (hb : Below w.heap.size w W) => rCheck_any (cap := c2) (hq.below hb) (by omega) hlq)
 obtain ⟨c, hc⟩ : ∃ c, c = bE P Q := ⟨_, rfl⟩
 rw [← hc]
 unfold bE at hc
 clear hp hq hlp hlq
 by_cases h0 : chkZ P = 0
 ·rw [if_neg (by omega)] at hc
  rw [← hc] at HQ
  rw [h0] at HP
  clear hc h0
  go_enter Tryz.func34, Tryz.ntmps34
  go_wp2_with fail
  refine HP.out.mono ?_
  rintro e w1 ⟨rfl, hb⟩
  have HB := Lib.hid hb
  clear hb HP
  go_wp2_with fail
  refine (HQ.out _ HB.out).mono ?_
  rintro e w2 ⟨rfl, hb⟩
  have HB2 := Lib.hid (HB.out.trans (hb.mono HB.out.size))
  clear hb HQ HB
  go_wp2_with fail
  go_ret
  exact ⟨rfl, HB2.out⟩
 ·rw [if_pos h0] at hc
  have hz := errneZ h0
  rw [← hc] at HP hz
  clear hc h0
  go_enter Tryz.func34, Tryz.ntmps34
  go_wp2_with fail
  refine HP.out.mono ?_
  rintro e w1 ⟨rfl, hb⟩
  have HB := Lib.hid hb
  clear hb HP
  go_wp2_with fail
  go_ret
  exact ⟨rfl, HB.out⟩
theorem rSub_oQ (p q : Rat) (hp : QOk p) (hq : QOk q) (w : World) :
  Calls Tryz.prog 9 #[.string (qstr p), .string (qstr q)] w (PR (oQ (okQ (p + -q))) w) := by
 have h := rSub_q w hp hq
 unfold RQ at h
 rw [wQ_oQ] at h
 exact h
theorem okQ_at {q r : Rat} (h : okQ q = some r) : r = q ∧ QOk r := by
 obtain ⟨e, ho⟩ := okQ_some h
 exact ⟨e.symm, e ▸ ho⟩
set_option maxHeartbeats 3200000 in
set_option maxRecDepth 100000 in
theorem rwithin_any {P Q : List MI} {N M c1 c2 : Nat} {a1 a2 : Option Addr} {w : World} (hp : MR w a1 N P) (hq : MR w a2 M Q) (hN : N ≤ 1000) (hM : M ≤ 1000) :
  Calls Tryz.prog 35 #[.slice a1 N c1, .slice a2 M c2] w fun e w' => e = .returned (.bool (allZ P Q)) ∧ Below w.heap.size w w' := by
 have HR := Lib.hid hp
 have HF := Lib.hid (fun key W (hb : Below w.heap.size w W) => rfind_any (cap := c2) (key := key) (hq.below hb) (by omega))
 have HNO := Lib.hid (show ∀ k x, P[k]? = some x → hasZ (kZ x) Q = false → allZ P Q = false from fun k x hx h => by
  unfold allZ
  rw [List.all_eq_false]
  exact ⟨x, List.mem_of_getElem? hx, by rw [h]; decide⟩)
 have HYES := Lib.hid (show (∀ k x, k < N → P[k]? = some x → hasZ (kZ x) Q = true) → allZ P Q = true from fun h => by
  unfold allZ
  rw [List.all_eq_true]
  intro x hx
  obtain ⟨k, hk, rfl⟩ := List.mem_iff_getElem.1 hx
  exact h k _ (by rw [← hp.len]; exact hk) (List.getElem?_eq_getElem hk))
 generalize allZ P Q = r at *
 clear hp hq
 go_enter Tryz.func35, Tryz.ntmps35
 go_wp2_with fail
 go_loopw [5] (fun iv wr => ∃ k : Nat, k ≤ N ∧ iv = .int .i64 (k : Int) ∧ Hid (∀ j x, j < k → P[j]? = some x → hasZ (kZ x) Q = true) ∧ Below w.heap.size w wr) (fun iv _ => N - (intOf iv).toNat)
 case atStart => exact ⟨0, Nat.zero_le _, rfl, Lib.hid (fun j x hj => absurd hj (Nat.not_lt_zero _)), Below.refl _ _⟩
 case round =>
  obtain ⟨k, hk, rfl, HALL, hb⟩ := hrel
  by_cases hlt : k < N
  ·obtain ⟨a, x, rfl, hx, _, c0, c1x⟩ := (HR.out.below hb).at hlt
   have HB := Lib.hid hb
   have HX := Lib.hid hx
   have HNK := Lib.hid (HNO.out k x hx)
   have HCK := Lib.hid (HF.out x.1 wr hb)
   obtain ⟨x1, x2⟩ := x
   have HCK2 := Lib.hid (show Calls Tryz.prog 78 #[.slice a2 M c2, .string x1] wr fun e w' => e = .returned (.tuple #[.string (valZ (kZ (x1, x2)) Q), .bool (hasZ (kZ (x1, x2)) Q)]) ∧ wr = w' from HCK.out)
   clear HCK
   generalize valZ (kZ (x1, x2)) Q = vv at *
   cases hh : hasZ (kZ (x1, x2)) Q with
   | true =>
    rw [hh] at HCK2
    have HH := Lib.hid hh
    clear hb hx hh HNK
    go_wp2_with fail
    refine HCK2.out.mono ?_
    rintro e w2 ⟨rfl, rfl⟩
    clear HCK2
    go_wp2_with fail
    go_roundw
    case rel => exact ⟨k + 1, by omega, by go_num, Lib.hid (fun j y hj hy => by
     rcases Nat.lt_or_ge j k with h | h
     ·exact HALL.out j y h hy
     ·obtain rfl : k = j := by omega
      rw [HX.out] at hy
      obtain rfl := Option.some.inj hy
      exact HH.out), HB.out⟩
    case measure => simp [intOf]; omega
   | false =>
    rw [hh] at HCK2
    have HFF := Lib.hid (HNK.out hh)
    clear hb hx hh HNK HALL HX HYES HNO HR HF
    go_wp2_with fail
    refine HCK2.out.mono ?_
    rintro e w2 ⟨rfl, rfl⟩
    clear HCK2
    go_wp2_with fail
    go_ret
    exact ⟨by rw [HFF.out]; rfl, HB.out⟩
  ·obtain rfl : k = N := by omega
   have HB := Lib.hid hb
   have HFF := Lib.hid (HYES.out HALL.out)
   clear hb HALL HYES HNO HR HF
   go_wp2_with fail
   go_ret
   exact ⟨by rw [HFF.out]; rfl, HB.out⟩
theorem rDiv_oQ (p q : Rat) (hp : QOk p) (hq : QOk q) (h0 : q ≠ 0) (w : World) :
  Calls Tryz.prog 36 #[.string (qstr p), .string (qstr q)] w (PR (oQ (okQ (p * q⁻¹))) w) := by
 have h := rDiv_q w hp hq h0 rfl
 unfold RQ at h
 rw [wQ_oQ] at h
 exact h
theorem rMax_oQ (s d : Rat) (hs : QOk s) (hd : QOk d) (w : World) :
  Calls Tryz.prog 13 #[.string (qstr s), .string (qstr d)] w fun e w' => e = .returned (.tuple #[.string (qstr (mxQ s d)), .int .i64 0]) ∧ Below w.heap.size w w' := by
 have h := rMax_q w hs hd
 have e : (if 0 ≤ cmpQ s d then s else d) = mxQ s d := by
  unfold mxQ
  rcases lt_tri s d with h | h | h
  ·rw [cmpQ_lt h, if_neg (by omega), if_neg (fun h2 => by grind)]
  ·subst h; rw [cmpQ_self, if_pos (by omega)]; split <;> rfl
  ·have h1 : ¬ cmpQ s d ≤ 0 := fun h2 => by have := cmpQ_le.1 h2; grind
   rw [if_pos (by omega), if_pos h]
 rw [e] at h
 exact h
set_option maxHeartbeats 6400000 in
set_option maxRecDepth 100000 in
theorem rFactor_any {P Q : List MI} {N M c1 c2 : Nat} {a1 a2 : Option Addr} {w : World} (hp : MR w a1 N P) (hq : MR w a2 M Q) (hN : N ≤ 1000) (hM : M ≤ 1000) (hlp : ML2 P) (hlq : ML2 Q) :
  Calls Tryz.prog 12 #[.slice a1 N c1, .slice a2 M c2] w (TR (facE P Q) w) := by
 have HCB := Lib.hid (rboth_any (c1 := c1) (c2 := c2) hp hq hN hM hlp hlq)
 have HWI := Lib.hid (fun W (hb : Below w.heap.size w W) => rwithin_any (c1 := c1) (c2 := c2) (hp.below hb) (hq.below hb) hN hM)
 unfold TR
 obtain ⟨T, hT⟩ : ∃ T, T = facE P Q := ⟨_, rfl⟩
 rw [← hT]
 unfold facE at hT
 have hlenP := hp.len
 by_cases h0 : bE P Q = 0
 ·rw [if_neg (by omega)] at hT
  rw [h0] at HCB
  obtain ⟨hcp, hcq⟩ := bE_zero h0
  obtain ⟨hop, _, _, _⟩ := chk_ok hcp
  obtain ⟨hoq, _, _, hpq⟩ := chk_ok hcq
  unfold cmpR at hT
  cases hall : allZ P Q with
  | false =>
   rw [hall] at hT HWI
   replace hT : T = (⟨#[]⟩, false, 0) := hT
   subst hT
   clear hp hq hlp hlq h0 hcp hcq hop hoq hpq hlenP hall
   go_enter Tryz.func12, Tryz.ntmps12
   go_wp2_with fail
   refine HCB.out.mono ?_
   rintro e w1 ⟨rfl, hb⟩
   have HB := Lib.hid hb
   clear hb HCB
   go_wp2_with fail
   refine (HWI.out _ HB.out).mono ?_
   rintro e w2 ⟨rfl, hb⟩
   have HB2 := Lib.hid (HB.out.trans (hb.mono HB.out.size))
   clear hb HWI HB
   go_wp2_with fail
   go_ret3
   exact ⟨rfl, HB2.out⟩
  | true =>
   rw [hall] at HWI
   rw [if_pos hall] at hT
   obtain ⟨g, hg⟩ : ∃ g : Nat → Rat → Option Rat, g = fun k s => facF s (qZ P k) (vQ Q (kZ (getZ P k))) := ⟨_, rfl⟩
   have hco : cmpO facF P Q = runO g 0 N := by unfold cmpO; rw [hlenP, hg]
   rw [hco] at hT
   have HT5 := Lib.hid (show ∀ j s, j < N → runO g 0 j = some s → g j s = none → T = (⟨#[]⟩, false, 5) from fun j s hj hr hn => by
    rw [hT, runO_fail hr hn hj]
    rfl)
   have HT0 := Lib.hid (show ∀ s, runO g 0 N = some s → T = (qstr s, true, 0) from fun s h => by
    rw [hT, h]
    rfl)
   have HRO := Lib.hid (show ∀ (j : Nat) (s : Rat), runO g 0 j = some s → QOk s from fun _ _ h => runF_ok (fun _ _ _ hs h => by rw [hg] at h; exact facF_ok hs h) h)
   have HMR := Lib.hid (fun W (hb : Below w.heap.size w W) => And.intro (hp.below hb) (hq.below hb))
   have HAT := Lib.hid (fun key W (hb : Below w.heap.size w W) => (rAt_any (cap := c2) (key := key) (hq.below hb) (by omega)))
   have HOP := Lib.hid hop
   have HVQ := Lib.hid (fun key => vQ_ok hoq key)
   have HVN := Lib.hid (show ∀ (k : Nat) (x : MI), P[k]? = some x → vQ Q (kZ x) ≠ 0 from fun k x hx => by
    have h1 : hasZ (kZ x) Q = true := by
     have h2 := hall
     unfold allZ at h2
     exact (List.all_eq_true.1 h2) x (List.mem_of_getElem? hx)
    obtain ⟨y, hy, _, e⟩ := val_mem h1
    obtain ⟨j, hj, rfl⟩ := List.mem_iff_getElem.1 hy
    have h3 := hpq j hj
    unfold qZ at h3
    rw [getZ_of (List.getElem?_eq_getElem hj)] at h3
    unfold vQ
    rw [e]
    exact Ne.symm (Rat.ne_of_lt h3))
   have HGS := Lib.hid (show ∀ k x s, P[k]? = some x → g k s = facF s (qZ P k) (vQ Q (kZ x)) from fun k x s hx => by rw [hg]; show facF _ _ (vQ Q (kZ (getZ P k))) = _; rw [getZ_of hx])
   clear hp hq hlp hlq h0 hcp hcq hop hoq hpq hlenP hall hT hco hg
   go_enter Tryz.func12, Tryz.ntmps12
   go_wp2_with fail
   refine HCB.out.mono ?_
   rintro e w1 ⟨rfl, hb⟩
   have HB := Lib.hid hb
   clear hb HCB
   go_wp2_with fail
   refine (HWI.out _ HB.out).mono ?_
   rintro e w2 ⟨rfl, hb⟩
   have HB2 := Lib.hid (HB.out.trans (hb.mono HB.out.size))
   clear hb HWI HB
   go_wp2_with fail
   go_loopw [8, 9] (fun sv iv wr => ∃ (k : Nat) (s : Rat), k ≤ N ∧ sv = .string (qstr s) ∧ iv = .int .i64 (k : Int) ∧ Hid (runO g 0 k = some s) ∧ Below w.heap.size w wr) (fun _ iv _ => N - (intOf iv).toNat)
   case atStart => exact ⟨0, 0, Nat.zero_le _, by rw [q0Z], rfl, Lib.hid rfl, HB2.out⟩
   case round =>
    obtain ⟨k, s, hk, rfl, rfl, HRUN, hb⟩ := hrel
    by_cases hlt : k < N
    ·obtain ⟨a, x, rfl, hx, _, c0, c1x⟩ := (HMR.out wr hb).1.at hlt
     have HLW0 := Lib.hid (show ∀ W, Below wr.heap.size wr W → W.cell? (a.add (k * 2)) = some (.string x.1) ∧ W.cell? ⟨(a.add (k * 2)).block, (a.add (k * 2)).off + 1, none⟩ = some (.string x.2) from fun W hw => by
      obtain ⟨ad', x', h1, h2, _, h3, h4⟩ := (HMR.out W (hb.trans (hw.mono hb.size))).1.at hlt
      obtain rfl := Option.some.inj h1
      rw [hx] at h2
      obtain rfl := Option.some.inj h2
      exact ⟨h3, h4⟩)
     obtain ⟨hx1, hx2⟩ := HOP.out.at hx
     obtain ⟨hv1, hv2⟩ := HVQ.out (kZ x)
     have hv0 := HVN.out k x hx
     have HA := Lib.hid (show ∀ W, Below wr.heap.size wr W → Calls Tryz.prog 37 #[.slice a2 M c2, .string x.1] W (fun e w' => e = .returned (.string (qstr (vQ Q (kZ x)))) ∧ Below W.heap.size W w') from fun W hw => by
      have h := HAT.out x.1 W (hb.trans (hw.mono hb.size))
      have e : valZ x.1.data.toList Q = qstr (vQ Q (kZ x)) := hv1
      rw [e] at h
      exact h.mono fun e w' ⟨h1, h2⟩ => ⟨h1, h2 ▸ Below.refl _ _⟩)
     have HD := Lib.hid (fun W => rDiv_oQ (qZ P k) (vQ Q (kZ x)) hx2 hv2 hv0 W)
     have HB1 := Lib.hid hb
     have HB0 := Lib.hid (Below.refl wr.heap.size wr)
     have H5 := Lib.hid (HT5.out k s hlt HRUN.out)
     have HST := Lib.hid (runO_step HRUN.out)
     have hds := HGS.out k x s hx
     rw [hds] at H5 HST
     have HS := Lib.hid (HRO.out k s HRUN.out)
     obtain ⟨x1, x2⟩ := x
     have hx1' : x2 = qstr (qZ P k) := hx1
     subst hx1'
     generalize vQ Q (kZ (x1, qstr (qZ P k))) = y at *
     generalize qZ P k = p at *
     have HLW := Lib.hid HLW0.out
     clear HLW0 hb hx hx1 hx2 hv1 hv2 hv0 hds HMR HAT HOP HVQ HVN HT5 HT0 HRO HRUN HGS c0 c1x
     cases hf : okQ (p * y⁻¹) with
     | none =>
      have HC := Lib.hid (H5.out (by unfold facF; rw [hf]; rfl))
      rw [hf] at HD
      have HDV := Lib.hid (show ∀ W, Calls Tryz.prog 36 #[.string (qstr p), .string (qstr y)] W (fun e w' => e = .returned (.tuple #[.string ⟨#[]⟩, .int .i64 5]) ∧ Below W.heap.size W w') from fun W => HD.out W)
      clear H5 HST hf HS HD
      go_wp2_with fail
      refine wp_world HB0.out (fun wx hbx => ?_)
      have HBX2 := Lib.hid hbx
      clear hbx
      refine wp_region_held (S := fun W => Below wx.heap.size wx W) (by kernel_rfl) ?_
      change wpAnyH _ _ _ _ _ 18 _ _ wx.drew
      have hD0 := (Below.refl wx.heap.size wx).drew
      generalize wx.drew = W at *
      refine wpHz_take (i := 0) (d := 31) (v := .slice (some a) N c1) rfl rfl (by kernel_rfl) (by kernel_rfl) (by kernel_rfl) (fun _ _ _ h => h) rfl (fun W _ => by go_simp) hD0 ?_
      simp only [Act.put, sA, sB, sC]
      refine wpHz_take (i := 1) (d := 32) (v := .int .i64 (k : Int)) rfl rfl (by kernel_rfl) (by kernel_rfl) (by kernel_rfl) (fun _ _ _ h => h) rfl (fun W _ => by go_simp) hD0 ?_
      simp only [Act.put, sA, sB, sC]
      refine wpHz_take (i := 2) (d := 33) (v := .pointer (some (a.add (k * 2)))) rfl rfl (by kernel_rfl) (by kernel_rfl) (by kernel_rfl) (fun _ _ _ h => h) rfl (fun W _ => by go_simp) hD0 ?_
      simp only [Act.put, sA, sB, sC]
      refine wpHz_take (i := 3) (d := 34) (v := .pointer (some ⟨(a.add (k * 2)).block, (a.add (k * 2)).off + 1, none⟩)) rfl rfl (by kernel_rfl) (by kernel_rfl) (by kernel_rfl) (fun _ _ _ h => h) rfl (fun W _ => by go_simp) hD0 ?_
      simp only [Act.put, sA, sB, sC]
      refine wpHz_take (i := 4) (d := 35) (v := .string (qstr p)) rfl rfl (by kernel_rfl) (by kernel_rfl) (by kernel_rfl) (fun _ _ _ h => h) rfl (fun W hW => by have e0 := (HLW.out W (HBX2.out.trans (hW.mono HBX2.out.size))).2; go_simp) hD0 ?_
      simp only [Act.put, sA, sB, sC]
      refine wpHz_take (i := 5) (d := 36) (v := .slice a2 M c2) rfl rfl (by kernel_rfl) (by kernel_rfl) (by kernel_rfl) (fun _ _ _ h => h) rfl (fun W _ => by go_simp) hD0 ?_
      simp only [Act.put, sA, sB, sC]
      refine wpHz_take (i := 6) (d := 37) (v := .slice (some a) N c1) rfl rfl (by kernel_rfl) (by kernel_rfl) (by kernel_rfl) (fun _ _ _ h => h) rfl (fun W _ => by go_simp) hD0 ?_
      simp only [Act.put, sA, sB, sC]
      refine wpHz_take (i := 7) (d := 38) (v := .int .i64 (k : Int)) rfl rfl (by kernel_rfl) (by kernel_rfl) (by kernel_rfl) (fun _ _ _ h => h) rfl (fun W _ => by go_simp) hD0 ?_
      simp only [Act.put, sA, sB, sC]
      refine wpHz_take (i := 8) (d := 39) (v := .pointer (some (a.add (k * 2)))) rfl rfl (by kernel_rfl) (by kernel_rfl) (by kernel_rfl) (fun _ _ _ h => h) rfl (fun W _ => by go_simp) hD0 ?_
      simp only [Act.put, sA, sB, sC]
      refine wpHz_take (i := 9) (d := 40) (v := .pointer (some (a.add (k * 2)))) rfl rfl (by kernel_rfl) (by kernel_rfl) (by kernel_rfl) (fun _ _ _ h => h) rfl (fun W _ => by go_simp) hD0 ?_
      simp only [Act.put, sA, sB, sC]
      refine wpHz_take (i := 10) (d := 41) (v := .string x1) rfl rfl (by kernel_rfl) (by kernel_rfl) (by kernel_rfl) (fun _ _ _ h => h) rfl (fun W hW => by have e0 := (HLW.out W (HBX2.out.trans (hW.mono HBX2.out.size))).1; go_simp) hD0 ?_
      simp only [Act.put, sA, sB, sC]
      refine wpHz_one (i := 11) (by kernel_rfl) ?_
      refine wpOz_run rfl rfl (wpz_enter (d := 42) rfl (by go_simp) ((HA.out _ (HBX2.out.trans (hD0.mono HBX2.out.size))).mono ?_))
      rintro e v1 ⟨rfl, hb⟩
      have hD1 : Below wx.heap.size wx v1 := hD0.trans (hb.mono hD0.size)
      clear hb
      refine ⟨_, rfl, hD1, ?_⟩
      simp only [Act.put, sA, sB, sC]
      refine wpHz_one (i := 12) (by kernel_rfl) ?_
      refine wpOz_run rfl rfl (wpz_enter (d := 43) rfl (by go_simp) ((HDV.out _).mono ?_))
      rintro e v2 ⟨rfl, hb⟩
      have hD2 : Below wx.heap.size wx v2 := hD1.trans (hb.mono hD1.size)
      clear hb
      refine ⟨_, rfl, hD2, ?_⟩
      simp only [Act.put, sA, sB, sC]
      refine wpHz_take (i := 13) (d := 30) (v := .tuple #[.string ⟨#[]⟩, .int .i64 5]) rfl rfl (by kernel_rfl) (by kernel_rfl) (by kernel_rfl) (fun _ _ _ h => h) rfl (fun W _ => by go_simp) hD2 ?_
      simp only [Act.put, sA, sB, sC]
      refine wpHz_take (i := 14) (d := 44) (v := .string ⟨#[]⟩) rfl rfl (by kernel_rfl) (by kernel_rfl) (by kernel_rfl) (fun _ _ _ h => h) rfl (fun W _ => by go_simp) hD2 ?_
      simp only [Act.put, sA, sB, sC]
      refine wpHz_take (i := 15) (d := 45) (v := .int .i64 5) rfl rfl (by kernel_rfl) (by kernel_rfl) (by kernel_rfl) (fun _ _ _ h => h) rfl (fun W _ => by go_simp) hD2 ?_
      simp only [Act.put, sA, sB, sC]
      refine wpHz_take (i := 16) (d := 10) (v := .string ⟨#[]⟩) rfl rfl (by kernel_rfl) (by kernel_rfl) (by kernel_rfl) (fun _ _ _ h => h) rfl (fun W _ => by go_simp) hD2 ?_
      simp only [Act.put, sA, sB, sC]
      refine wpHz_take (i := 17) (d := 11) (v := .int .i64 5) rfl rfl (by kernel_rfl) (by kernel_rfl) (by kernel_rfl) (fun _ _ _ h => h) rfl (fun W _ => by go_simp) hD2 ?_
      simp only [Act.put, sA, sB, sC]
      refine wpAnyH_done (by kernel_rfl) ?_ _
      have HB3 := Lib.hid (HB1.out.trans ((HBX2.out.trans (hD2.mono HBX2.out.size)).mono HB1.out.size))
      clear hD0 hD1 hD2 HBX2 HA HLW HDV HB0
      go_wp2_with fail
      go_ret3
      exact ⟨by rw [HC.out]; rfl, HB3.out⟩
     | some d =>
      obtain ⟨hd1, hdo⟩ := okQ_at hf
      have HMX := Lib.hid (fun W => rMax_oQ s d HS.out hdo W)
      have HST2 := Lib.hid (HST.out.trans (show facF s p y = some (mxQ s d) by unfold facF; rw [hf]; rfl))
      rw [hf] at HD
      have HDV := Lib.hid (show ∀ W, Calls Tryz.prog 36 #[.string (qstr p), .string (qstr y)] W (fun e w' => e = .returned (.tuple #[.string (qstr d), .int .i64 0]) ∧ Below W.heap.size W w') from fun W => HD.out W)
      clear H5 HST hf HS HD hd1 hdo
      go_wp2_with fail
      refine wp_world HB0.out (fun wx hbx => ?_)
      have HBX2 := Lib.hid hbx
      clear hbx
      refine wp_region_held (S := fun W => Below wx.heap.size wx W) (by kernel_rfl) ?_
      change wpAnyH _ _ _ _ _ 18 _ _ wx.drew
      have hD0 := (Below.refl wx.heap.size wx).drew
      generalize wx.drew = W at *
      refine wpHz_take (i := 0) (d := 31) (v := .slice (some a) N c1) rfl rfl (by kernel_rfl) (by kernel_rfl) (by kernel_rfl) (fun _ _ _ h => h) rfl (fun W _ => by go_simp) hD0 ?_
      simp only [Act.put, sA, sB, sC]
      refine wpHz_take (i := 1) (d := 32) (v := .int .i64 (k : Int)) rfl rfl (by kernel_rfl) (by kernel_rfl) (by kernel_rfl) (fun _ _ _ h => h) rfl (fun W _ => by go_simp) hD0 ?_
      simp only [Act.put, sA, sB, sC]
      refine wpHz_take (i := 2) (d := 33) (v := .pointer (some (a.add (k * 2)))) rfl rfl (by kernel_rfl) (by kernel_rfl) (by kernel_rfl) (fun _ _ _ h => h) rfl (fun W _ => by go_simp) hD0 ?_
      simp only [Act.put, sA, sB, sC]
      refine wpHz_take (i := 3) (d := 34) (v := .pointer (some ⟨(a.add (k * 2)).block, (a.add (k * 2)).off + 1, none⟩)) rfl rfl (by kernel_rfl) (by kernel_rfl) (by kernel_rfl) (fun _ _ _ h => h) rfl (fun W _ => by go_simp) hD0 ?_
      simp only [Act.put, sA, sB, sC]
      refine wpHz_take (i := 4) (d := 35) (v := .string (qstr p)) rfl rfl (by kernel_rfl) (by kernel_rfl) (by kernel_rfl) (fun _ _ _ h => h) rfl (fun W hW => by have e0 := (HLW.out W (HBX2.out.trans (hW.mono HBX2.out.size))).2; go_simp) hD0 ?_
      simp only [Act.put, sA, sB, sC]
      refine wpHz_take (i := 5) (d := 36) (v := .slice a2 M c2) rfl rfl (by kernel_rfl) (by kernel_rfl) (by kernel_rfl) (fun _ _ _ h => h) rfl (fun W _ => by go_simp) hD0 ?_
      simp only [Act.put, sA, sB, sC]
      refine wpHz_take (i := 6) (d := 37) (v := .slice (some a) N c1) rfl rfl (by kernel_rfl) (by kernel_rfl) (by kernel_rfl) (fun _ _ _ h => h) rfl (fun W _ => by go_simp) hD0 ?_
      simp only [Act.put, sA, sB, sC]
      refine wpHz_take (i := 7) (d := 38) (v := .int .i64 (k : Int)) rfl rfl (by kernel_rfl) (by kernel_rfl) (by kernel_rfl) (fun _ _ _ h => h) rfl (fun W _ => by go_simp) hD0 ?_
      simp only [Act.put, sA, sB, sC]
      refine wpHz_take (i := 8) (d := 39) (v := .pointer (some (a.add (k * 2)))) rfl rfl (by kernel_rfl) (by kernel_rfl) (by kernel_rfl) (fun _ _ _ h => h) rfl (fun W _ => by go_simp) hD0 ?_
      simp only [Act.put, sA, sB, sC]
      refine wpHz_take (i := 9) (d := 40) (v := .pointer (some (a.add (k * 2)))) rfl rfl (by kernel_rfl) (by kernel_rfl) (by kernel_rfl) (fun _ _ _ h => h) rfl (fun W _ => by go_simp) hD0 ?_
      simp only [Act.put, sA, sB, sC]
      refine wpHz_take (i := 10) (d := 41) (v := .string x1) rfl rfl (by kernel_rfl) (by kernel_rfl) (by kernel_rfl) (fun _ _ _ h => h) rfl (fun W hW => by have e0 := (HLW.out W (HBX2.out.trans (hW.mono HBX2.out.size))).1; go_simp) hD0 ?_
      simp only [Act.put, sA, sB, sC]
      refine wpHz_one (i := 11) (by kernel_rfl) ?_
      refine wpOz_run rfl rfl (wpz_enter (d := 42) rfl (by go_simp) ((HA.out _ (HBX2.out.trans (hD0.mono HBX2.out.size))).mono ?_))
      rintro e v1 ⟨rfl, hb⟩
      have hD1 : Below wx.heap.size wx v1 := hD0.trans (hb.mono hD0.size)
      clear hb
      refine ⟨_, rfl, hD1, ?_⟩
      simp only [Act.put, sA, sB, sC]
      refine wpHz_one (i := 12) (by kernel_rfl) ?_
      refine wpOz_run rfl rfl (wpz_enter (d := 43) rfl (by go_simp) ((HDV.out _).mono ?_))
      rintro e v2 ⟨rfl, hb⟩
      have hD2 : Below wx.heap.size wx v2 := hD1.trans (hb.mono hD1.size)
      clear hb
      refine ⟨_, rfl, hD2, ?_⟩
      simp only [Act.put, sA, sB, sC]
      refine wpHz_take (i := 13) (d := 30) (v := .tuple #[.string (qstr d), .int .i64 0]) rfl rfl (by kernel_rfl) (by kernel_rfl) (by kernel_rfl) (fun _ _ _ h => h) rfl (fun W _ => by go_simp) hD2 ?_
      simp only [Act.put, sA, sB, sC]
      refine wpHz_take (i := 14) (d := 44) (v := .string (qstr d)) rfl rfl (by kernel_rfl) (by kernel_rfl) (by kernel_rfl) (fun _ _ _ h => h) rfl (fun W _ => by go_simp) hD2 ?_
      simp only [Act.put, sA, sB, sC]
      refine wpHz_take (i := 15) (d := 45) (v := .int .i64 0) rfl rfl (by kernel_rfl) (by kernel_rfl) (by kernel_rfl) (fun _ _ _ h => h) rfl (fun W _ => by go_simp) hD2 ?_
      simp only [Act.put, sA, sB, sC]
      refine wpHz_take (i := 16) (d := 10) (v := .string (qstr d)) rfl rfl (by kernel_rfl) (by kernel_rfl) (by kernel_rfl) (fun _ _ _ h => h) rfl (fun W _ => by go_simp) hD2 ?_
      simp only [Act.put, sA, sB, sC]
      refine wpHz_take (i := 17) (d := 11) (v := .int .i64 0) rfl rfl (by kernel_rfl) (by kernel_rfl) (by kernel_rfl) (fun _ _ _ h => h) rfl (fun W _ => by go_simp) hD2 ?_
      simp only [Act.put, sA, sB, sC]
      refine wpAnyH_done (by kernel_rfl) ?_ _
      have HB3 := Lib.hid (HB1.out.trans ((HBX2.out.trans (hD2.mono HBX2.out.size)).mono HB1.out.size))
      clear hD0 hD1 hD2 HBX2 HA HLW HDV HB0
      go_wp2_with fail
      refine (HMX.out _).mono ?_
      rintro e w5 ⟨rfl, hb1⟩
      have HB6 := Lib.hid (HB3.out.trans (hb1.mono HB3.out.size))
      clear hb1 HMX HB3
      go_wp2_with fail
      go_roundw
      case rel => exact ⟨k + 1, mxQ s d, by omega, rfl, by go_num, HST2, HB6.out⟩
      case measure => simp [intOf]; omega
    ·obtain rfl : k = N := by omega
     have HC := Lib.hid (HT0.out s HRUN.out)
     have HB1 := Lib.hid hb
     clear hb HMR HAT HOP HVQ HVN HT5 HT0 HRO HRUN HGS
     go_wp2_with fail
     go_ret3
     exact ⟨by rw [HC.out]; rfl, HB1.out⟩
 ·rw [if_pos h0] at hT
  have hz := errneZ h0
  generalize bE P Q = c at *
  clear hp hq hlp hlq hlenP h0 HWI
  subst hT
  go_enter Tryz.func12, Tryz.ntmps12
  go_wp2_with fail
  refine HCB.out.mono ?_
  rintro e w1 ⟨rfl, hb⟩
  have HB := Lib.hid hb
  clear hb HCB
  go_wp2_with fail
  go_ret3
  exact ⟨rfl, HB.out⟩
theorem ng_pos {q : Rat} (h : 0 < q) : ng q = false := by
 unfold ng
 have h1 : 0 ≤ q.num := Rat.num_nonneg.2 (Rat.le_of_lt h)
 exact decide_eq_false (by omega)
theorem rPow_oQ (p : Rat) (k : Nat) (hp : QOk p) (h0 : 0 < p) (hk : k ≤ 1000000) (w : World) :
  Calls Tryz.prog 108 #[.string (qstr p), .int .i64 (k : Int)] w (PR (oQ (okQ (p ^ k))) w) := by
 have h := rPow_pos_p (k := k) w hp (by omega) (ng_pos h0)
 unfold RQ at h
 rw [wQ_oQ] at h
 exact h
set_option maxHeartbeats 3200000 in
set_option maxRecDepth 100000 in
theorem rpart_any {x y : Rat} {m : Nat} (w : World) (hx : QOk x) (hy : QOk y) (hx0 : 0 < x) (hy0 : 0 < y) (hmm : m ≤ 100) :
  Calls Tryz.prog 77 #[.string (qstr x), .string (qstr y), .int .i64 ((m : Int) + 1)] w (PR (oQ (qpO m x y)) w) := by
 have h0 : y ≠ 0 := Ne.symm (Rat.ne_of_lt hy0)
 have HA := Lib.hid (rPow_oQ x (m + 1) hx hx0 (by omega) w)
 rw [show (((m + 1 : Nat)) : Int) = (m : Int) + 1 from rfl] at HA
 unfold PR
 obtain ⟨T, hT⟩ : ∃ T, T = oQ (qpO m x y) := ⟨_, rfl⟩
 rw [← hT]
 unfold qpO at hT
 cases h1 : okQ (x ^ (m + 1)) with
 | none =>
  rw [h1] at HA hT
  obtain rfl : T = (⟨#[]⟩, 5) := hT
  replace HA := Lib.hid (show Calls _ _ _ _ (PR (⟨#[]⟩, 5) w) from HA.out)
  generalize qstr x = sx at *
  generalize qstr y = sy at *
  clear hx hy hx0 hy0 h1 h0
  go_enter Tryz.func77, Tryz.ntmps77
  go_wp2_with fail
  refine HA.out.mono ?_
  rintro e w1 ⟨rfl, hb⟩
  have HB := Lib.hid hb
  clear hb HA
  go_wp2_with fail
  go_ret2
  exact ⟨rfl, HB.out⟩
 | some a =>
  obtain ⟨e1, oa⟩ := okQ_some h1
  rw [e1] at oa
  rw [h1] at HA hT
  replace HA := Lib.hid (show Calls _ _ _ _ (PR (qstr a, 0) w) from HA.out)
  replace hT : T = oQ ((okQ (y ^ m)).bind fun b => okQ (a * b⁻¹)) := hT
  have HBP := Lib.hid (fun W (_ : Below w.heap.size w W) => rPow_oQ y m hy hy0 (by omega) W)
  have hwr : (m : Int) + 1 - 1 = (m : Int) := by omega
  cases h2 : okQ (y ^ m) with
  | none =>
   rw [h2] at HBP hT
   obtain rfl : T = (⟨#[]⟩, 5) := hT
   replace HBP := Lib.hid (show ∀ W, Below w.heap.size w W → Calls Tryz.prog 108 #[.string (qstr y), .int .i64 (m : Int)] W (PR (⟨#[]⟩, 5) W) from HBP.out)
   generalize qstr x = sx at *
   generalize qstr y = sy at *
   generalize qstr a = sa at *
   clear hx hy hx0 hy0 h1 h2 e1 oa h0
   go_enter Tryz.func77, Tryz.ntmps77
   go_wp2_with fail
   refine HA.out.mono ?_
   rintro e w1 ⟨rfl, hb⟩
   have HB := Lib.hid hb
   clear hb HA
   go_wp2_with fail
   refine (HBP.out _ HB.out).mono ?_
   rintro e w2 ⟨rfl, hb⟩
   have HB2 := Lib.hid (HB.out.trans (hb.mono HB.out.size))
   clear hb HBP HB
   go_wp2_with fail
   go_ret2
   exact ⟨rfl, HB2.out⟩
  | some b =>
   obtain ⟨e2, ob⟩ := okQ_some h2
   rw [e2] at ob
   have hb0 : b ≠ 0 := by rw [← e2]; exact powne_any h0
   have HD := Lib.hid (fun W (_ : Below w.heap.size w W) => rDiv_oQ a b oa ob hb0 W)
   rw [h2] at HBP hT
   replace hT : T = oQ (okQ (a * b⁻¹)) := hT
   rw [← hT] at HD
   replace HBP := Lib.hid (show ∀ W, Below w.heap.size w W → Calls Tryz.prog 108 #[.string (qstr y), .int .i64 (m : Int)] W (PR (qstr b, 0) W) from HBP.out)
   generalize qstr x = sx at *
   generalize qstr y = sy at *
   generalize qstr a = sa at *
   generalize qstr b = sb at *
   clear hx hy hx0 hy0 h1 h2 e1 oa h0 e2 ob hb0 hT
   go_enter Tryz.func77, Tryz.ntmps77
   go_wp2_with fail
   refine HA.out.mono ?_
   rintro e w1 ⟨rfl, hb⟩
   have HB := Lib.hid hb
   clear hb HA
   go_wp2_with fail
   refine (HBP.out _ HB.out).mono ?_
   rintro e w2 ⟨rfl, hb⟩
   have HB2 := Lib.hid (HB.out.trans (hb.mono HB.out.size))
   clear hb HBP HB
   go_wp2_with fail
   refine (HD.out _ HB2.out).mono ?_
   rintro e w3 ⟨rfl, hb⟩
   have HB3 := Lib.hid (HB2.out.trans (hb.mono HB2.out.size))
   clear hb HD HB2
   go_wp2_with fail
   go_ret2
   exact ⟨rfl, HB3.out⟩
set_option maxHeartbeats 6400000 in
set_option maxRecDepth 100000 in
theorem rMoment_any {P Q : List MI} {N M c1 c2 : Nat} {a1 a2 : Option Addr} {n : Int} {w : World} (hp : MR w a1 N P) (hq : MR w a2 M Q) (hN : N ≤ 1000) (hM : M ≤ 1000) (hlp : ML2 P) (hlq : ML2 Q) :
  Calls Tryz.prog 33 #[.slice a1 N c1, .slice a2 M c2, .int .i64 n] w (TR (momE P Q n) w) := by
 have HCB := Lib.hid (rboth_any (c1 := c1) (c2 := c2) hp hq hN hM hlp hlq)
 have HWI := Lib.hid (fun W (hb : Below w.heap.size w W) => rwithin_any (c1 := c1) (c2 := c2) (hp.below hb) (hq.below hb) hN hM)
 unfold TR
 obtain ⟨T, hT⟩ : ∃ T, T = momE P Q n := ⟨_, rfl⟩
 rw [← hT]
 unfold momE at hT
 have hlenP := hp.len
 by_cases h0 : bE P Q = 0
 ·rw [if_neg (by omega)] at hT
  rw [h0] at HCB
  obtain ⟨hcp, hcq⟩ := bE_zero h0
  obtain ⟨hop, _, _, _⟩ := chk_ok hcp
  obtain ⟨hoq, _, _, hpq⟩ := chk_ok hcq
  by_cases hn1 : n < 1
  ·rw [if_pos (.inl hn1)] at hT
   subst hT
   clear hp hq hlp hlq h0 hcp hcq hop hoq hpq hlenP HWI
   go_enter Tryz.func33, Tryz.ntmps33
   go_wp2_with fail
   refine HCB.out.mono ?_
   rintro e w1 ⟨rfl, hb⟩
   have HB := Lib.hid hb
   clear hb HCB
   go_wp2_with fail
   go_ret3
   exact ⟨rfl, HB.out⟩
  by_cases hn8 : 8 < n
  ·rw [if_pos (.inr hn8)] at hT
   subst hT
   clear hp hq hlp hlq h0 hcp hcq hop hoq hpq hlenP HWI
   go_enter Tryz.func33, Tryz.ntmps33
   go_wp2_with fail
   refine HCB.out.mono ?_
   rintro e w1 ⟨rfl, hb⟩
   have HB := Lib.hid hb
   clear hb HCB
   go_wp2_with fail
   go_ret3
   exact ⟨rfl, HB.out⟩
  rw [if_neg (by omega)] at hT
  obtain ⟨m, rfl⟩ : ∃ m : Nat, n = (m : Int) + 1 := ⟨(n - 1).toNat, by omega⟩
  have hm8 : m ≤ 100 := by omega
  have hmn : ((m : Int) + 1 - 1).toNat = m := by omega
  rw [hmn] at hT
  clear hmn
  unfold cmpR at hT
  cases hall : allZ P Q with
  | false =>
   rw [hall] at hT HWI
   replace hT : T = (⟨#[]⟩, false, 0) := hT
   subst hT
   clear hp hq hlp hlq h0 hcp hcq hop hoq hpq hlenP hall
   go_enter Tryz.func33, Tryz.ntmps33
   go_wp2_with fail
   refine HCB.out.mono ?_
   rintro e w1 ⟨rfl, hb⟩
   have HB := Lib.hid hb
   clear hb HCB
   go_wp2_with fail
   refine (HWI.out _ HB.out).mono ?_
   rintro e w2 ⟨rfl, hb⟩
   have HB2 := Lib.hid (HB.out.trans (hb.mono HB.out.size))
   clear hb HWI HB
   go_wp2_with fail
   go_ret3
   exact ⟨rfl, HB2.out⟩
  | true =>
   rw [hall] at HWI
   rw [if_pos hall] at hT
   obtain ⟨g, hg⟩ : ∃ g : Nat → Rat → Option Rat, g = fun k s => momF m s (qZ P k) (vQ Q (kZ (getZ P k))) := ⟨_, rfl⟩
   have hco : cmpO (momF m) P Q = runO g 0 N := by unfold cmpO; rw [hlenP, hg]
   rw [hco] at hT
   have HT5 := Lib.hid (show ∀ j s, j < N → runO g 0 j = some s → g j s = none → T = (⟨#[]⟩, false, 5) from fun j s hj hr hn => by
    rw [hT, runO_fail hr hn hj]
    rfl)
   have HT0 := Lib.hid (show ∀ s, runO g 0 N = some s → T = (qstr s, true, 0) from fun s h => by
    rw [hT, h]
    rfl)
   have HRO := Lib.hid (show ∀ (j : Nat) (s : Rat), runO g 0 j = some s → QOk s from fun _ _ h => runF_ok (fun _ _ _ _ h => by rw [hg] at h; exact momF_ok h) h)
   have HMR := Lib.hid (fun W (hb : Below w.heap.size w W) => And.intro (hp.below hb) (hq.below hb))
   have HAT := Lib.hid (fun key W (hb : Below w.heap.size w W) => (rAt_any (cap := c2) (key := key) (hq.below hb) (by omega)))
   have HPP := Lib.hid (show ∀ k, k < N → 0 < qZ P k from fun k hk => (chk_ok hcp).2.2.2 k (by omega))
   have HOP := Lib.hid hop
   have HVQ := Lib.hid (fun key => vQ_ok hoq key)
   have HVN := Lib.hid (show ∀ (k : Nat) (x : MI), P[k]? = some x → 0 < vQ Q (kZ x) from fun k x hx => by
    have h1 : hasZ (kZ x) Q = true := by
     have h2 := hall
     unfold allZ at h2
     exact (List.all_eq_true.1 h2) x (List.mem_of_getElem? hx)
    obtain ⟨y, hy, _, e⟩ := val_mem h1
    obtain ⟨j, hj, rfl⟩ := List.mem_iff_getElem.1 hy
    have h3 := hpq j hj
    unfold qZ at h3
    rw [getZ_of (List.getElem?_eq_getElem hj)] at h3
    unfold vQ
    rw [e]
    exact h3)
   have HGS := Lib.hid (show ∀ k x s, P[k]? = some x → g k s = momF m s (qZ P k) (vQ Q (kZ x)) from fun k x s hx => by rw [hg]; show momF m _ _ (vQ Q (kZ (getZ P k))) = _; rw [getZ_of hx])
   clear hp hq hlp hlq h0 hcp hcq hop hoq hpq hlenP hall hT hco hg
   go_enter Tryz.func33, Tryz.ntmps33
   go_wp2_with fail
   refine HCB.out.mono ?_
   rintro e w1 ⟨rfl, hb⟩
   have HB := Lib.hid hb
   clear hb HCB
   go_wp2_with fail
   refine (HWI.out _ HB.out).mono ?_
   rintro e w2 ⟨rfl, hb⟩
   have HB2 := Lib.hid (HB.out.trans (hb.mono HB.out.size))
   clear hb HWI HB
   go_wp2_with fail
   go_loopw [10, 11] (fun sv iv wr => ∃ (k : Nat) (s : Rat), k ≤ N ∧ sv = .string (qstr s) ∧ iv = .int .i64 (k : Int) ∧ Hid (runO g 0 k = some s) ∧ Below w.heap.size w wr) (fun _ iv _ => N - (intOf iv).toNat)
   case atStart => exact ⟨0, 0, Nat.zero_le _, by rw [q0Z], rfl, Lib.hid rfl, HB2.out⟩
   case round =>
    obtain ⟨k, s, hk, rfl, rfl, HRUN, hb⟩ := hrel
    by_cases hlt : k < N
    ·obtain ⟨a, x, rfl, hx, _, c0, c1x⟩ := (HMR.out wr hb).1.at hlt
     have HLW0 := Lib.hid (show ∀ W, Below wr.heap.size wr W → W.cell? (a.add (k * 2)) = some (.string x.1) ∧ W.cell? ⟨(a.add (k * 2)).block, (a.add (k * 2)).off + 1, none⟩ = some (.string x.2) from fun W hw => by
      obtain ⟨ad', x', h1, h2, _, h3, h4⟩ := (HMR.out W (hb.trans (hw.mono hb.size))).1.at hlt
      obtain rfl := Option.some.inj h1
      rw [hx] at h2
      obtain rfl := Option.some.inj h2
      exact ⟨h3, h4⟩)
     obtain ⟨hx1, hx2⟩ := HOP.out.at hx
     obtain ⟨hv1, hv2⟩ := HVQ.out (kZ x)
     have hv0 := HVN.out k x hx
     have HA := Lib.hid (show ∀ W, Below wr.heap.size wr W → Calls Tryz.prog 37 #[.slice a2 M c2, .string x.1] W (fun e w' => e = .returned (.string (qstr (vQ Q (kZ x)))) ∧ Below W.heap.size W w') from fun W hw => by
      have h := HAT.out x.1 W (hb.trans (hw.mono hb.size))
      have e : valZ x.1.data.toList Q = qstr (vQ Q (kZ x)) := hv1
      rw [e] at h
      exact h.mono fun e w' ⟨h1, h2⟩ => ⟨h1, h2 ▸ Below.refl _ _⟩)
     have HD := Lib.hid (fun W => rpart_any (m := m) W hx2 hv2 (HPP.out k hlt) hv0 hm8)
     have HB1 := Lib.hid hb
     have HB0 := Lib.hid (Below.refl wr.heap.size wr)
     have H5 := Lib.hid (HT5.out k s hlt HRUN.out)
     have HST := Lib.hid (runO_step HRUN.out)
     have hds := HGS.out k x s hx
     rw [hds] at H5 HST
     have HS := Lib.hid (HRO.out k s HRUN.out)
     obtain ⟨x1, x2⟩ := x
     have hx1' : x2 = qstr (qZ P k) := hx1
     subst hx1'
     generalize vQ Q (kZ (x1, qstr (qZ P k))) = y at *
     generalize qZ P k = p at *
     have HLW := Lib.hid HLW0.out
     clear HLW0 hb hx hx1 hx2 hv1 hv2 hv0 hds HMR HAT HOP HVQ HVN HPP HT5 HT0 HRO HRUN HGS c0 c1x
     cases hf : qpO m p y with
     | none =>
      have HC := Lib.hid (H5.out (by unfold momF; rw [hf]; rfl))
      rw [hf] at HD
      have HDV := Lib.hid (show ∀ W, Calls Tryz.prog 77 #[.string (qstr p), .string (qstr y), .int .i64 ((m : Int) + 1)] W (fun e w' => e = .returned (.tuple #[.string ⟨#[]⟩, .int .i64 5]) ∧ Below W.heap.size W w') from fun W => HD.out W)
      clear H5 HST hf HS HD
      go_wp2_with fail
      refine wp_world HB0.out (fun wx hbx => ?_)
      have HBX2 := Lib.hid hbx
      clear hbx
      refine wp_region_held (S := fun W => Below wx.heap.size wx W) (by kernel_rfl) ?_
      change wpAnyH _ _ _ _ _ 19 _ _ wx.drew
      have hD0 := (Below.refl wx.heap.size wx).drew
      generalize wx.drew = W at *
      refine wpHz_take (i := 0) (d := 40) (v := .slice (some a) N c1) rfl rfl (by kernel_rfl) (by kernel_rfl) (by kernel_rfl) (fun _ _ _ h => h) rfl (fun W _ => by go_simp) hD0 ?_
      simp only [Act.put, sA, sB, sC]
      refine wpHz_take (i := 1) (d := 41) (v := .int .i64 (k : Int)) rfl rfl (by kernel_rfl) (by kernel_rfl) (by kernel_rfl) (fun _ _ _ h => h) rfl (fun W _ => by go_simp) hD0 ?_
      simp only [Act.put, sA, sB, sC]
      refine wpHz_take (i := 2) (d := 42) (v := .pointer (some (a.add (k * 2)))) rfl rfl (by kernel_rfl) (by kernel_rfl) (by kernel_rfl) (fun _ _ _ h => h) rfl (fun W _ => by go_simp) hD0 ?_
      simp only [Act.put, sA, sB, sC]
      refine wpHz_take (i := 3) (d := 43) (v := .pointer (some ⟨(a.add (k * 2)).block, (a.add (k * 2)).off + 1, none⟩)) rfl rfl (by kernel_rfl) (by kernel_rfl) (by kernel_rfl) (fun _ _ _ h => h) rfl (fun W _ => by go_simp) hD0 ?_
      simp only [Act.put, sA, sB, sC]
      refine wpHz_take (i := 4) (d := 44) (v := .string (qstr p)) rfl rfl (by kernel_rfl) (by kernel_rfl) (by kernel_rfl) (fun _ _ _ h => h) rfl (fun W hW => by have e0 := (HLW.out W (HBX2.out.trans (hW.mono HBX2.out.size))).2; go_simp) hD0 ?_
      simp only [Act.put, sA, sB, sC]
      refine wpHz_take (i := 5) (d := 45) (v := .slice a2 M c2) rfl rfl (by kernel_rfl) (by kernel_rfl) (by kernel_rfl) (fun _ _ _ h => h) rfl (fun W _ => by go_simp) hD0 ?_
      simp only [Act.put, sA, sB, sC]
      refine wpHz_take (i := 6) (d := 46) (v := .slice (some a) N c1) rfl rfl (by kernel_rfl) (by kernel_rfl) (by kernel_rfl) (fun _ _ _ h => h) rfl (fun W _ => by go_simp) hD0 ?_
      simp only [Act.put, sA, sB, sC]
      refine wpHz_take (i := 7) (d := 47) (v := .int .i64 (k : Int)) rfl rfl (by kernel_rfl) (by kernel_rfl) (by kernel_rfl) (fun _ _ _ h => h) rfl (fun W _ => by go_simp) hD0 ?_
      simp only [Act.put, sA, sB, sC]
      refine wpHz_take (i := 8) (d := 48) (v := .pointer (some (a.add (k * 2)))) rfl rfl (by kernel_rfl) (by kernel_rfl) (by kernel_rfl) (fun _ _ _ h => h) rfl (fun W _ => by go_simp) hD0 ?_
      simp only [Act.put, sA, sB, sC]
      refine wpHz_take (i := 9) (d := 49) (v := .pointer (some (a.add (k * 2)))) rfl rfl (by kernel_rfl) (by kernel_rfl) (by kernel_rfl) (fun _ _ _ h => h) rfl (fun W _ => by go_simp) hD0 ?_
      simp only [Act.put, sA, sB, sC]
      refine wpHz_take (i := 10) (d := 50) (v := .string x1) rfl rfl (by kernel_rfl) (by kernel_rfl) (by kernel_rfl) (fun _ _ _ h => h) rfl (fun W hW => by have e0 := (HLW.out W (HBX2.out.trans (hW.mono HBX2.out.size))).1; go_simp) hD0 ?_
      simp only [Act.put, sA, sB, sC]
      refine wpHz_take (i := 12) (d := 52) (v := .int .i64 ((m : Int) + 1)) rfl rfl (by kernel_rfl) (by kernel_rfl) (by kernel_rfl) (fun _ _ _ h => h) rfl (fun W _ => by go_simp) hD0 ?_
      simp only [Act.put, sA, sB, sC]
      refine wpHz_one (i := 11) (by kernel_rfl) ?_
      refine wpOz_run rfl rfl (wpz_enter (d := 51) rfl (by go_simp) ((HA.out _ (HBX2.out.trans (hD0.mono HBX2.out.size))).mono ?_))
      rintro e v1 ⟨rfl, hb⟩
      have hD1 : Below wx.heap.size wx v1 := hD0.trans (hb.mono hD0.size)
      clear hb
      refine ⟨_, rfl, hD1, ?_⟩
      simp only [Act.put, sA, sB, sC]
      refine wpHz_one (i := 13) (by kernel_rfl) ?_
      refine wpOz_run rfl rfl (wpz_enter (d := 53) rfl (by go_simp) ((HDV.out _).mono ?_))
      rintro e v2 ⟨rfl, hb⟩
      have hD2 : Below wx.heap.size wx v2 := hD1.trans (hb.mono hD1.size)
      clear hb
      refine ⟨_, rfl, hD2, ?_⟩
      simp only [Act.put, sA, sB, sC]
      refine wpHz_take (i := 14) (d := 39) (v := .tuple #[.string ⟨#[]⟩, .int .i64 5]) rfl rfl (by kernel_rfl) (by kernel_rfl) (by kernel_rfl) (fun _ _ _ h => h) rfl (fun W _ => by go_simp) hD2 ?_
      simp only [Act.put, sA, sB, sC]
      refine wpHz_take (i := 15) (d := 54) (v := .string ⟨#[]⟩) rfl rfl (by kernel_rfl) (by kernel_rfl) (by kernel_rfl) (fun _ _ _ h => h) rfl (fun W _ => by go_simp) hD2 ?_
      simp only [Act.put, sA, sB, sC]
      refine wpHz_take (i := 16) (d := 55) (v := .int .i64 5) rfl rfl (by kernel_rfl) (by kernel_rfl) (by kernel_rfl) (fun _ _ _ h => h) rfl (fun W _ => by go_simp) hD2 ?_
      simp only [Act.put, sA, sB, sC]
      refine wpHz_take (i := 17) (d := 12) (v := .string ⟨#[]⟩) rfl rfl (by kernel_rfl) (by kernel_rfl) (by kernel_rfl) (fun _ _ _ h => h) rfl (fun W _ => by go_simp) hD2 ?_
      simp only [Act.put, sA, sB, sC]
      refine wpHz_take (i := 18) (d := 13) (v := .int .i64 5) rfl rfl (by kernel_rfl) (by kernel_rfl) (by kernel_rfl) (fun _ _ _ h => h) rfl (fun W _ => by go_simp) hD2 ?_
      simp only [Act.put, sA, sB, sC]
      refine wpAnyH_done (by kernel_rfl) ?_ _
      have HB3 := Lib.hid (HB1.out.trans ((HBX2.out.trans (hD2.mono HBX2.out.size)).mono HB1.out.size))
      clear hD0 hD1 hD2 HBX2 HA HLW HDV HB0
      go_wp2_with fail
      go_ret3
      exact ⟨by rw [HC.out]; rfl, HB3.out⟩
     | some d =>
      have hdo := qpO_ok hf
      have HAD := Lib.hid (fun W => rAdd_oQ s d HS.out hdo W)
      have hmo : momF m s p y = okQ (s + d) := by unfold momF; rw [hf]; rfl
      rw [hmo] at HST H5
      rw [hf] at HD
      have HDV := Lib.hid (show ∀ W, Calls Tryz.prog 77 #[.string (qstr p), .string (qstr y), .int .i64 ((m : Int) + 1)] W (fun e w' => e = .returned (.tuple #[.string (qstr d), .int .i64 0]) ∧ Below W.heap.size W w') from fun W => HD.out W)
      clear hf HS HD hdo hmo
      cases hz : okQ (s + d) with
      | none =>
       have HC := Lib.hid (H5.out hz)
       rw [hz] at HAD
       clear H5 HST hz
       go_wp2_with fail
       refine wp_world HB0.out (fun wx hbx => ?_)
       have HBX2 := Lib.hid hbx
       clear hbx
       refine wp_region_held (S := fun W => Below wx.heap.size wx W) (by kernel_rfl) ?_
       change wpAnyH _ _ _ _ _ 19 _ _ wx.drew
       have hD0 := (Below.refl wx.heap.size wx).drew
       generalize wx.drew = W at *
       refine wpHz_take (i := 0) (d := 40) (v := .slice (some a) N c1) rfl rfl (by kernel_rfl) (by kernel_rfl) (by kernel_rfl) (fun _ _ _ h => h) rfl (fun W _ => by go_simp) hD0 ?_
       simp only [Act.put, sA, sB, sC]
       refine wpHz_take (i := 1) (d := 41) (v := .int .i64 (k : Int)) rfl rfl (by kernel_rfl) (by kernel_rfl) (by kernel_rfl) (fun _ _ _ h => h) rfl (fun W _ => by go_simp) hD0 ?_
       simp only [Act.put, sA, sB, sC]
       refine wpHz_take (i := 2) (d := 42) (v := .pointer (some (a.add (k * 2)))) rfl rfl (by kernel_rfl) (by kernel_rfl) (by kernel_rfl) (fun _ _ _ h => h) rfl (fun W _ => by go_simp) hD0 ?_
       simp only [Act.put, sA, sB, sC]
       refine wpHz_take (i := 3) (d := 43) (v := .pointer (some ⟨(a.add (k * 2)).block, (a.add (k * 2)).off + 1, none⟩)) rfl rfl (by kernel_rfl) (by kernel_rfl) (by kernel_rfl) (fun _ _ _ h => h) rfl (fun W _ => by go_simp) hD0 ?_
       simp only [Act.put, sA, sB, sC]
       refine wpHz_take (i := 4) (d := 44) (v := .string (qstr p)) rfl rfl (by kernel_rfl) (by kernel_rfl) (by kernel_rfl) (fun _ _ _ h => h) rfl (fun W hW => by have e0 := (HLW.out W (HBX2.out.trans (hW.mono HBX2.out.size))).2; go_simp) hD0 ?_
       simp only [Act.put, sA, sB, sC]
       refine wpHz_take (i := 5) (d := 45) (v := .slice a2 M c2) rfl rfl (by kernel_rfl) (by kernel_rfl) (by kernel_rfl) (fun _ _ _ h => h) rfl (fun W _ => by go_simp) hD0 ?_
       simp only [Act.put, sA, sB, sC]
       refine wpHz_take (i := 6) (d := 46) (v := .slice (some a) N c1) rfl rfl (by kernel_rfl) (by kernel_rfl) (by kernel_rfl) (fun _ _ _ h => h) rfl (fun W _ => by go_simp) hD0 ?_
       simp only [Act.put, sA, sB, sC]
       refine wpHz_take (i := 7) (d := 47) (v := .int .i64 (k : Int)) rfl rfl (by kernel_rfl) (by kernel_rfl) (by kernel_rfl) (fun _ _ _ h => h) rfl (fun W _ => by go_simp) hD0 ?_
       simp only [Act.put, sA, sB, sC]
       refine wpHz_take (i := 8) (d := 48) (v := .pointer (some (a.add (k * 2)))) rfl rfl (by kernel_rfl) (by kernel_rfl) (by kernel_rfl) (fun _ _ _ h => h) rfl (fun W _ => by go_simp) hD0 ?_
       simp only [Act.put, sA, sB, sC]
       refine wpHz_take (i := 9) (d := 49) (v := .pointer (some (a.add (k * 2)))) rfl rfl (by kernel_rfl) (by kernel_rfl) (by kernel_rfl) (fun _ _ _ h => h) rfl (fun W _ => by go_simp) hD0 ?_
       simp only [Act.put, sA, sB, sC]
       refine wpHz_take (i := 10) (d := 50) (v := .string x1) rfl rfl (by kernel_rfl) (by kernel_rfl) (by kernel_rfl) (fun _ _ _ h => h) rfl (fun W hW => by have e0 := (HLW.out W (HBX2.out.trans (hW.mono HBX2.out.size))).1; go_simp) hD0 ?_
       simp only [Act.put, sA, sB, sC]
       refine wpHz_take (i := 12) (d := 52) (v := .int .i64 ((m : Int) + 1)) rfl rfl (by kernel_rfl) (by kernel_rfl) (by kernel_rfl) (fun _ _ _ h => h) rfl (fun W _ => by go_simp) hD0 ?_
       simp only [Act.put, sA, sB, sC]
       refine wpHz_one (i := 11) (by kernel_rfl) ?_
       refine wpOz_run rfl rfl (wpz_enter (d := 51) rfl (by go_simp) ((HA.out _ (HBX2.out.trans (hD0.mono HBX2.out.size))).mono ?_))
       rintro e v1 ⟨rfl, hb⟩
       have hD1 : Below wx.heap.size wx v1 := hD0.trans (hb.mono hD0.size)
       clear hb
       refine ⟨_, rfl, hD1, ?_⟩
       simp only [Act.put, sA, sB, sC]
       refine wpHz_one (i := 13) (by kernel_rfl) ?_
       refine wpOz_run rfl rfl (wpz_enter (d := 53) rfl (by go_simp) ((HDV.out _).mono ?_))
       rintro e v2 ⟨rfl, hb⟩
       have hD2 : Below wx.heap.size wx v2 := hD1.trans (hb.mono hD1.size)
       clear hb
       refine ⟨_, rfl, hD2, ?_⟩
       simp only [Act.put, sA, sB, sC]
       refine wpHz_take (i := 14) (d := 39) (v := .tuple #[.string (qstr d), .int .i64 0]) rfl rfl (by kernel_rfl) (by kernel_rfl) (by kernel_rfl) (fun _ _ _ h => h) rfl (fun W _ => by go_simp) hD2 ?_
       simp only [Act.put, sA, sB, sC]
       refine wpHz_take (i := 15) (d := 54) (v := .string (qstr d)) rfl rfl (by kernel_rfl) (by kernel_rfl) (by kernel_rfl) (fun _ _ _ h => h) rfl (fun W _ => by go_simp) hD2 ?_
       simp only [Act.put, sA, sB, sC]
       refine wpHz_take (i := 16) (d := 55) (v := .int .i64 0) rfl rfl (by kernel_rfl) (by kernel_rfl) (by kernel_rfl) (fun _ _ _ h => h) rfl (fun W _ => by go_simp) hD2 ?_
       simp only [Act.put, sA, sB, sC]
       refine wpHz_take (i := 17) (d := 12) (v := .string (qstr d)) rfl rfl (by kernel_rfl) (by kernel_rfl) (by kernel_rfl) (fun _ _ _ h => h) rfl (fun W _ => by go_simp) hD2 ?_
       simp only [Act.put, sA, sB, sC]
       refine wpHz_take (i := 18) (d := 13) (v := .int .i64 0) rfl rfl (by kernel_rfl) (by kernel_rfl) (by kernel_rfl) (fun _ _ _ h => h) rfl (fun W _ => by go_simp) hD2 ?_
       simp only [Act.put, sA, sB, sC]
       refine wpAnyH_done (by kernel_rfl) ?_ _
       have HB3 := Lib.hid (HB1.out.trans ((HBX2.out.trans (hD2.mono HBX2.out.size)).mono HB1.out.size))
       clear hD0 hD1 hD2 HBX2 HA HLW HDV HB0
       go_wp2_with fail
       refine (HAD.out _).mono ?_
       rintro e w5 ⟨rfl, hb1⟩
       have HB6 := Lib.hid (HB3.out.trans (hb1.mono HB3.out.size))
       clear hb1 HAD HB3
       go_wp2_with fail
       go_ret3
       exact ⟨by rw [HC.out]; rfl, HB6.out⟩
      | some z =>
       have HST2 := Lib.hid (HST.out.trans hz)
       rw [hz] at HAD
       clear H5 HST hz
       go_wp2_with fail
       refine wp_world HB0.out (fun wx hbx => ?_)
       have HBX2 := Lib.hid hbx
       clear hbx
       refine wp_region_held (S := fun W => Below wx.heap.size wx W) (by kernel_rfl) ?_
       change wpAnyH _ _ _ _ _ 19 _ _ wx.drew
       have hD0 := (Below.refl wx.heap.size wx).drew
       generalize wx.drew = W at *
       refine wpHz_take (i := 0) (d := 40) (v := .slice (some a) N c1) rfl rfl (by kernel_rfl) (by kernel_rfl) (by kernel_rfl) (fun _ _ _ h => h) rfl (fun W _ => by go_simp) hD0 ?_
       simp only [Act.put, sA, sB, sC]
       refine wpHz_take (i := 1) (d := 41) (v := .int .i64 (k : Int)) rfl rfl (by kernel_rfl) (by kernel_rfl) (by kernel_rfl) (fun _ _ _ h => h) rfl (fun W _ => by go_simp) hD0 ?_
       simp only [Act.put, sA, sB, sC]
       refine wpHz_take (i := 2) (d := 42) (v := .pointer (some (a.add (k * 2)))) rfl rfl (by kernel_rfl) (by kernel_rfl) (by kernel_rfl) (fun _ _ _ h => h) rfl (fun W _ => by go_simp) hD0 ?_
       simp only [Act.put, sA, sB, sC]
       refine wpHz_take (i := 3) (d := 43) (v := .pointer (some ⟨(a.add (k * 2)).block, (a.add (k * 2)).off + 1, none⟩)) rfl rfl (by kernel_rfl) (by kernel_rfl) (by kernel_rfl) (fun _ _ _ h => h) rfl (fun W _ => by go_simp) hD0 ?_
       simp only [Act.put, sA, sB, sC]
       refine wpHz_take (i := 4) (d := 44) (v := .string (qstr p)) rfl rfl (by kernel_rfl) (by kernel_rfl) (by kernel_rfl) (fun _ _ _ h => h) rfl (fun W hW => by have e0 := (HLW.out W (HBX2.out.trans (hW.mono HBX2.out.size))).2; go_simp) hD0 ?_
       simp only [Act.put, sA, sB, sC]
       refine wpHz_take (i := 5) (d := 45) (v := .slice a2 M c2) rfl rfl (by kernel_rfl) (by kernel_rfl) (by kernel_rfl) (fun _ _ _ h => h) rfl (fun W _ => by go_simp) hD0 ?_
       simp only [Act.put, sA, sB, sC]
       refine wpHz_take (i := 6) (d := 46) (v := .slice (some a) N c1) rfl rfl (by kernel_rfl) (by kernel_rfl) (by kernel_rfl) (fun _ _ _ h => h) rfl (fun W _ => by go_simp) hD0 ?_
       simp only [Act.put, sA, sB, sC]
       refine wpHz_take (i := 7) (d := 47) (v := .int .i64 (k : Int)) rfl rfl (by kernel_rfl) (by kernel_rfl) (by kernel_rfl) (fun _ _ _ h => h) rfl (fun W _ => by go_simp) hD0 ?_
       simp only [Act.put, sA, sB, sC]
       refine wpHz_take (i := 8) (d := 48) (v := .pointer (some (a.add (k * 2)))) rfl rfl (by kernel_rfl) (by kernel_rfl) (by kernel_rfl) (fun _ _ _ h => h) rfl (fun W _ => by go_simp) hD0 ?_
       simp only [Act.put, sA, sB, sC]
       refine wpHz_take (i := 9) (d := 49) (v := .pointer (some (a.add (k * 2)))) rfl rfl (by kernel_rfl) (by kernel_rfl) (by kernel_rfl) (fun _ _ _ h => h) rfl (fun W _ => by go_simp) hD0 ?_
       simp only [Act.put, sA, sB, sC]
       refine wpHz_take (i := 10) (d := 50) (v := .string x1) rfl rfl (by kernel_rfl) (by kernel_rfl) (by kernel_rfl) (fun _ _ _ h => h) rfl (fun W hW => by have e0 := (HLW.out W (HBX2.out.trans (hW.mono HBX2.out.size))).1; go_simp) hD0 ?_
       simp only [Act.put, sA, sB, sC]
       refine wpHz_take (i := 12) (d := 52) (v := .int .i64 ((m : Int) + 1)) rfl rfl (by kernel_rfl) (by kernel_rfl) (by kernel_rfl) (fun _ _ _ h => h) rfl (fun W _ => by go_simp) hD0 ?_
       simp only [Act.put, sA, sB, sC]
       refine wpHz_one (i := 11) (by kernel_rfl) ?_
       refine wpOz_run rfl rfl (wpz_enter (d := 51) rfl (by go_simp) ((HA.out _ (HBX2.out.trans (hD0.mono HBX2.out.size))).mono ?_))
       rintro e v1 ⟨rfl, hb⟩
       have hD1 : Below wx.heap.size wx v1 := hD0.trans (hb.mono hD0.size)
       clear hb
       refine ⟨_, rfl, hD1, ?_⟩
       simp only [Act.put, sA, sB, sC]
       refine wpHz_one (i := 13) (by kernel_rfl) ?_
       refine wpOz_run rfl rfl (wpz_enter (d := 53) rfl (by go_simp) ((HDV.out _).mono ?_))
       rintro e v2 ⟨rfl, hb⟩
       have hD2 : Below wx.heap.size wx v2 := hD1.trans (hb.mono hD1.size)
       clear hb
       refine ⟨_, rfl, hD2, ?_⟩
       simp only [Act.put, sA, sB, sC]
       refine wpHz_take (i := 14) (d := 39) (v := .tuple #[.string (qstr d), .int .i64 0]) rfl rfl (by kernel_rfl) (by kernel_rfl) (by kernel_rfl) (fun _ _ _ h => h) rfl (fun W _ => by go_simp) hD2 ?_
       simp only [Act.put, sA, sB, sC]
       refine wpHz_take (i := 15) (d := 54) (v := .string (qstr d)) rfl rfl (by kernel_rfl) (by kernel_rfl) (by kernel_rfl) (fun _ _ _ h => h) rfl (fun W _ => by go_simp) hD2 ?_
       simp only [Act.put, sA, sB, sC]
       refine wpHz_take (i := 16) (d := 55) (v := .int .i64 0) rfl rfl (by kernel_rfl) (by kernel_rfl) (by kernel_rfl) (fun _ _ _ h => h) rfl (fun W _ => by go_simp) hD2 ?_
       simp only [Act.put, sA, sB, sC]
       refine wpHz_take (i := 17) (d := 12) (v := .string (qstr d)) rfl rfl (by kernel_rfl) (by kernel_rfl) (by kernel_rfl) (fun _ _ _ h => h) rfl (fun W _ => by go_simp) hD2 ?_
       simp only [Act.put, sA, sB, sC]
       refine wpHz_take (i := 18) (d := 13) (v := .int .i64 0) rfl rfl (by kernel_rfl) (by kernel_rfl) (by kernel_rfl) (fun _ _ _ h => h) rfl (fun W _ => by go_simp) hD2 ?_
       simp only [Act.put, sA, sB, sC]
       refine wpAnyH_done (by kernel_rfl) ?_ _
       have HB3 := Lib.hid (HB1.out.trans ((HBX2.out.trans (hD2.mono HBX2.out.size)).mono HB1.out.size))
       clear hD0 hD1 hD2 HBX2 HA HLW HDV HB0
       go_wp2_with fail
       refine (HAD.out _).mono ?_
       rintro e w5 ⟨rfl, hb1⟩
       have HB6 := Lib.hid (HB3.out.trans (hb1.mono HB3.out.size))
       clear hb1 HAD HB3
       go_wp2_with fail
       go_roundw
       case rel => exact ⟨k + 1, z, by omega, rfl, by go_num, HST2, HB6.out⟩
       case measure => simp [intOf]; omega
    ·obtain rfl : k = N := by omega
     have HC := Lib.hid (HT0.out s HRUN.out)
     have HB1 := Lib.hid hb
     clear hb HMR HAT HOP HVQ HVN HPP HT5 HT0 HRO HRUN HGS
     go_wp2_with fail
     go_ret3
     exact ⟨by rw [HC.out]; rfl, HB1.out⟩
 ·rw [if_pos h0] at hT
  have hz := errneZ h0
  generalize bE P Q = c at *
  clear hp hq hlp hlq hlenP h0 HWI
  subst hT
  go_enter Tryz.func33, Tryz.ntmps33
  go_wp2_with fail
  refine HCB.out.mono ?_
  rintro e w1 ⟨rfl, hb⟩
  have HB := Lib.hid hb
  clear hb HCB
  go_wp2_with fail
  go_ret3
  exact ⟨rfl, HB.out⟩
end

section
open Go.RowKit NV Go.Maps Go.Sort Go.Shelf
open Go.Lib (decDigits)
theorem mxQ_le {a b c : Rat} (h1 : a ≤ c) (h2 : b ≤ c) : mxQ a b ≤ c := by unfold mxQ; grind
theorem mxQ_ge1 {a b : Rat} : a ≤ mxQ a b := by unfold mxQ; grind
theorem mxQ_ge2 {a b : Rat} : b ≤ mxQ a b := by unfold mxQ; grind
theorem mxQ_sz {a b : Rat} {k : Nat} (h1 : Sz k a) (h2 : Sz k b) : Sz k (mxQ a b) := by
 unfold mxQ
 split
 ·exact h1
 ·exact h2
end

end Go.Proofs.YtjpepjooefkbkaaGreatDoor
