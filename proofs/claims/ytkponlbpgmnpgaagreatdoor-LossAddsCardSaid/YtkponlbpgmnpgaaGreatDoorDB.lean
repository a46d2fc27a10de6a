/-
  The reference of layer 8: both, Delta, Distance, within, Factor, part, Moment; light of two lists; DistMeasures is walked. The laws of layer 9: made of two lists, least, holds; the reference's Max. The reference of layer 8: scaled, Mix.
-/
import Derived.Test.YtkponlbpgmnpgaaGreatDoorZE
import Derived.Test.YtkponlbpgmnpgaaGreatDoorHF
import Derived.Test.YtkponlbpgmnpgaaGreatDoorGM
import Derived.WalkSmall
import Derived.Test.YtkponlbpgmnpgaaGreatDoorDA
import Derived.Test.YtkponlbpgmnpgaaGreatDoorZF
namespace Go.Proofs.YtkponlbpgmnpgaaGreatDoor
section
open Go.RowKit NV Go.Maps Go.Sort Go.Shelf
open Go.Lib (decDigits)
set_option maxHeartbeats 1600000 in
set_option maxRecDepth 100000 in
theorem rboth_any {P Q : List MI} {N M c1 c2 : Nat} {a1 a2 : Option Addr} {w : World} (hp : MR w a1 N P) (hq : MR w a2 M Q) (hN : N ≤ 1000) (hM : M ≤ 1000) (hlp : ML2 P) (hlq : ML2 Q) :
  Calls Tryz.prog 114 #[.slice a1 N c1, .slice a2 M c2] w fun e w' => e = .returned (.int .i64 ((bE P Q : Nat) : Int)) ∧ Below w.heap.size w w' := by
 have HP := Lib.hid (rCheck_any (cap := c1) hp (by omega) hlp)
 have HQ := Lib.hid (fun W (hb : Below w.heap.size w W) => rCheck_any (cap := c2) (hq.below hb) (by omega) hlq)
 obtain ⟨c, hc⟩ : ∃ c, c = bE P Q := ⟨_, rfl⟩
 rw [← hc]
 unfold bE at hc
 clear hp hq hlp hlq
 by_cases h0 : chkZ P = 0
 ·rw [if_neg (by omega)] at hc
  rw [← hc] at HQ
  rw [h0] at HP
  clear hc h0
  go_enter Tryz.func114, Tryz.ntmps114
  go_wp2_with fail
  refine HP.out.mono ?_
  rintro e w1 ⟨rfl, hb⟩
  have HB := Lib.hid hb
  clear hb HP
  go_wp2_with fail
  refine (HQ.out _ HB.out).mono ?_
  rintro e w2 ⟨rfl, hb⟩
  have HB2 := Lib.hid (HB.out.trans (hb.mono HB.out.size))
  clear hb HQ HB
  go_wp2_with fail
  go_ret
  exact ⟨rfl, HB2.out⟩
 ·rw [if_pos h0] at hc
  have hz := errneZ h0
  rw [← hc] at HP hz
  clear hc h0
  go_enter Tryz.func114, Tryz.ntmps114
  go_wp2_with fail
  refine HP.out.mono ?_
  rintro e w1 ⟨rfl, hb⟩
  have HB := Lib.hid hb
  clear hb HP
  go_wp2_with fail
  go_ret
  exact ⟨rfl, HB.out⟩
theorem rMul_oQ (p q : Rat) (hp : QOk p) (hq : QOk q) (w : World) :
  Calls Tryz.prog 77 #[.string (qstr p), .string (qstr q)] w (PR (oQ (okQ (p * q))) w) := by
 have h := rMul_q w hp hq
 unfold RQ at h
 rw [wQ_oQ] at h
 exact h
theorem rSub_oQ (p q : Rat) (hp : QOk p) (hq : QOk q) (w : World) :
  Calls Tryz.prog 68 #[.string (qstr p), .string (qstr q)] w (PR (oQ (okQ (p + -q))) w) := by
 have h := rSub_q w hp hq
 unfold RQ at h
 rw [wQ_oQ] at h
 exact h
theorem sgn_pos {q : Rat} : 0 < sgnQ q ↔ 0 < q := by
 have h : cmpQ q 0 ≤ 0 ↔ q ≤ 0 := cmpQ_le
 rw [← Rat.not_le, ← h]
 unfold sgnQ
 omega
theorem okQ_at {q r : Rat} (h : okQ q = some r) : r = q ∧ QOk r := by
 obtain ⟨e, ho⟩ := okQ_some h
 exact ⟨e.symm, e ▸ ho⟩
set_option maxHeartbeats 6400000 in
set_option maxRecDepth 100000 in
theorem rDelta_any {P Q : List MI} {N M c1 c2 : Nat} {a1 a2 : Option Addr} {sf : ByteArray} {w : World} (hp : MR w a1 N P) (hq : MR w a2 M Q) (hN : N ≤ 1000) (hM : M ≤ 1000) (hlp : ML2 P) (hlq : ML2 Q) (hsf : sf.size ≤ 1000000) :
  Calls Tryz.prog 111 #[.slice a1 N c1, .slice a2 M c2, .string sf] w (PR (dltE P Q sf) w) := by
 have HCB := Lib.hid (rboth_any (c1 := c1) (c2 := c2) hp hq hN hM hlp hlq)
 have HSG := Lib.hid (fun W => rSign_any sf (Nat.le_trans hsf (by omega)) W)
 unfold PR
 obtain ⟨T, hT⟩ : ∃ T, T = dltE P Q sf := ⟨_, rfl⟩
 rw [← hT]
 unfold dltE at hT
 have hlenP := hp.len
 by_cases h0 : bE P Q = 0
 ·rw [if_neg (by omega)] at hT
  rw [h0] at HCB
  by_cases h1 : eS sf = 0
  ·rw [if_neg (by omega)] at hT
   obtain ⟨hsf1, hsf2, hsf3⟩ := eS_zero h1
   obtain ⟨hcp, hcq⟩ := bE_zero h0
   obtain ⟨hop, _, _, _⟩ := chk_ok hcp
   obtain ⟨hoq, _, _, _⟩ := chk_ok hcq
   have hck : rchk sf = 0 := by rw [hsf1]; exact qstr_chk hsf2
   have hse : sE sf = sgnQ (ratS sf) := by unfold sE; rw [if_pos hck]
   have hnn : ¬ sgnQ (ratS sf) < 0 := fun h => by
    unfold eS at h1
    rw [if_neg (by omega), if_pos h] at h1
    omega
   rw [hck, hse] at HSG
   obtain ⟨F, hF⟩ : ∃ F, F = ratS sf := ⟨_, rfl⟩
   rw [← hF] at hT hsf1 hsf2 hnn HSG
   have HNN := Lib.hid (show decide (sgnQ F < 0) = false from decide_eq_false hnn)
   have HT5 := Lib.hid (show ∀ j s, j < N → runO (dltF P Q F) 0 j = some s → dltF P Q F j s = none → T = (⟨#[]⟩, 5) from fun j s hj hr hn => by
    rw [hT]
    unfold dltO
    rw [runO_fail hr hn (show j < P.length by omega)]
    rfl)
   have HT0 := Lib.hid (show ∀ s, runO (dltF P Q F) 0 N = some s → T = (qstr s, 0) from fun s h => by
    rw [hT]
    unfold dltO
    rw [hlenP, h]
    rfl)
   have HRO := Lib.hid (show ∀ (j : Nat) (s : Rat), runO (dltF P Q F) 0 j = some s → QOk s from fun _ _ h => runF_ok (fun _ _ _ _ h => dltF_ok h) h)
   have HMU := Lib.hid (fun W q hq => rMul_oQ F q hsf2 hq W)
   rw [← hsf1] at HMU
   have HMR := Lib.hid (fun W (hb : Below w.heap.size w W) => And.intro (hp.below hb) (hq.below hb))
   have HAT := Lib.hid (fun key W (hb : Below w.heap.size w W) => (rAt_any (cap := c2) (key := key) (hq.below hb) (by omega)))
   have HOP := Lib.hid hop
   have HVQ := Lib.hid (fun key => vQ_ok hoq key)
   clear hp hq hlp hlq hsf hT hsf1 hsf2 hsf3 hop hoq hcp hcq h0 h1 hck hse hnn hF hlenP
   generalize sgnQ F = sgf at *
   go_enter Tryz.func111, Tryz.ntmps111
   go_wp2_with fail
   refine HCB.out.mono ?_
   rintro e w1 ⟨rfl, hb⟩
   have HB := Lib.hid hb
   clear hb HCB
   go_wp2_with fail
   refine (HSG.out _).mono ?_
   rintro e w2 ⟨rfl, hb⟩
   have HB2 := Lib.hid (HB.out.trans (hb.mono HB.out.size))
   have hnn := HNN.out
   clear hb HSG HB HNN
   go_wp2_with fail
   go_loopw [11, 12] (fun sv iv wr => ∃ (k : Nat) (s : Rat), k ≤ N ∧ sv = .string (qstr s) ∧ iv = .int .i64 (k : Int) ∧ Hid (runO (dltF P Q F) 0 k = some s) ∧ Below w.heap.size w wr) (fun _ iv _ => N - (intOf iv).toNat)
   case atStart => exact ⟨0, 0, Nat.zero_le _, by rw [q0Z], rfl, Lib.hid rfl, HB2.out⟩
   case round =>
    obtain ⟨k, s, hk, rfl, rfl, HRUN, hb⟩ := hrel
    clear hnn
    by_cases hlt : k < N
    ·obtain ⟨a, x, rfl, hx, _, c0, c1x⟩ := (HMR.out wr hb).1.at hlt
     obtain ⟨a', ha', hal, hcell⟩ := (HMR.out wr hb).1.form (by omega)
     obtain rfl : a = a' := Option.some.inj ha'
     have HCX := Lib.hid (show ∀ W, Below wr.heap.size wr W → W.cell? ⟨(a.add (k * 2)).block, (a.add (k * 2)).off + 1, none⟩ = some (.string x.2) from fun W hw => by
      have h1 := (hw.cell (p := ⟨(a.add (k * 2)).block, (a.add (k * 2)).off + 1, none⟩) (by show (a.add (k * 2)).block < _; rw [addZ_block]; exact hal)).trans c1x
      exact h1)
     obtain ⟨hx1, hx2⟩ := HOP.out.at hx
     obtain ⟨hv1, hv2⟩ := HVQ.out (kZ x)
     have HA := Lib.hid (HAT.out x.1 wr hb)
     have hv1' : valZ x.1.data.toList Q = qstr (vQ Q (kZ x)) := hv1
     rw [hv1'] at HA
     have HM := Lib.hid (HMU.out wr _ hv2)
     have HB1 := Lib.hid hb
     have H5 := Lib.hid (HT5.out k s hlt HRUN.out)
     have HST := Lib.hid (runO_step HRUN.out)
     have hds : dltF P Q F k s = (exO (qZ P k) (vQ Q (kZ x)) F).bind fun d => okQ (s + d) := by unfold dltF; rw [getZ_of hx]
     rw [hds] at H5 HST
     have HS := Lib.hid (HRO.out _ _ HRUN.out)
     have HX := Lib.hid (And.intro hx1 hx2)
     obtain ⟨x1, x2⟩ := x
     have hx1' : x2 = qstr (qZ P k) := hx1
     subst hx1'
     generalize vQ Q (kZ (x1, qstr (qZ P k))) = y at *
     generalize qZ P k = p at *
     clear hb hx hx1 hx2 hv1 hv2 hv1' hds HMR HAT HOP HVQ HT5 HT0 HRO HMU ha' hcell hal
     cases hf : okQ (F * y) with
     | none =>
      have HC := Lib.hid (H5.out (by unfold exO; rw [hf]; rfl))
      rw [hf] at HM
      clear H5 HST hf HX HS HRUN HCX
      go_wp2_with fail
      refine HA.out.mono ?_
      rintro e w1 ⟨rfl, rfl⟩
      clear HA
      go_wp2_with fail
      refine HM.out.mono ?_
      rintro e w1 ⟨rfl, hb1⟩
      have HB3 := Lib.hid (HB1.out.trans (hb1.mono HB1.out.size))
      clear hb1 HM HB1
      go_wp2_with fail
      go_ret2
      exact ⟨by rw [HC.out]; rfl, HB3.out⟩
     | some t =>
      obtain ⟨ht, hto⟩ := okQ_at hf
      have HSB := Lib.hid (fun W => rSub_oQ p t HX.out.2 hto W)
      rw [hf] at HM
      cases hu : okQ (p + -t) with
      | none =>
       have HC := Lib.hid (H5.out (by unfold exO; rw [hf]; show ((okQ (p + -t)).map mx0).bind _ = none; rw [hu]; rfl))
       rw [hu] at HSB
       clear H5 HST hf hu ht hto HX HS HRUN
       go_wp2_with fail
       refine HA.out.mono ?_
       rintro e w1 ⟨rfl, rfl⟩
       clear HA
       go_wp2_with fail
       refine HM.out.mono ?_
       rintro e w1 ⟨rfl, hb1⟩
       have HB3 := Lib.hid (HB1.out.trans (hb1.mono HB1.out.size))
       have cx := HCX.out w1 hb1
       clear hb1 HM HB1 HCX
       go_wp2_with fail
       refine (HSB.out _).mono ?_
       rintro e w3 ⟨rfl, hb1⟩
       have HB4 := Lib.hid (HB3.out.trans (hb1.mono HB3.out.size))
       clear hb1 HSB HB3
       go_wp2_with fail
       go_ret2
       exact ⟨by rw [HC.out]; rfl, HB4.out⟩
      | some u =>
       obtain ⟨hu1, huo⟩ := okQ_at hu
       have hex : exO p y F = some (mx0 u) := by unfold exO; rw [hf]; show (okQ (p + -t)).map mx0 = _; rw [hu]; rfl
       rw [hex] at H5 HST
       have HSI := Lib.hid (fun W => rSign_q (p := u) W huo)
       rw [hu] at HSB
       by_cases hpos : 0 < u
       ·have hmx : mx0 u = u := by unfold mx0; rw [if_pos hpos]
        have hsg : decide (0 < sgnQ u) = true := decide_eq_true (sgn_pos.2 hpos)
        rw [hmx] at H5 HST
        have HAD := Lib.hid (fun W => rAdd_oQ s u HS.out huo W)
        have HSGN := Lib.hid hsg
        clear hex hf hu ht hto hu1 huo hpos hmx hsg HX HS HRUN
        generalize sgnQ u = sg at *
        cases hz : okQ (s + u) with
        | none =>
         have HC := Lib.hid (H5.out hz)
         rw [hz] at HAD
         clear H5 HST hz
         go_wp2_with fail
         refine HA.out.mono ?_
         rintro e w1 ⟨rfl, rfl⟩
         clear HA
         go_wp2_with fail
         refine HM.out.mono ?_
         rintro e w1 ⟨rfl, hb1⟩
         have HB3 := Lib.hid (HB1.out.trans (hb1.mono HB1.out.size))
         have cx := HCX.out w1 hb1
         clear hb1 HM HB1 HCX
         go_wp2_with fail
         refine (HSB.out _).mono ?_
         rintro e w3 ⟨rfl, hb1⟩
         have HB4 := Lib.hid (HB3.out.trans (hb1.mono HB3.out.size))
         clear hb1 HSB HB3 cx
         go_wp2_with fail
         refine (HSI.out _).mono ?_
         rintro e w4 ⟨rfl, hb1⟩
         have HB5 := Lib.hid (HB4.out.trans (hb1.mono HB4.out.size))
         have hsg := HSGN.out
         clear hb1 HSI HB4 HSGN
         go_wp2_with fail
         refine (HAD.out _).mono ?_
         rintro e w5 ⟨rfl, hb1⟩
         have HB6 := Lib.hid (HB5.out.trans (hb1.mono HB5.out.size))
         clear hb1 HAD HB5 hsg
         go_wp2_with fail
         go_ret2
         exact ⟨by rw [HC.out]; rfl, HB6.out⟩
        | some z =>
         have HST2 := Lib.hid (HST.out.trans hz)
         rw [hz] at HAD
         clear H5 HST hz
         go_wp2_with fail
         refine HA.out.mono ?_
         rintro e w1 ⟨rfl, rfl⟩
         clear HA
         go_wp2_with fail
         refine HM.out.mono ?_
         rintro e w1 ⟨rfl, hb1⟩
         have HB3 := Lib.hid (HB1.out.trans (hb1.mono HB1.out.size))
         have cx := HCX.out w1 hb1
         clear hb1 HM HB1 HCX
         go_wp2_with fail
         refine (HSB.out _).mono ?_
         rintro e w3 ⟨rfl, hb1⟩
         have HB4 := Lib.hid (HB3.out.trans (hb1.mono HB3.out.size))
         clear hb1 HSB HB3 cx
         go_wp2_with fail
         refine (HSI.out _).mono ?_
         rintro e w4 ⟨rfl, hb1⟩
         have HB5 := Lib.hid (HB4.out.trans (hb1.mono HB4.out.size))
         have hsg := HSGN.out
         clear hb1 HSI HB4 HSGN
         go_wp2_with fail
         refine (HAD.out _).mono ?_
         rintro e w5 ⟨rfl, hb1⟩
         have HB6 := Lib.hid (HB5.out.trans (hb1.mono HB5.out.size))
         clear hb1 HAD HB5 hsg
         go_wp2_with fail
         go_roundw
         case rel => exact ⟨k + 1, z, by omega, rfl, by go_num, HST2, HB6.out⟩
         case measure => simp [intOf]; omega
       ·have hmx : mx0 u = 0 := by unfold mx0; rw [if_neg hpos]
        have hsg : decide (0 < sgnQ u) = false := decide_eq_false (fun h => hpos (sgn_pos.1 h))
        rw [hmx] at HST
        have HST2 := Lib.hid (HST.out.trans (show okQ (s + 0) = some s by rw [Rat.add_zero]; exact okQ_yes HS.out))
        have HSGN := Lib.hid hsg
        clear hex hf hu ht hto hu1 huo hpos hmx hsg HX HS HRUN H5 HST
        generalize sgnQ u = sg at *
        go_wp2_with fail
        refine HA.out.mono ?_
        rintro e w1 ⟨rfl, rfl⟩
        clear HA
        go_wp2_with fail
        refine HM.out.mono ?_
        rintro e w1 ⟨rfl, hb1⟩
        have HB3 := Lib.hid (HB1.out.trans (hb1.mono HB1.out.size))
        have cx := HCX.out w1 hb1
        clear hb1 HM HB1 HCX
        go_wp2_with fail
        refine (HSB.out _).mono ?_
        rintro e w3 ⟨rfl, hb1⟩
        have HB4 := Lib.hid (HB3.out.trans (hb1.mono HB3.out.size))
        clear hb1 HSB HB3 cx
        go_wp2_with fail
        refine (HSI.out _).mono ?_
        rintro e w4 ⟨rfl, hb1⟩
        have HB5 := Lib.hid (HB4.out.trans (hb1.mono HB4.out.size))
        have hsg := HSGN.out
        clear hb1 HSI HB4 HSGN
        go_wp2_with fail
        go_roundw
        case rel => exact ⟨k + 1, s, by omega, rfl, by go_num, HST2, HB5.out⟩
        case measure => simp [intOf]; omega
    ·obtain rfl : k = N := by omega
     have HC := Lib.hid (HT0.out s HRUN.out)
     have HB1 := Lib.hid hb
     clear hb HMR HAT HOP HVQ HT5 HT0 HRO HMU HRUN
     go_wp2_with fail
     go_ret2
     exact ⟨by rw [HC.out]; rfl, HB1.out⟩
  ·rw [if_pos h1] at hT
   clear hp hq hlp hlq hlenP h0
   unfold eS at h1 hT
   by_cases h2 : rchk sf = 0
   ·rw [if_neg (by omega)] at h1 hT
    have hse : sE sf = sgnQ (ratS sf) := by unfold sE; rw [if_pos h2]
    have h3 : sgnQ (ratS sf) < 0 := by
     by_cases h : sgnQ (ratS sf) < 0
     ·exact h
     ·rw [if_neg h] at h1; omega
    rw [if_pos h3] at hT
    rw [h2, hse] at HSG
    have HNN := Lib.hid (show decide (sgnQ (ratS sf) < 0) = true from decide_eq_true h3)
    generalize sgnQ (ratS sf) = sg at *
    clear h1 h2 h3 hse hsf
    subst hT
    go_enter Tryz.func111, Tryz.ntmps111
    go_wp2_with fail
    refine HCB.out.mono ?_
    rintro e w1 ⟨rfl, hb⟩
    have HB := Lib.hid hb
    clear hb HCB
    go_wp2_with fail
    refine (HSG.out _).mono ?_
    rintro e w2 ⟨rfl, hb⟩
    have HB2 := Lib.hid (HB.out.trans (hb.mono HB.out.size))
    have hnn := HNN.out
    clear hb HSG HB HNN
    go_wp2_with fail
    go_ret2
    exact ⟨rfl, HB2.out⟩
   ·rw [if_pos h2] at hT
    have hz := errneZ h2
    generalize rchk sf = d at *
    generalize sE sf = sg at *
    clear h1 h2 hsf
    subst hT
    go_enter Tryz.func111, Tryz.ntmps111
    go_wp2_with fail
    refine HCB.out.mono ?_
    rintro e w1 ⟨rfl, hb⟩
    have HB := Lib.hid hb
    clear hb HCB
    go_wp2_with fail
    refine (HSG.out _).mono ?_
    rintro e w2 ⟨rfl, hb⟩
    have HB2 := Lib.hid (HB.out.trans (hb.mono HB.out.size))
    clear hb HSG HB
    go_wp2_with fail
    go_ret2
    exact ⟨rfl, HB2.out⟩
 ·rw [if_pos h0] at hT
  have hz := errneZ h0
  generalize bE P Q = c at *
  clear hp hq hlp hlq hlenP h0 HSG
  subst hT
  go_enter Tryz.func111, Tryz.ntmps111
  go_wp2_with fail
  refine HCB.out.mono ?_
  rintro e w1 ⟨rfl, hb⟩
  have HB := Lib.hid hb
  clear hb HCB
  go_wp2_with fail
  go_ret2
  exact ⟨rfl, HB.out⟩
theorem rMax_oQ (s d : Rat) (hs : QOk s) (hd : QOk d) (w : World) :
  Calls Tryz.prog 47 #[.string (qstr s), .string (qstr d)] w fun e w' => e = .returned (.tuple #[.string (qstr (mxQ s d)), .int .i64 0]) ∧ Below w.heap.size w w' := by
 have h := rMax_q w hs hd
 have e : (if 0 ≤ cmpQ s d then s else d) = mxQ s d := by
  unfold mxQ
  rcases lt_tri s d with h | h | h
  ·rw [cmpQ_lt h, if_neg (by omega), if_neg (fun h2 => by grind)]
  ·subst h; rw [cmpQ_self, if_pos (by omega)]; split <;> rfl
  ·have h1 : ¬ cmpQ s d ≤ 0 := fun h2 => by have := cmpQ_le.1 h2; grind
   rw [if_pos (by omega), if_pos h]
 rw [e] at h
 exact h
end

section
open Go.RowKit NV Go.Maps Go.Sort Go.Shelf
open Go.Lib (decDigits)
theorem made92_any {A0 : Option Addr} {n0 c0 : Nat} {L0 : List MI} {A1 : Option Addr} {n1 c1 : Nat} {L1 : List MI} {w : World} (h0 : MR w A0 n0 L0 ∧ n0 ≤ 9223372036854775807 ∧ MX L0) (h1 : MR w A1 n1 L1 ∧ n1 ≤ 9223372036854775807 ∧ MX L1) : Calls Tryz.prog 41 #[.slice (some ⟨w.heap.size, 0, none⟩) 2 2] (w.alloc (.cells #[.slice A0 n0 c0, .slice A1 n1 c1] 37)) fun e w' => ∃ v r, e = .returned (.tuple #[v, .bool r]) ∧ (r = true → ∃ (g cl : Nat) (u0 u1 : Value) (D0 D1 : List QI), v = .slice (some ⟨g, 0, none⟩) 2 cl ∧ g < w'.heap.size ∧ w'.cell? ⟨g, 0, none⟩ = some u0 ∧ w'.cell? ⟨g, 1, none⟩ = some u1 ∧ DF w' u0 D0 ∧ DF w' u1 D1) ∧ Below w.heap.size w w' := by
 have hb := (Below.refl w.heap.size w).alloc (Nat.le_refl _) (.cells #[.slice A0 n0 c0, .slice A1 n1 c1] 37)
 have hc : ∀ (j : Nat) (v : Value), (#[.slice A0 n0 c0, .slice A1 n1 c1] : Array Value)[j]? = some v → (w.alloc (.cells #[.slice A0 n0 c0, .slice A1 n1 c1] 37)).cell? ⟨w.heap.size, j, none⟩ = some v := fun j v hv => by
  rw [Lib.cell_of_heap (heap_alloc_new w _)]; exact hv
 refine (made9_any (n := 2) (g := w.heap.size) (A := (fun j : Nat => if j = 0 then A0 else (A1))) (N := (fun j : Nat => if j = 0 then n0 else (n1))) (C := (fun j : Nat => if j = 0 then c0 else (c1))) (L := (fun j : Nat => if j = 0 then L0 else (L1))) (by omega) (fun j hj => ?_) (by simp) (fun j hj => ?_)).mono ?_
 ·rcases (show j = 0 ∨ j = 1 by omega) with rfl | rfl
  ·exact ⟨h0.1.below hb, h0.2⟩
  ·exact ⟨h1.1.below hb, h1.2⟩
 ·rcases (show j = 0 ∨ j = 1 by omega) with rfl | rfl
  ·exact hc 0 _ rfl
  ·exact hc 1 _ rfl
 ·rintro e w' ⟨v, r, rfl, hr, hbb⟩
  refine ⟨v, r, rfl, fun h => ?_, hb.trans (hbb.mono hb.size)⟩
  obtain ⟨ds, hl, hrow, hds⟩ := hr h
  obtain ⟨g, cl, hv, hg, hcell⟩ := ds_cells hrow (by omega)
  have hx : ∀ j, j < 2 → ∃ u D, ds[j]? = some u ∧ DF w' u D := fun j hj => by
   have h1 : ds[j]? = some (ds[j]'(by omega)) := List.getElem?_eq_getElem _
   obtain ⟨D, hD⟩ := hds j _ h1
   exact ⟨_, D, h1, hD⟩
  obtain ⟨u0, D0, e0, d0⟩ := hx 0 (by omega)
  obtain ⟨u1, D1, e1, d1⟩ := hx 1 (by omega)
  exact ⟨g, cl, u0, u1, D0, D1, hv, hg, hcell 0 _ e0, hcell 1 _ e1, d0, d1⟩
set_option maxHeartbeats 3200000 in
set_option maxRecDepth 100000 in
theorem least9 {f tx ty tm : ByteArray} {N M c1 c2 : Nat} {a1 a2 : Option Addr} {w : World}
  (k1 : ∀ W, Below w.heap.size w W → Calls Tryz.prog 111 #[.slice a1 N c1, .slice a2 M c2, .string f] W fun e w' => e = .returned (.tuple #[.string tx, .int .i64 0]) ∧ Below W.heap.size W w')
  (k2 : ∀ W, Below w.heap.size w W → Calls Tryz.prog 111 #[.slice a2 M c2, .slice a1 N c1, .string f] W fun e w' => e = .returned (.tuple #[.string ty, .int .i64 0]) ∧ Below W.heap.size W w')
  (k3 : ∀ W, Calls Tryz.prog 47 #[.string tx, .string ty] W fun e w' => e = .returned (.tuple #[.string tm, .int .i64 0]) ∧ Below W.heap.size W w') :
  Calls Tryz.prog 43 #[.slice a1 N c1, .slice a2 M c2, .string f] w fun e w' => e = .returned (.agg #[.string f, .string tm]) ∧ Below w.heap.size w w' := by
 have K1 := Lib.hid k1
 have K2 := Lib.hid k2
 have K3 := Lib.hid k3
 have hr0 : RB w (w.alloc (.cells #[.string ⟨#[]⟩, .string ⟨#[]⟩] 24)) w.heap.size ⟨#[]⟩ ⟨#[]⟩ := RB.new (Nat.le_refl _)
 have hb0 := (Below.refl w.heap.size w).alloc (Nat.le_refl _) (.cells #[.string ⟨#[]⟩, .string ⟨#[]⟩] 24)
 have HB0 := Lib.hid (And.intro hb0 hr0)
 clear hb0 hr0 k1 k2 k3
 go_enter Tryz.func43, Tryz.ntmps43
 go_wp2_with fail
 refine (K1.out _ HB0.out.1).mono ?_
 rintro e w1 ⟨rfl, hb⟩
 have HB1 := Lib.hid (And.intro (HB0.out.1.trans (hb.mono HB0.out.1.size)) (HB0.out.2.below hb))
 clear hb K1 HB0
 go_wp2_with fail
 refine (K2.out _ HB1.out.1).mono ?_
 rintro e w2 ⟨rfl, hb⟩
 have HB2 := Lib.hid (And.intro (HB1.out.1.trans (hb.mono HB1.out.1.size)) (HB1.out.2.below hb))
 clear hb K2 HB1
 go_wp2_with fail
 refine (K3.out _).mono ?_
 rintro e w3 ⟨rfl, hb⟩
 have HB3 := Lib.hid (HB2.out.1.trans (hb.mono HB2.out.1.size))
 obtain ⟨_, _, c0, c1, z0, z1⟩ := HB2.out.2.below hb
 clear hb K3 HB2
 go_wp2_with fail
 refine bodyPost_ret (v := .agg #[.string f, .string tm]) (by simp [results, Tryz.results43, go_sem, c0, c1]) rfl ?_
 exact ⟨rfl, (HB3.out.setCell (p := ⟨w.heap.size, 0, none⟩) (Nat.le_refl _) _).setCell (p := ⟨w.heap.size, 1, none⟩) (Nat.le_refl _) _⟩
set_option maxHeartbeats 3200000 in
set_option maxRecDepth 100000 in
theorem holds9 {f d : ByteArray} {b : Bool} {N M c1 c2 : Nat} {a1 a2 : Option Addr} {w : World}
  (k : ∀ W, Below w.heap.size w W → Calls Tryz.prog 39 #[.agg #[.string f, .string d], .slice a1 N c1, .slice a2 M c2] W fun e w' => e = .returned (.tuple #[.bool b, .int .i64 0]) ∧ Below W.heap.size W w') :
  Calls Tryz.prog 45 #[.agg #[.string f, .string d], .int .i64 0, .slice a1 N c1, .slice a2 M c2] w fun e w' => e = .returned (.bool b) ∧ Below w.heap.size w w' := by
 have K := Lib.hid k
 have r1 : RB w (w.alloc (.cells #[.string f, .string d] 24)) w.heap.size f d := RB.new (Nat.le_refl _)
 have HB0 := Lib.hid ((Below.refl w.heap.size w).alloc (Nat.le_refl _) (.cells #[.string f, .string d] 24))
 have c0 := r1.c0
 have c1 := r1.c1
 clear r1 k
 go_enter Tryz.func45, Tryz.ntmps45
 go_wp2_with fail
 refine (K.out _ HB0.out).mono ?_
 rintro e w1 ⟨rfl, hb⟩
 have HB1 := Lib.hid (HB0.out.trans (hb.mono HB0.out.size))
 clear hb K HB0 c0 c1
 cases b with
 | false =>
  go_wp2_with fail
  go_ret
  exact ⟨rfl, HB1.out⟩
 | true =>
  go_wp2_with fail
  go_ret
  exact ⟨rfl, HB1.out⟩
set_option maxHeartbeats 3200000 in
set_option maxRecDepth 100000 in
theorem rboth9_ok {f1 d1 f2 d2 : ByteArray} {w : World}
  (k1 : ∀ W, Calls Tryz.prog 28 #[.agg #[.string f1, .string d1]] W (Er 0 W))
  (k2 : ∀ W, Calls Tryz.prog 28 #[.agg #[.string f2, .string d2]] W (Er 0 W)) :
  Calls Tryz.prog 76 #[.agg #[.string f1, .string d1], .agg #[.string f2, .string d2]] w (Er 0 w) := by
 have K1 := Lib.hid k1
 have K2 := Lib.hid k2
 clear k1 k2
 have r1 : RB w (w.alloc (.cells #[.string f1, .string d1] 24)) w.heap.size f1 d1 := RB.new (Nat.le_refl _)
 have h1 := (Below.refl w.heap.size w).alloc (Nat.le_refl _) (.cells #[.string f1, .string d1] 24)
 have h2 := h1.alloc h1.size (.cells #[.string f2, .string d2] 24)
 have i2 := (Below.refl (w.alloc (.cells #[.string f1, .string d1] 24)).heap.size (w.alloc (.cells #[.string f1, .string d1] 24))).alloc (Nat.le_refl _) (.cells #[.string f2, .string d2] 24)
 have r2 : RB w ((w.alloc (.cells #[.string f1, .string d1] 24)).alloc (.cells #[.string f2, .string d2] 24)) (w.heap.size + 1) f2 d2 := by
  have h := RB.new (w := w) (W := (w.alloc (.cells #[.string f1, .string d1] 24))) (s := f2) (t := d2) (ty := 24) (by simp)
  simpa using h
 have HR := Lib.hid (And.intro (r1.below i2) r2)
 have HB := Lib.hid h2
 clear r1 r2 h1 h2 i2
 have c0 := HR.out.1.c0
 have c1 := HR.out.1.c1
 go_enter Tryz.func76, Tryz.ntmps76
 go_wp2_with fail
 refine (K1.out _).mono ?_
 rintro e w1 ⟨rfl, hb⟩
 have HB1 := Lib.hid (HB.out.trans (hb.mono HB.out.size))
 clear c0 c1
 have c0 := (HR.out.2.below hb).c0
 have c1 := (HR.out.2.below hb).c1
 clear hb K1 HB HR
 go_wp2_with fail
 refine (K2.out _).mono ?_
 rintro e w2 ⟨rfl, hb⟩
 have HB2 := Lib.hid (HB1.out.trans (hb.mono HB1.out.size))
 clear hb K2 HB1 c0 c1
 go_wp2_with fail
 go_ret
 exact ⟨rfl, HB2.out⟩
set_option maxHeartbeats 3200000 in
set_option maxRecDepth 100000 in
theorem rMax9_ok {f1 d1 f2 d2 mf md : ByteArray} {w : World}
  (k0 : ∀ W, Calls Tryz.prog 76 #[.agg #[.string f1, .string d1], .agg #[.string f2, .string d2]] W (Er 0 W))
  (k1 : ∀ W, Calls Tryz.prog 47 #[.string f1, .string f2] W fun e w' => e = .returned (.tuple #[.string mf, .int .i64 0]) ∧ Below W.heap.size W w')
  (k2 : ∀ W, Calls Tryz.prog 47 #[.string d1, .string d2] W fun e w' => e = .returned (.tuple #[.string md, .int .i64 0]) ∧ Below W.heap.size W w') :
  Calls Tryz.prog 20 #[.agg #[.string f1, .string d1], .agg #[.string f2, .string d2]] w (Rl mf md w) := by
 have K0 := Lib.hid k0
 have K1 := Lib.hid k1
 have K2 := Lib.hid k2
 clear k0 k1 k2
 have r1 : RB w (w.alloc (.cells #[.string f1, .string d1] 24)) w.heap.size f1 d1 := RB.new (Nat.le_refl _)
 have h1 := (Below.refl w.heap.size w).alloc (Nat.le_refl _) (.cells #[.string f1, .string d1] 24)
 have h2 := h1.alloc h1.size (.cells #[.string f2, .string d2] 24)
 have i2 := (Below.refl (w.alloc (.cells #[.string f1, .string d1] 24)).heap.size (w.alloc (.cells #[.string f1, .string d1] 24))).alloc (Nat.le_refl _) (.cells #[.string f2, .string d2] 24)
 have r2 : RB w ((w.alloc (.cells #[.string f1, .string d1] 24)).alloc (.cells #[.string f2, .string d2] 24)) (w.heap.size + 1) f2 d2 := by
  have h := RB.new (w := w) (W := (w.alloc (.cells #[.string f1, .string d1] 24))) (s := f2) (t := d2) (ty := 24) (by simp)
  simpa using h
 have h3 := h2.alloc h2.size (.cells #[.string ⟨#[]⟩, .string ⟨#[]⟩] 24)
 have i3 := (Below.refl ((w.alloc (.cells #[.string f1, .string d1] 24)).alloc (.cells #[.string f2, .string d2] 24)).heap.size ((w.alloc (.cells #[.string f1, .string d1] 24)).alloc (.cells #[.string f2, .string d2] 24))).alloc (Nat.le_refl _) (.cells #[.string ⟨#[]⟩, .string ⟨#[]⟩] 24)
 have r3 : RB w (((w.alloc (.cells #[.string f1, .string d1] 24)).alloc (.cells #[.string f2, .string d2] 24)).alloc (.cells #[.string ⟨#[]⟩, .string ⟨#[]⟩] 24)) (w.heap.size + 2) ⟨#[]⟩ ⟨#[]⟩ := by
  have h := RB.new (w := w) (W := ((w.alloc (.cells #[.string f1, .string d1] 24)).alloc (.cells #[.string f2, .string d2] 24))) (s := ⟨#[]⟩) (t := ⟨#[]⟩) (ty := 24) (by simp; omega)
  simpa using h
 have HR := Lib.hid (And.intro ((r1.below i2).below i3) (And.intro (r2.below i3) r3))
 have HB := Lib.hid h3
 clear r1 r2 r3 h1 h2 h3 i2 i3
 have c0 := HR.out.1.c0
 have c1 := HR.out.1.c1
 have c2 := HR.out.2.1.c0
 have c3 := HR.out.2.1.c1
 go_enter Tryz.func20, Tryz.ntmps20
 go_wp2_with fail
 refine (K0.out _).mono ?_
 rintro e w1 ⟨rfl, hb⟩
 have HB1 := Lib.hid (HB.out.trans (hb.mono HB.out.size))
 have HR1 := Lib.hid (And.intro (HR.out.1.below hb) (And.intro (HR.out.2.1.below hb) (HR.out.2.2.below hb)))
 clear c0 c1 c2 c3 hb K0 HB HR
 have c0 := HR1.out.1.c0
 have c2 := HR1.out.2.1.c0
 go_wp2_with fail
 refine (K1.out _).mono ?_
 rintro e w2 ⟨rfl, hb⟩
 have HB2 := Lib.hid (HB1.out.trans (hb.mono HB1.out.size))
 have HR2 := Lib.hid (And.intro (HR1.out.1.below hb) (And.intro (HR1.out.2.1.below hb) (HR1.out.2.2.below hb)))
 clear c0 c2 hb K1 HB1 HR1
 have c1 := HR2.out.1.c1
 have c3 := HR2.out.2.1.c1
 go_wp2_with fail
 refine (K2.out _).mono ?_
 rintro e w3 ⟨rfl, hb⟩
 have HB3 := Lib.hid (HB2.out.trans (hb.mono HB2.out.size))
 have hq := HR2.out.2.2.below hb
 clear c1 c3 hb K2 HB2 HR2
 obtain ⟨_, _, c0, c1, z0, z1⟩ := hq
 go_wp2_with fail
 refine bodyPost_ret (v := .tuple #[.agg #[.string mf, .string md], .int .i64 0]) (by simp [results, Tryz.results20, go_sem, c0, c1]) rfl ?_
 exact ⟨rfl, (HB3.out.setCell (p := ⟨w.heap.size + 2, 0, none⟩) (by show w.heap.size ≤ w.heap.size + 2; omega) _).setCell (p := ⟨w.heap.size + 2, 1, none⟩) (by show w.heap.size ≤ w.heap.size + 2; omega) _⟩
theorem rMax9_q {F D G E : Rat} (ha : LQ F D) (hb : LQ G E) (w : World) : Calls Tryz.prog 20 #[.agg #[.string (qstr F), .string (qstr D)], .agg #[.string (qstr G), .string (qstr E)]] w (Rl (qstr (mxQ F G)) (qstr (mxQ D E)) w) := by
 have bg : ∀ {q : Rat}, QOk q → (qstr q).size ≤ 140737488351232 := fun h => Nat.le_trans (sz_q h) (by omega)
 refine rMax9_ok (fun W => rboth9_ok (fun W => ?_) (fun W => ?_)) (fun W => rMax_oQ F G ha.okF hb.okF W) (fun W => rMax_oQ D E ha.okD hb.okD W)
 ·have h := rLCheck_any (w := W) (bg ha.okF) (bg ha.okD)
  rw [ha.chk] at h
  exact h
 ·have h := rLCheck_any (w := W) (bg hb.okF) (bg hb.okD)
  rw [hb.chk] at h
  exact h
theorem mn1_ge {a b : Rat} (h1 : a ≤ b) (h2 : a ≤ 1) : a ≤ mn1 b := by unfold mn1; grind
theorem mxQ_le {a b c : Rat} (h1 : a ≤ c) (h2 : b ≤ c) : mxQ a b ≤ c := by unfold mxQ; grind
theorem mxQ_ge1 {a b : Rat} : a ≤ mxQ a b := by unfold mxQ; grind
theorem mxQ_ge2 {a b : Rat} : b ≤ mxQ a b := by unfold mxQ; grind
theorem mxQ_sz {a b : Rat} {k : Nat} (h1 : Sz k a) (h2 : Sz k b) : Sz k (mxQ a b) := by
 unfold mxQ
 split
 ·exact h1
 ·exact h2
end

section
open Go.RowKit NV Go.Maps Go.Sort Go.Shelf
open Go.Lib (decDigits)
set_option maxHeartbeats 3200000 in
set_option maxRecDepth 100000 in
theorem rScaled_any {L : List MI} {N cap : Nat} {ao : Option Addr} {F : Rat} {w : World} (hr : MR w ao N L) (hN : N ≤ 1000) (hok : OKM L) (hF : QOk F) :
  Calls Tryz.prog 115 #[.slice ao N cap, .string (qstr F)] w fun e w' => (∀ s, scO L F = some s → ∃ v, e = .returned (.tuple #[v, .int .i64 0]) ∧ w'.ownsRow w.heap.size 78 2 v s.length (cellsZ s)) ∧ (scO L F = none → e = .returned (.tuple #[.slice none 0 0, .int .i64 5])) ∧ Below w.heap.size w w' := by
 obtain ⟨i0, hi, hz0, hz1, hz2⟩ := info_parts infoZ
 obtain ⟨R, hR⟩ : ∃ R, R = scO L F := ⟨_, rfl⟩
 rw [← hR]
 have HBAD := Lib.hid (show ∀ k s, k < N → runO (scF L F) [] k = some s → scF L F k s = none → R = none from fun k s hk h1 h2 => by rw [hR]; unfold scO; rw [hr.len]; exact runO_fail h1 h2 hk)
 have HEND := Lib.hid (show ∀ s, runO (scF L F) [] N = some s → R = some s from fun s h => by rw [hR]; unfold scO; rw [hr.len]; exact h)
 have HMU := Lib.hid (fun W q hq => rMul_oQ q F hq hF W)
 have HMR := Lib.hid hr
 have HOK := Lib.hid hok
 clear hr hok hR hF
 generalize qstr F = sf at *
 go_enter Tryz.func115, Tryz.ntmps115
 go_wp2_with fail
 go_loopw [6, 7] (fun vv iv wr => ∃ (k : Nat) (s : List MI), k ≤ N ∧ iv = .int .i64 (k : Int) ∧ Hid (runO (scF L F) [] k = some s) ∧ Hid (wr.ownsRow w.heap.size 78 2 vv k (cellsZ s)) ∧ Below w.heap.size w wr) (fun _ iv _ => N - (intOf iv).toNat)
 case atStart => exact ⟨0, [], Nat.zero_le _, rfl, Lib.hid rfl, Lib.hid (World.ownsRow_nil _ _ _ _), Below.refl _ _⟩
 case round =>
  obtain ⟨k, s, hk, rfl, HRUN, HROW, hb⟩ := hrel
  by_cases hlt : k < N
  ·obtain ⟨a, x, rfl, hx, _, c0, c1⟩ := (HMR.out.below hb).at hlt
   obtain ⟨hx1, hx2⟩ := HOK.out.at hx
   have HM := Lib.hid (HMU.out wr _ hx2)
   rw [← hx1] at HM
   have HCX := Lib.hid (show ∀ W, Below wr.heap.size wr W → W.cell? (a.add (k * 2)) = some (.string x.1) from fun W hw => by
    obtain ⟨ad', x', h1, h2, _, h3, _⟩ := (HMR.out.below (hb.trans (hw.mono hb.size))).at hlt
    obtain rfl := Option.some.inj h1
    rw [hx] at h2
    obtain rfl := Option.some.inj h2
    exact h3)
   have HB1 := Lib.hid hb
   have HNO := Lib.hid (HBAD.out k s hlt HRUN.out)
   have HST := Lib.hid (runO_step HRUN.out)
   have hsc : scF L F k s = (okQ (qZ L k * F)).map fun q => s ++ [(x.1, qstr q)] := by unfold scF; rw [getZ_of hx]
   rw [hsc] at HNO HST
   obtain ⟨x1, x2⟩ := x
   obtain ⟨xo, xc, rfl, _⟩ := rowM_shape HROW.out
   clear hb hx hx1 hx2 hsc HBAD HMR HOK HMU HEND HRUN
   cases hf : okQ (qZ L k * F) with
   | none =>
    rw [hf] at HM
    have HC := Lib.hid (HNO.out (by rw [hf]; rfl))
    clear HNO HST hf HROW HCX
    go_wp2_with fail
    refine HM.out.mono ?_
    rintro e w1 ⟨rfl, hb1⟩
    have HB2 := Lib.hid (HB1.out.trans (hb1.mono HB1.out.size))
    clear hb1 HM HB1
    go_wp2_with fail
    go_ret2
    exact ⟨fun s h => (by rw [HC.out] at h; cases h), fun _ => rfl, HB2.out⟩
   | some q =>
    rw [hf] at HM
    have HST2 := Lib.hid (show runO (scF L F) [] (k + 1) = some (s ++ [(x1, qstr q)]) from HST.out.trans (by rw [hf]; rfl))
    replace HM := Lib.hid (show Calls _ _ _ _ (PR (qstr q, 0) wr) from HM.out)
    clear HNO HST hf
    generalize qstr q = sq at *
    go_wp2_with fail
    refine HM.out.mono ?_
    rintro e w1 ⟨rfl, hb1⟩
    have HB2 := Lib.hid (HB1.out.trans (hb1.mono HB1.out.size))
    have HRW := Lib.hid (rowM_below HROW.out hb1)
    have cx := HCX.out w1 hb1
    clear hb1 HM HB1 HROW HCX
    go_wp2_with (at_builtin; refine wpList_append_own _ rfl _ _ 37 rfl w.heap.size 78 i0 (.agg #[.string ⟨#[]⟩, .string ⟨#[]⟩]) 2 32 Tryz.underlying37 hi hz0 hz1 hz2 rfl (by decide) _ _ _ rfl (HRW.out.alloc _) ⟨w1.heap.size, 0, none⟩ 1 1 [.string x1, .string sq] rfl rfl (World.news_of_block (heap_alloc_new _ _)) (fun u hu => by simp at hu; rcases hu with rfl | rfl <;> rfl) ?c3 ?c4 ?c5 ?_)
    case c3 => unfold maxLen; omega
    case c4 => omega
    case c5 => have := HB2.out.size; simp; omega
    intro v' w6 hown' hgrow _
    have hlt5 := HRW.out.lt
    have HF2 := Lib.hid (And.intro hown' ((HB2.out.alloc HB2.out.size _).grown hgrow (by have := HB2.out.size; simp; omega) (fun q hq => (hlt5 q hq).1)))
    clear hown' hgrow hlt5 cx
    go_wp2_with fail
    go_roundw
    case rel => exact ⟨k + 1, s ++ [(x1, sq)], by omega, by go_num, HST2, Lib.hid (by rw [cellsZ_app]; exact HF2.out.1), HF2.out.2⟩
    case measure => simp [intOf]; omega
  ·obtain rfl : k = N := by omega
   have HC := Lib.hid (HEND.out s HRUN.out)
   have HL := Lib.hid (scF_len HRUN.out)
   have HB1 := Lib.hid hb
   clear hb HBAD HMR HOK HMU HEND HRUN
   go_wp2_with fail
   go_ret2
   refine ⟨fun s' h => ?_, fun h => (by rw [HC.out] at h; cases h), HB1.out⟩
   rw [HC.out] at h
   obtain rfl := Option.some.inj h
   exact ⟨_, rfl, by rw [HL.out]; exact HROW.out⟩
end

end Go.Proofs.YtkponlbpgmnpgaaGreatDoor
