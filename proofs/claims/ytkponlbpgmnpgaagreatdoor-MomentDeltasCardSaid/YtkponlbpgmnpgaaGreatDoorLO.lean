/-
  LossOrder is walked.
-/
import Derived.Test.YtkponlbpgmnpgaaGreatDoorLB
namespace Go.Proofs.YtkponlbpgmnpgaaGreatDoor
section
open Go.RowKit NV
theorem mxQ_okA {p q : Rat} (hp : QOk p) (hq : QOk q) : QOk (mxQ p q) := by
 unfold mxQ
 split
 ·exact hp
 ·exact hq
theorem LQ.max {F D G E : Rat} (ha : LQ F D) (hb : LQ G E) : LQ (mxQ F G) (mxQ D E) := by
 have h1 := ha.f1
 have h2 := ha.d0
 have h3 := ha.d1
 have h4 := hb.f1
 have h5 := hb.d0
 have h6 := hb.d1
 refine ⟨mxQ_okA ha.okF hb.okF, mxQ_okA ha.okD hb.okD, ?_, ?_, ?_⟩ <;> unfold mxQ <;> grind
end
section
open Go.RowKit NV
theorem at9_any (s t : ByteArray) (hs : s.size ≤ 140737488351232) (ht : t.size ≤ 140737488351232) (w : World) : Calls Tryz.prog 83 #[.string s, .string t] w fun e w' => e = .returned (.bool (decide ((cmpT s t).1 ≤ 0))) ∧ Below w.heap.size w w' := by
 have HC := Lib.hid (rCmpT_any s t hs ht w)
 unfold Cm at HC
 generalize (cmpT s t).1 = c at *
 generalize (cmpT s t).2 = n at *
 clear hs ht
 by_cases h : c ≤ 0
 ·rw [decide_eq_true h]
  go_enter Tryz.func83, Tryz.ntmps83
  go_wp2_with fail
  refine HC.out.mono ?_
  rintro e w1 ⟨rfl, hb⟩
  have HB := Lib.hid hb
  clear hb HC
  go_wp2_with fail
  go_ret
  exact ⟨ret_bool (by simp), HB.out⟩
 ·rw [decide_eq_false h]
  go_enter Tryz.func83, Tryz.ntmps83
  go_wp2_with fail
  refine HC.out.mono ?_
  rintro e w1 ⟨rfl, hb⟩
  have HB := Lib.hid hb
  clear hb HC
  go_wp2_with fail
  go_ret
  exact ⟨ret_bool (by simp [h]), HB.out⟩
theorem chkL_ref {f d : ByteArray} (h1 : rchk f = 0) (h2 : rchk d = 0) : chkL f d = if decide ((cmpT ⟨#[49]⟩ f).1 ≤ 0) && (decide ((cmpT ⟨#[48]⟩ d).1 ≤ 0) && decide ((cmpT d ⟨#[49]⟩).1 ≤ 0)) then 0 else 2 := by
 obtain ⟨F, rfl, oF⟩ := rchk_rat h1
 obtain ⟨D, rfl, oD⟩ := rchk_rat h2
 unfold chkL
 rw [h1, h2, ← q1L, ← q0Z, cmpT_q o1Q oF, cmpT_q o0Q oD, cmpT_q oD o1Q, ord_q o1Q oF, ord_q o0Q oD, ord_q oD o1Q]
 have e1 : decide (cmpQ 1 F ≤ 0) = decide (1 ≤ F) := by rw [decide_eq_decide]; exact cmpQ_le
 have e2 : decide (cmpQ 0 D ≤ 0) = decide (0 ≤ D) := by rw [decide_eq_decide]; exact cmpQ_le
 have e3 : decide (cmpQ D 1 ≤ 0) = decide (D ≤ 1) := by rw [decide_eq_decide]; exact cmpQ_le
 show fstL [((0 : Nat) : Int), ((0 : Nat) : Int), _, _] = if decide (cmpQ 1 F ≤ 0) && (decide (cmpQ 0 D ≤ 0) && decide (cmpQ D 1 ≤ 0)) then 0 else 2
 rw [e1, e2, e3]
 by_cases h3 : 1 ≤ F
 ·rw [decide_eq_true h3, if_neg (Rat.not_lt.2 h3)]
  by_cases h4 : 0 ≤ D
  ·rw [decide_eq_true h4, if_neg (Rat.not_lt.2 h4)]
   by_cases h5 : D ≤ 1
   ·rw [decide_eq_true h5, if_neg (Rat.not_lt.2 h5)]; rfl
   ·rw [decide_eq_false h5, if_pos (Rat.not_le.1 h5)]; rfl
  ·rw [decide_eq_false h4, if_pos (Rat.not_le.1 h4)]; rfl
 ·rw [decide_eq_false h3, if_pos (Rat.not_le.1 h3)]; rfl
set_option maxHeartbeats 6400000 in
set_option maxRecDepth 100000 in
theorem rLCheck_any {f d : ByteArray} {w : World} (hf : f.size ≤ 140737488351232) (hd : d.size ≤ 140737488351232) : Calls Tryz.prog 28 #[.agg #[.string f, .string d]] w (Er (chkL f d) w) := by
 have hb1 := (Below.refl w.heap.size w).alloc (Nat.le_refl _) (.cells #[.string f, .string d] 24)
 have r1 : RB w (w.alloc (.cells #[.string f, .string d] 24)) w.heap.size f d := RB.new (Nat.le_refl _)
 have HB0 := Lib.hid hb1
 have HR := Lib.hid r1
 have HC1 := Lib.hid (fun W => rcheck_any f W hf)
 have HC2 := Lib.hid (fun W => rcheck_any d W hd)
 have HA1 := Lib.hid (fun W => at9_any ⟨#[49]⟩ f (by decide) hf W)
 have HA2 := Lib.hid (fun W => at9_any ⟨#[48]⟩ d (by decide) hd W)
 have HA3 := Lib.hid (fun W => at9_any d ⟨#[49]⟩ hd (by decide) W)
 have HE1 := Lib.hid (show rchk f ≠ 0 → chkL f d = (rchk f : Int) from fun h => if_pos (by omega))
 have HE2 := Lib.hid (show rchk f = 0 → rchk d ≠ 0 → chkL f d = (rchk d : Int) from fun h1 h2 => by
  unfold chkL
  rw [h1]
  show (if ((0 : Nat) : Int) ≠ 0 then _ else fstL ((rchk d : Int) :: _)) = _
  rw [if_neg (by simp)]
  exact if_pos (by omega))
 have HE3 := Lib.hid (chkL_ref (f := f) (d := d))
 obtain ⟨E, hE⟩ : ∃ E, E = chkL f d := ⟨_, rfl⟩
 rw [← hE] at HE1 HE2 HE3 ⊢
 clear hb1 r1 hf hd hE
 generalize decide ((cmpT ⟨#[49]⟩ f).1 ≤ 0) = b1 at *
 generalize decide ((cmpT ⟨#[48]⟩ d).1 ≤ 0) = b2 at *
 generalize decide ((cmpT d ⟨#[49]⟩).1 ≤ 0) = b3 at *
 generalize rchk f = m1 at *
 generalize rchk d = m2 at *
 by_cases h1 : m1 = 0
 ·subst h1
  by_cases h2 : m2 = 0
  ·subst h2
   have HEE := Lib.hid (HE3.out rfl rfl)
   clear HE1 HE2 HE3
   cases b1 with
   | false =>
    go_enter Tryz.func28, Tryz.ntmps28
    go_wp2_with fail
    refine (HC1.out _).mono ?_
    rintro e w1 ⟨rfl, hb⟩
    have HB1 := Lib.hid (HB0.out.trans (hb.mono HB0.out.size))
    have HR := Lib.hid (HR.out.below hb)
    have k1 := HR.out.c1
    clear hb HC1
    go_wp2_with fail
    refine (HC2.out _).mono ?_
    rintro e w2 ⟨rfl, hb⟩
    have HB2 := Lib.hid (HB1.out.trans (hb.mono HB1.out.size))
    have HR := Lib.hid (HR.out.below hb)
    have k0 := HR.out.c0
    clear hb HC2
    go_wp2_with fail
    refine (HA1.out _).mono ?_
    rintro e w3 ⟨rfl, hb⟩
    have HB3 := Lib.hid (HB2.out.trans (hb.mono HB2.out.size))
    have HR := Lib.hid (HR.out.below hb)
    clear hb HA1
    go_wp2_with fail
    go_ret
    exact ⟨by rw [HEE.out]; rfl, HB3.out⟩
   | true =>
    cases b2 with
    | false =>
     go_enter Tryz.func28, Tryz.ntmps28
     go_wp2_with fail
     refine (HC1.out _).mono ?_
     rintro e w1 ⟨rfl, hb⟩
     have HB1 := Lib.hid (HB0.out.trans (hb.mono HB0.out.size))
     have HR := Lib.hid (HR.out.below hb)
     have k1 := HR.out.c1
     clear hb HC1
     go_wp2_with fail
     refine (HC2.out _).mono ?_
     rintro e w2 ⟨rfl, hb⟩
     have HB2 := Lib.hid (HB1.out.trans (hb.mono HB1.out.size))
     have HR := Lib.hid (HR.out.below hb)
     have k0 := HR.out.c0
     clear hb HC2
     go_wp2_with fail
     refine (HA1.out _).mono ?_
     rintro e w3 ⟨rfl, hb⟩
     have HB3 := Lib.hid (HB2.out.trans (hb.mono HB2.out.size))
     have HR := Lib.hid (HR.out.below hb)
     have k1 := HR.out.c1
     clear hb HA1
     go_wp2_with fail
     refine (HA2.out _).mono ?_
     rintro e w4 ⟨rfl, hb⟩
     have HB4 := Lib.hid (HB3.out.trans (hb.mono HB3.out.size))
     have HR := Lib.hid (HR.out.below hb)
     clear hb HA2
     go_wp2_with fail
     go_ret
     exact ⟨by rw [HEE.out]; rfl, HB4.out⟩
    | true =>
     cases b3 with
     | false =>
      go_enter Tryz.func28, Tryz.ntmps28
      go_wp2_with fail
      refine (HC1.out _).mono ?_
      rintro e w1 ⟨rfl, hb⟩
      have HB1 := Lib.hid (HB0.out.trans (hb.mono HB0.out.size))
      have HR := Lib.hid (HR.out.below hb)
      have k1 := HR.out.c1
      clear hb HC1
      go_wp2_with fail
      refine (HC2.out _).mono ?_
      rintro e w2 ⟨rfl, hb⟩
      have HB2 := Lib.hid (HB1.out.trans (hb.mono HB1.out.size))
      have HR := Lib.hid (HR.out.below hb)
      have k0 := HR.out.c0
      clear hb HC2
      go_wp2_with fail
      refine (HA1.out _).mono ?_
      rintro e w3 ⟨rfl, hb⟩
      have HB3 := Lib.hid (HB2.out.trans (hb.mono HB2.out.size))
      have HR := Lib.hid (HR.out.below hb)
      have k1 := HR.out.c1
      clear hb HA1
      go_wp2_with fail
      refine (HA2.out _).mono ?_
      rintro e w4 ⟨rfl, hb⟩
      have HB4 := Lib.hid (HB3.out.trans (hb.mono HB3.out.size))
      have HR := Lib.hid (HR.out.below hb)
      have k1 := HR.out.c1
      clear hb HA2
      go_wp2_with fail
      refine (HA3.out _).mono ?_
      rintro e w5 ⟨rfl, hb⟩
      have HB5 := Lib.hid (HB4.out.trans (hb.mono HB4.out.size))
      have HR := Lib.hid (HR.out.below hb)
      clear hb HA3
      go_wp2_with fail
      go_ret
      exact ⟨by rw [HEE.out]; rfl, HB5.out⟩
     | true =>
      go_enter Tryz.func28, Tryz.ntmps28
      go_wp2_with fail
      refine (HC1.out _).mono ?_
      rintro e w1 ⟨rfl, hb⟩
      have HB1 := Lib.hid (HB0.out.trans (hb.mono HB0.out.size))
      have HR := Lib.hid (HR.out.below hb)
      have k1 := HR.out.c1
      clear hb HC1
      go_wp2_with fail
      refine (HC2.out _).mono ?_
      rintro e w2 ⟨rfl, hb⟩
      have HB2 := Lib.hid (HB1.out.trans (hb.mono HB1.out.size))
      have HR := Lib.hid (HR.out.below hb)
      have k0 := HR.out.c0
      clear hb HC2
      go_wp2_with fail
      refine (HA1.out _).mono ?_
      rintro e w3 ⟨rfl, hb⟩
      have HB3 := Lib.hid (HB2.out.trans (hb.mono HB2.out.size))
      have HR := Lib.hid (HR.out.below hb)
      have k1 := HR.out.c1
      clear hb HA1
      go_wp2_with fail
      refine (HA2.out _).mono ?_
      rintro e w4 ⟨rfl, hb⟩
      have HB4 := Lib.hid (HB3.out.trans (hb.mono HB3.out.size))
      have HR := Lib.hid (HR.out.below hb)
      have k1 := HR.out.c1
      clear hb HA2
      go_wp2_with fail
      refine (HA3.out _).mono ?_
      rintro e w5 ⟨rfl, hb⟩
      have HB5 := Lib.hid (HB4.out.trans (hb.mono HB4.out.size))
      have HR := Lib.hid (HR.out.below hb)
      clear hb HA3
      go_wp2_with fail
      go_ret
      exact ⟨by rw [HEE.out]; rfl, HB5.out⟩
  ·have HEE := Lib.hid (HE2.out rfl h2)
   have hz : (((m2 : Nat) : Int) != 0) = true := by simpa using (show (m2 : Int) ≠ 0 by omega)
   clear HE1 HE2 HE3 h2 HA1 HA2 HA3
   go_enter Tryz.func28, Tryz.ntmps28
   go_wp2_with fail
   refine (HC1.out _).mono ?_
   rintro e w1 ⟨rfl, hb⟩
   have HB1 := Lib.hid (HB0.out.trans (hb.mono HB0.out.size))
   have c1 := (HR.out.below hb).c1
   clear hb HC1
   go_wp2_with fail
   refine (HC2.out _).mono ?_
   rintro e w2 ⟨rfl, hb⟩
   have HB2 := Lib.hid (HB1.out.trans (hb.mono HB1.out.size))
   clear hb HC2 c1
   go_wp2_with fail
   go_ret
   exact ⟨by rw [HEE.out]; rfl, HB2.out⟩
 ·have HEE := Lib.hid (HE1.out h1)
  have hz : (((m1 : Nat) : Int) != 0) = true := by simpa using (show (m1 : Int) ≠ 0 by omega)
  clear HE1 HE2 HE3 h1 HA1 HA2 HA3 HC2
  go_enter Tryz.func28, Tryz.ntmps28
  go_wp2_with fail
  refine (HC1.out _).mono ?_
  rintro e w1 ⟨rfl, hb⟩
  have HB1 := Lib.hid (HB0.out.trans (hb.mono HB0.out.size))
  clear hb HC1
  go_wp2_with fail
  go_ret
  exact ⟨by rw [HEE.out]; rfl, HB1.out⟩
end
section
open Go.RowKit NV
structure LZ (F D : Rat) : Prop extends LQ F D where
 zF : Sz 100 F
 zD : Sz 100 D
theorem LQ.add {F D G E : Rat} (ha : LQ F D) (hb : LQ G E) (h1 : QOk (F * G)) (h2 : QOk (D + E)) : LQ (F * G) (mn1 (D + E)) := by
 have a1 := ha.f1
 have a2 := ha.d0
 have b1 := hb.f1
 have b2 := hb.d0
 refine ⟨h1, mn1_ok h2, ?_, mn1_nn (by grind), mn1_le⟩
 have h := Rat.mul_nonneg (show 0 ≤ F - 1 by grind) (show 0 ≤ G - 1 by grind)
 have e : (F - 1) * (G - 1) = F * G - F - G + 1 := by grind
 rw [e] at h
 grind
end
section
open Go.RowKit NV
end
section
open Go.RowKit NV
end
end Go.Proofs.YtkponlbpgmnpgaaGreatDoor
