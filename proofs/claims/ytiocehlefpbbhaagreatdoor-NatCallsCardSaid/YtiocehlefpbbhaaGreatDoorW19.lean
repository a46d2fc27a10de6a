/-
  The contract of divide where the divisor has several limbs.
-/
import Derived.Test.YtiocehlefpbbhaaGreatDoorW18
namespace Go.Proofs.YtiocehlefpbbhaaGreatDoor
open Go.RowKit NV

set_option maxHeartbeats 3200000 in
set_option maxRecDepth 100000 in
theorem divide_many {w : World} {x y : Value} {a b n : Nat} (hx : Num w x a) (hy : Num w y b) (ha : ln a ≤ 1000000) (hb : ln b = n + 2) (hab : b ≤ a) :
    Calls Tryz.prog 39 #[x, y] w fun e w' => ∃ q r, e = .returned (.tuple #[q, r]) ∧ Own w' w.heap.size q (a / b) ∧ Own w' w.heap.size r (a % b) ∧ Below w.heap.size w w' := by
  obtain ⟨i0, hi, hz0, hz1, hz2⟩ := info_parts info72
  have hl := ncmp_any hx hy (by omega) (by have := ln_mono hab; omega)
  have hhigh := cmpN_high hab
  obtain ⟨d, hd⟩ : ∃ d, d = 1000000000 / (dg b (n + 1) + 1) := ⟨_, rfl⟩
  have hba := ln_mono hab
  obtain ⟨Q, hQ⟩ : ∃ Q, Q + (n + 1) = ln a := ⟨ln a - (n + 1), by omega⟩
  have hs := sets hb hab hd hQ
  obtain ⟨u, hu⟩ : ∃ u, u = a * d := ⟨_, rfl⟩
  obtain ⟨v, hv⟩ : ∃ v, v = b * d := ⟨_, rfl⟩
  have hd1 := hs.d1
  have hd2 := hs.d2
  have hlv := hs.lnv
  have hhalf := hs.half
  have hstart := hs.start
  have hquo := hs.quo
  have hrest := hs.rest
  have hsmall := hs.small
  have hwide := hs.wide
  rw [← hu, ← hv] at hstart hquo hrest
  rw [← hv] at hlv hhalf
  rw [← hu] at hwide
  have hdd : (1000000000 : Int) / (((dg b (n + 1) : Nat) : Int) + 1) = (d : Int) := by rw [hd]; simp
  have htl := dg_lt b (n + 1)
  obtain ⟨xb, xc, rfl, hxb, _⟩ := slice_form hx (by omega)
  obtain ⟨yb, yc, rfl, hyb, _⟩ := slice_form hy (by omega)
  have hbn : n + 2 ≤ ln b := by omega
  have hbn2 : ln b ≤ 1000000 := by omega
  have hQa : Q ≤ ln a := by omega
  have hQ2 : (ln a : Int) - ((n : Int) + 2) + 1 = (Q : Int) := by omega
  have HL := Lib.hid hl
  rw [hb] at HL ⊢
  have HX := Lib.hid hx
  have HY := Lib.hid hy
  have HU := Lib.hid hu
  have HV := Lib.hid hv
  have HLV := Lib.hid hlv
  have HST := Lib.hid hstart
  have HQU := Lib.hid hquo
  have HRE := Lib.hid hrest
  have HSM := Lib.hid hsmall
  have HWI := Lib.hid hwide
  have HB := Lib.hid hb
  have HQ2 := Lib.hid hQ2
  clear hx hy hu hv hlv hstart hquo hrest hsmall hwide hs hd hl hb hQ hQ2
  go_enter Tryz.func39, Tryz.ntmps39
  go_wp2_with fail
  refine HL.out.mono ?_
  rintro e w1 ⟨rfl, hb1⟩
  have hx1 := HX.out.below hb1
  have hy1 := HY.out.below hb1
  have c0 := hy1.cell (j := n + 1) (by omega)
  have HB1 := Lib.hid hb1
  have hsc1 := scaled_any hx1 ha hd2
  rw [← HU.out] at hsc1
  obtain ⟨g1, hg1⟩ : ∃ g1, g1 = w1.heap.size := ⟨_, rfl⟩
  rw [← hg1] at hsc1
  have HG1 := Lib.hid hg1
  have HS1 := Lib.hid hsc1
  have HY1 := Lib.hid hy1
  clear hb1 hx1 hy1 hsc1 hg1 HL
  go_wp2_with fail
  refine HS1.out.mono ?_
  rintro e w2 ⟨rfl, har2, hb2⟩
  have hy2 := HY1.out.below (by rw [← HG1.out]; exact hb2)
  have hsc2 := scaled_any hy2 hbn2 hd2
  rw [← HV.out, HB.out] at hsc2
  obtain ⟨g2, hg2⟩ : ∃ g2, g2 = w2.heap.size := ⟨_, rfl⟩
  rw [← hg2] at hsc2
  have HG2 := Lib.hid hg2
  have hg12 : g1 < g2 := by rw [hg2]; exact har2.lt
  have HAR2 := Lib.hid har2
  have HB2 := Lib.hid hb2
  have HS2 := Lib.hid hsc2
  clear har2 hb2 hy2 hsc2 hg2 HS1 HY1 c0
  go_wp2_with fail
  refine HS2.out.mono ?_
  rintro e w3 ⟨rfl, har3, hb3⟩
  have hb3' : Below w2.heap.size w2 w3 := by rw [← HG2.out]; exact hb3
  have hvlt : v < B ^ (n + 2 + 1) := by
    have := lt_pow_ln v
    rw [HLV.out] at this
    exact Nat.lt_trans this (by rw [pow_succ (n + 2), B_eq]; have := pow_pos (n + 2); rw [B_eq] at this; omega)
  have htr := trim_any (w := w3) (b := g2) (c := n + 2 + 1) (L := n + 2 + 1) (n := v) (by omega) (Nat.le_refl _) hvlt (fun j hj => har3.cell hj)
  rw [HLV.out] at htr
  have hdv : Num w3 (.slice (some ⟨g2, 0, none⟩) (n + 2) (n + 2 + 1)) v := by
    have := (har3.own (base := 0) (n := v) (Nat.zero_le _) (by omega) (by rw [HLV.out]; omega) (fun j _ => rfl)).num
    rwa [HLV.out] at this
  have har1 : Arr w3 g1 (ln a + 1) (dg u) := HAR2.out.below hb3' HAR2.out.lt
  have hgl3 := har3.lt
  have HB3 := Lib.hid (HB1.out.trans ((HB2.out.trans (hb3.mono (Nat.le_of_lt hg12))).mono (by rw [HG1.out]; exact HB1.out.size)))
  have hsz3 := HB3.out.size
  have HTR := Lib.hid htr
  have HDV := Lib.hid hdv
  have HAR1 := Lib.hid har1
  clear har3 hb3 hb3' hvlt htr hdv har1 HAR2 HB2 HS2
  go_wp2_with fail
  refine HTR.out.mono ?_
  rintro e w4 ⟨rfl, rfl⟩
  obtain ⟨g3, hg3⟩ : ∃ g3, g3 = w3.heap.size := ⟨_, rfl⟩
  have HG3 := Lib.hid hg3
  have hg23 : g2 < g3 := by rw [hg3]; exact hgl3
  clear hg3
  go_wp2_with (at_make; refine wpList_make_full _ rfl _ _ 40 rfl w3.heap.size 65 i0 (.int .u64 0) 1 Tryz.underlying40 hi hz0 hz1 _ _ _ _ Q rfl rfl HQ2.out HQ2.out (by rw [hz2]; omega) (by unfold maxLen; omega) (Nat.le_refl _) ?_)
  intro w5 hown5 hgrow5
  have harq : Arr w5 w3.heap.size Q (fun _ => 0) := Arr.made (base := w3.heap.size) (by rw [Nat.mul_one]; exact hown5)
  rw [← HG3.out] at harq
  have hb5 : Below w3.heap.size w3 w5 := (Below.refl _ _).grown hgrow5 (by simp) (fun k hk => by cases hk)
  have HARQ := Lib.hid harq
  have HAR5 := Lib.hid (HAR1.out.below hb5 HAR1.out.lt)
  have HDV5 := Lib.hid (HDV.out.below hb5)
  have HB5 := Lib.hid (HB3.out.trans (hb5.mono HB3.out.size))
  rw [← HG3.out] at hown5
  rw [← HG3.out]
  clear hown5 hgrow5 harq hb5 HAR1 HDV HTR
  go_wp2_with fail
  have hQn : Q + (n + 1) = ln a := by have := HQ2.out; omega
  have hQn1 : Q + (n + 1) ≤ ln a := by omega
  have hQn2 : ln a ≤ Q + (n + 1) := by omega
  clear hQn
  go_loopw [10] (fun s10 wr => ∃ k : Nat, k ≤ Q ∧ s10 = .int .i64 ((k : Int) - 1) ∧ Arr wr g1 (ln a + 1) (dg (u % (v * B ^ k))) ∧ Arr wr g3 Q (dgu (u / v) k) ∧ Num wr (.slice (some ⟨g2, 0, none⟩) (n + 2) (n + 2 + 1)) v ∧ Below w.heap.size w wr) (fun s10 _ => ((intOf s10) + 1).toNat)
  case atStart => exact ⟨Q, Nat.le_refl _, rfl, by rw [Nat.mod_eq_of_lt HST.out]; exact HAR5.out, HARQ.out.congr (fun j hj => by rw [dgu, if_neg (by omega)]), HDV5.out, HB5.out⟩
  case round =>
    obtain ⟨k, hk, rfl, har, haq, hdv, hbr⟩ := hrel
    have HAR := Lib.hid har
    have HAQ := Lib.hid haq
    have HDV := Lib.hid hdv
    have HBR := Lib.hid hbr
    have hwg : w.heap.size ≤ g1 := by rw [HG1.out]; exact HB1.out.size
    clear HAR5 HARQ HDV5 HB5 har haq hdv hbr
    have hv0 : 0 < v := by
      by_cases h : v = 0
      · have := HLV.out; rw [h, ln_zero] at this; omega
      · omega
    have HV0 := Lib.hid hv0
    clear hv0
    by_cases hk0 : 0 < k
    · obtain ⟨q, rfl⟩ : ∃ q, k = q + 1 := ⟨k - 1, by omega⟩
      have hto := takeOut_any (w := wr) (g := g1) (N := ln a + 1) (i := q) (n := n) (c := ln a + 1 - q) (X := u % (v * B ^ (q + 1)) / B ^ q) (v := v) (yb := g2) (yc := n + 2 + 1) HAR.out (by omega) (by omega) (fun j _ => by rw [dg_shift]) HDV.out HLV.out.symm (by omega) hhalf (left_lt HV0.out)
      have hls := left_step u v q HV0.out
      have c1 := HAQ.out.cell (j := q) (by omega)
      have c2 := HAQ.out.free q
      rw [hls.2.1] at hto
      have HTO := Lib.hid hto
      have HLS := Lib.hid hls
      clear hto hls
      go_wp2_with fail
      rw [show q + (n + 2) + 1 - q = n + 2 + 1 by omega]
      refine HTO.out.mono ?_
      rintro e w6 ⟨rfl, har6, hk6⟩
      have hg3l : g3 < wr.heap.size := HAQ.out.lt
      have haq6 := HAQ.out.kept hk6 hg3l (by omega)
      have hdv6 := HDV.out.kept hk6 (by omega) (by omega)
      have har6' : Arr w6 g1 (ln a + 1) (dg (u % (v * B ^ q))) := har6.congr (fun j _ => row_round (n := n) HV0.out (by have := lt_pow_ln v; rwa [HLV.out] at this) j)
      have hb6 := HBR.out.trans (hk6.below hwg HBR.out.size)
      have c1 := haq6.cell (j := q) (by omega)
      have c2 := haq6.free q
      have haq7 := haq6.store q (dg (u / v) q)
      rw [dgu_step rfl] at haq7
      have har7 := har6'.other (a := ⟨g3, q, none⟩) (show g1 ≠ g3 by omega) (.int .u64 ((dg (u / v) q : Nat) : Int))
      have hdv7 := hdv6.kept ((Kept.refl g3 (g3 + 1) w6).setCell (p := ⟨g3, q, none⟩) (.inl rfl) (.int .u64 ((dg (u / v) q : Nat) : Int))) (by omega) (by omega)
      have hb7 := hb6.setCell (p := ⟨g3, q, none⟩) (show w.heap.size ≤ g3 by omega) (.int .u64 ((dg (u / v) q : Nat) : Int))
      have HF := Lib.hid (And.intro har7 (And.intro haq7 (And.intro hdv7 hb7)))
      clear har6 hk6 haq6 hdv6 har6' hb6 haq7 har7 hdv7 hb7 HTO
      go_wp2_with fail
      go_roundw
      case rel => exact ⟨q, by omega, by go_num, HF.out.1, HF.out.2.1, HF.out.2.2.1, HF.out.2.2.2⟩
      case measure => simp [intOf]
    · obtain rfl : k = 0 := by omega
      obtain ⟨R, hR⟩ : ∃ R, R = u % v := ⟨_, rfl⟩
      have hRu : R < B ^ (ln a + 1) := Nat.lt_of_le_of_lt (by rw [hR]; exact Nat.mod_le _ _) HWI.out
      have har0 : Arr wr g1 (ln a + 1) (dg R) := by
        have := HAR.out
        rw [Nat.pow_zero, Nat.mul_one, ← hR] at this
        exact this
      have htr := trim_any (w := wr) (b := g1) (c := ln a + 1) (L := ln a + 1) (n := R) (by omega) (Nat.le_refl _) hRu (fun j hj => har0.cell hj)
      have hnr := (har0.own (base := 0) (Nat.zero_le _) (by omega) (ln_le hRu) (fun j _ => rfl)).num
      have hds := divideSmall_any hnr (by have h9 := ln_mono (Nat.le_of_lt (show R < v by rw [hR]; exact Nat.mod_lt _ HV0.out)); rw [HLV.out] at h9; omega) hd1 (show d < 1000000000 by omega)
      have hrd : R / d = a % b := by rw [hR]; exact HRE.out
      rw [hrd] at hds
      have HTR := Lib.hid htr
      have HDS := Lib.hid hds
      have hquo0 : u / v = a / b := HQU.out
      have hq0 : Arr wr g3 Q (dg (a / b)) := by
        rw [← hquo0]
        exact HAQ.out.congr (fun j _ => by rw [dgu, if_pos (Nat.zero_le _)])
      have HQ0 := Lib.hid hq0
      have hw3 : w.heap.size ≤ g3 := by omega
      clear hR hRu har0 htr hnr hds hrd hquo0 hq0
      go_wp2_with fail
      refine HTR.out.mono ?_
      rintro e w6 ⟨rfl, rfl⟩
      go_wp2_with fail
      refine HDS.out.mono ?_
      rintro e w7 ⟨rv, rfl, hrv, hb7⟩
      obtain ⟨rg, rc, rfl⟩ := hrv.1
      have hq7 := HQ0.out.below hb7 HQ0.out.lt
      have htq := trim_any (w := w7) (b := g3) (c := Q) (L := Q) (n := a / b) (by omega) (Nat.le_refl _) HSM.out (fun j hj => hq7.cell hj)
      have HTQ := Lib.hid htq
      have HF := Lib.hid (And.intro (hq7.own hw3 (by omega) (ln_le HSM.out) (fun j _ => rfl)) (And.intro (hrv.mono HBR.out.size) (HBR.out.trans (hb7.mono HBR.out.size))))
      clear hrv hb7 hq7 htq HDS
      go_wp2_with fail
      refine HTQ.out.mono ?_
      rintro e w8 ⟨rfl, rfl⟩
      go_wp2_with fail
      go_ret2
      exact ⟨_, _, rfl, HF.out.1, HF.out.2.1, HF.out.2.2⟩

end Go.Proofs.YtiocehlefpbbhaaGreatDoor
