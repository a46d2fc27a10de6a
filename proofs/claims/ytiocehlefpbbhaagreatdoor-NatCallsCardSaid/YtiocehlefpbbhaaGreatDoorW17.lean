/-
  The contract of takeOut.
-/
import Derived.Test.YtiocehlefpbbhaaGreatDoorW16
import Derived.Deep.QuietTactic
import Derived.BigQuiet
namespace Go.Proofs.YtiocehlefpbbhaaGreatDoor
open Go.RowKit NV

theorem leB_yes {a b : Nat} (h : a ≤ b) : leB a b = true := by simp [leB, h]
theorem leB_no {a b : Nat} (h : ¬ a ≤ b) : leB a b = false := by simp [leB]; omega

theorem nat_prod (a b m n : Nat) (ha : a ≤ m) (hb : b ≤ n) : 0 ≤ (a : Int) * (b : Int) ∧ (a : Int) * (b : Int) ≤ ((m * n : Nat) : Int) ∧ (a : Int) * (b : Int) = ((a * b : Nat) : Int) := by
  have : a * b ≤ m * n := Nat.mul_le_mul ha hb
  have e : (a : Int) * (b : Int) = ((a * b : Nat) : Int) := by simp
  rw [e]; omega

theorem Num.kept {w w' : World} {yb yc L v g R : Nat} (h : Num w (.slice (some ⟨yb, 0, none⟩) L yc) v) (hk : Kept g R w w') (hR : yb < R) (hg : yb ≠ g) : Num w' (.slice (some ⟨yb, 0, none⟩) L yc) v := by
  obtain ⟨a', c', h', h | ⟨b', rfl, h1, h2, h3⟩⟩ := h
  · rw [h.2.1] at h'; simp at h'
  · simp only [Value.slice.injEq, Option.some.injEq, Addr.mk.injEq, and_true] at h'
    obtain ⟨rfl, rfl, rfl⟩ := h'
    exact ⟨_, yc, rfl, .inr ⟨yb, rfl, Nat.lt_of_lt_of_le h1 hk.size, h2, fun j hj => (hk.cell (p := ⟨yb, j, none⟩) hR hg).trans (h3 j hj)⟩⟩

theorem ovr_fin1 {f : Nat → Nat} {i n R : Nat} (hR : R < B ^ (n + 2)) (j : Nat) : upd (ovr f i (n + 2) R) (i + (n + 2)) 0 j = ovr f i (n + 3) R j := by
  have := ovr_next (f := f) (i := i) (k := n + 2) (S := R) (x := 0) (dg_big hR).symm
  rw [this]

theorem ovr_fin2 {f : Nat → Nat} {i n R S D : Nat} (hR : R < B ^ (n + 2)) (hS : S = R + B ^ (n + 2)) (j : Nat) : ovr (upd (ovr f i (n + 2) D) (i + (n + 2)) 0) i (n + 2) S j = ovr f i (n + 3) R j := by
  unfold ovr upd
  by_cases h1 : i ≤ j ∧ j < i + (n + 2)
  · rw [if_pos h1, if_pos (by omega), hS]
    have := dg_add_mul (a := R) (b := 1) (k := n + 2) (j := j - i) (by omega)
    rw [Nat.mul_one] at this
    exact this
  · rw [if_neg h1]
    by_cases h2 : j = i + (n + 2)
    · rw [if_pos h2, if_pos (by omega), h2, Nat.add_sub_cancel_left, dg_big hR]
    · rw [if_neg h2]
      show (if i ≤ j ∧ j < i + (n + 2) then dg D (j - i) else f j) = _
      rw [if_neg h1, if_neg (by omega)]

set_option maxHeartbeats 6400000 in
set_option maxRecDepth 100000 in
/-- takeOut takes the divisor out of the places from i on as often as that goes. -/
theorem takeOut_any {w : World} {g N i n c X v yb yc : Nat} {f : Nat → Nat} (har : Arr w g N f) (hN : N ≤ 2000000) (hin : i + (n + 2) + 1 ≤ N)
    (hfx : ∀ j, j ≤ n + 2 → f (i + j) = dg X j) (hy : Num w (.slice (some ⟨yb, 0, none⟩) (n + 2) yc) v) (hn : n + 2 = ln v) (hyg : yb ≠ g) (hh : 500000000 ≤ dg v (n + 1)) (hX : X < 1000000000 * v) :
    Calls Tryz.prog 62 #[.slice (some ⟨g, i, none⟩) (n + 2 + 1) c, .slice (some ⟨yb, 0, none⟩) (n + 2) yc] w fun e w' =>
      e = .returned (.int .u64 ((X / v : Nat) : Int)) ∧ Arr w' g N (ovr f i (n + 3) (X % v)) ∧ Kept g w.heap.size w w' := by
  have hv : v < B ^ (n + 2) := by rw [hn]; exact lt_pow_ln v
  have hv0 : 0 < v := by
    by_cases h : v = 0
    · subst h; rw [ln_zero] at hn; omega
    · omega
  have hX3 : X < B ^ (n + 2 + 1) := by
    rw [pow_succ, Nat.mul_comm, B_eq]
    rw [B_eq] at hv
    exact Nat.lt_of_lt_of_le hX (Nat.mul_le_mul_left _ (Nat.le_of_lt hv))
  have hfx0 := hfx n (by omega)
  have hfx1 := hfx (n + 1) (by omega)
  have hfx2 := hfx (n + 2) (by omega)
  have c0 := har.cell (j := i + n) (by omega)
  have c1 := har.cell (j := i + (n + 1)) (by omega)
  have c2 := har.cell (j := i + (n + 2)) (by omega)
  rw [hfx0] at c0
  rw [hfx1] at c1
  rw [hfx2] at c2
  have d1 := hy.cell (j := n + 1) (by omega)
  have d0 := hy.cell (j := n) (by omega)
  have htop : X / B ^ (n + 1) = dg X (n + 2) * 1000000000 + dg X (n + 1) := by
    rw [next_limb X (n + 1)]
    congr 2
    rw [dg, Nat.mod_eq_of_lt ((Nat.div_lt_iff_lt_mul (pow_pos _)).2 (by rw [Nat.mul_comm, ← pow_succ]; exact hX3))]
  have hst := Gs.start hv hh hX hv0
  rw [htop] at hst
  have b0 := dg_lt X n
  have b1 := dg_lt X (n + 1)
  have b2 := dg_lt X (n + 2)
  have e1 := dg_lt v (n + 1)
  have e0 := dg_lt v n
  have hgl := har.lt
  have hybw : yb < w.heap.size := hy.blt
  have hr0 : (dg X (n + 2) * 1000000000 + dg X (n + 1)) % dg v (n + 1) < 1000000000 := by
    have := Nat.mod_lt (dg X (n + 2) * 1000000000 + dg X (n + 1)) (show 0 < dg v (n + 1) by omega); omega
  obtain ⟨T, hT⟩ : ∃ T : Nat, T = dg X (n + 2) * 1000000000 + dg X (n + 1) := ⟨_, rfl⟩
  rw [← hT] at hst hr0
  have hTc : ((dg X (n + 2) : Nat) : Int) * 1000000000 + ((dg X (n + 1) : Nat) : Int) = (T : Int) := by omega
  have HQ1 := Lib.hid (show (((dg X (n + 2) : Nat) : Int) * 1000000000 + ((dg X (n + 1) : Nat) : Int)) / ((dg v (n + 1) : Nat) : Int) = ((T / dg v (n + 1) : Nat) : Int) by rw [hTc, Int.natCast_ediv])
  have HQ2 := Lib.hid (show (((dg X (n + 2) : Nat) : Int) * 1000000000 + ((dg X (n + 1) : Nat) : Int)) % ((dg v (n + 1) : Nat) : Int) = ((T % dg v (n + 1) : Nat) : Int) by rw [hTc, Int.natCast_emod])
  have HST := Lib.hid (show Gs X v n (T / dg v (n + 1)) (T % dg v (n + 1)) ∧ T % dg v (n + 1) < 2000000000 from ⟨hst, by omega⟩)
  have HV := Lib.hid hv
  have HV0 := Lib.hid hv0
  have HX := Lib.hid hX
  have HX3 := Lib.hid hX3
  have HN := Lib.hid hn
  have HY := Lib.hid hy
  have HFX := Lib.hid hfx
  have HARR := Lib.hid har
  clear hT hTc hst hv hv0 hX hX3 hn hy hfx har htop hfx0 hfx1 hfx2 hr0
  go_enter Tryz.func62, Tryz.ntmps62
  go_wp2_with fail
  go_quiet (fail)
  go_wp2_with fail
  go_quiet (fail)
  go_wp2_with fail
  go_loopw [7, 8] (fun s7 s8 wr => ∃ gq r : Nat, s7 = .int .u64 (gq : Int) ∧ s8 = .int .u64 (r : Int) ∧ Gs X v n gq r ∧ r < 2000000000 ∧ Below w.heap.size w wr) (fun s7 _ _ => (intOf s7).toNat)
  case atStart => exact ⟨T / dg v (n + 1), T % dg v (n + 1), by rw [HQ1.out], by rw [HQ2.out], HST.out.1, HST.out.2, below_drewN (below_drewN (Below.refl _ _) _) _⟩
  case round =>
    obtain ⟨gq, r, rfl, rfl, hgs, hr, hbr⟩ := hrel
    clear HST HQ1 HQ2 c0 c1 c2 d0 d1
    have harr := HARR.out.below hbr hgl
    have hyr := HY.out.below hbr
    have hfxo := HFX.out
    have c0 := harr.cell (j := i + n) (by omega)
    rw [hfxo n (by omega)] at c0
    have d1 := hyr.cell (j := n + 1) (by rw [← HN.out]; omega)
    have d0 := hyr.cell (j := n) (by rw [← HN.out]; omega)
    have hgh := hgs.high
    have HG := Lib.hid hgs
    clear hfxo hyr hgs
    by_cases hrB : 1000000000 ≤ r
    · have hd1 : decide ((r : Int) < 1000000000) = false := by simp; omega
      have HD := Lib.hid (HG.out.done HV.out hh HX.out HV0.out (.inl hrB))
      as_aux_lemma =>
        go_wp2_with fail
        go_quiet (fail)
        go_wp2_with fail
        have hs := subtract_any (c := c) (w := wr.drewN nq) (x := X) (v := v) (fc := gq) (show Arr (wr.drewN nq) g N f from HARR.out.below (below_drewN hbr nq) hgl) hN hin HFX.out (show Num (wr.drewN nq) (.slice (some ⟨yb, 0, none⟩) (n + 2) yc) v from HY.out.below (below_drewN hbr nq)) HN.out hyg HD.out.1
        refine hs.mono ?_
        rintro e w5 ⟨D, br, rfl, hD, he, har5, hk5⟩
        have hte := take_end HV.out HX3.out HV0.out hD he HG.out.low HD.out.2
        have hXv := Nat.lt_trans (Nat.mod_lt X HV0.out) HV.out
        have hkw : Kept g w.heap.size w w5 := (show Kept g w.heap.size w (wr.drewN nq) from ⟨hbr.os, hbr.tape, hbr.output, hbr.size, fun k h1 _ => hbr.block k h1⟩).trans ⟨hk5.os, hk5.tape, hk5.output, hk5.size, fun k h1 h2 => hk5.block k (Nat.lt_of_lt_of_le h1 hbr.size) h2⟩
        have HKW := Lib.hid hkw
        have HD5 := Lib.hid hD
        clear hs he hk5 hD hkw
        by_cases hle : br ≤ dg X (n + 2)
        · have hlb := leB_yes hle
          obtain ⟨hf, hdd⟩ := hte.1 hle
          have HF := Lib.hid hf
          have HFIN := Lib.hid (show Arr w5 g N (ovr f i (n + 3) (X % v)) from har5.congr (fun j _ => by rw [hdd]; exact ovr_fin1 hXv j))
          clear hte hf hdd har5 hle hXv
          go_wp2_with fail
          go_ret
          exact ⟨ret_int (by rw [← HF.out]), HFIN.out, HKW.out⟩
        · have hlb := leB_no hle
          obtain ⟨hf, hdd⟩ := hte.2 hle
          have hyb5 : Num w5 (.slice (some ⟨yb, 0, none⟩) (n + 2) yc) v := HY.out.kept HKW.out hybw hyg
          have hadd := addBack_any (c := c) (x := D) har5 hN hin (fun j hj => by rw [upd_other (by omega), ovr, if_pos (by omega), Nat.add_sub_cancel_left]) hyb5 HN.out hyg
          have HF := Lib.hid hf
          have HDD := Lib.hid hdd
          have HXV := Lib.hid hXv
          have HADD := Lib.hid hadd
          have hg0 : 1 ≤ gq := by rw [hf]; exact Nat.succ_le_succ (Nat.zero_le _)
          have hg1 : (1 : Int) ≤ (gq : Int) := by omega
          clear hte hf hdd hle hXv hadd hyb5 har5
          go_wp2_with fail
          refine HADD.out.mono ?_
          rintro e w6 ⟨rfl, har6, hk6⟩
          have HFIN := Lib.hid (show Arr w6 g N (ovr f i (n + 3) (X % v)) from har6.congr (fun j _ => ovr_fin2 HXV.out HDD.out j))
          have HK6 := Lib.hid (show Kept g w.heap.size w w6 from HKW.out.trans ⟨hk6.os, hk6.tape, hk6.output, hk6.size, fun k h1 h2 => hk6.block k (Nat.lt_of_lt_of_le h1 HKW.out.size) h2⟩)
          clear har6 hk6 HADD
          go_wp2_with fail
          go_ret
          exact ⟨ret_int (by have := HF.out; omega), HFIN.out, HK6.out⟩
    · have hd1 : decide ((r : Int) < 1000000000) = true := by simp; omega
      have hr2 : (r : Int) < 1000000000 := by omega
      by_cases hgB : 1000000000 ≤ gq
      · have hd2 : decide ((1000000000 : Int) ≤ (gq : Int)) = true := by simp; omega
        have hlow := HG.out.less HV.out HX.out HV0.out (.inl hgB)
        have HNX := Lib.hid (HG.out.next hlow)
        have hg1 : 1 ≤ gq := Nat.lt_of_le_of_lt (Nat.zero_le _) hlow
        clear hlow
        as_aux_lemma =>
          go_wp2_with fail
          go_quiet (fail)
          go_wp2_with fail
          go_roundw
          case rel => exact ⟨gq - 1, r + dg v (n + 1), congrArg (Value.int .u64) (by omega), congrArg (Value.int .u64) (by omega), HNX.out, by omega, below_drewN hbr _⟩
          case measure => simp [intOf]; omega
      · have hd2 : decide ((1000000000 : Int) ≤ (gq : Int)) = false := by simp; omega
        obtain ⟨p1, p2, p3⟩ := nat_prod gq (dg v n) 1000000000 1000000000 (by omega) (by omega)
        have HP := Lib.hid p3
        have hgB2 : (gq : Int) < 1000000000 := by omega
        clear p3
        by_cases ht : r * 1000000000 + dg X n < gq * dg v n
        · have hlow := HG.out.less HV.out HX.out HV0.out (.inr ht)
          have HNX := Lib.hid (HG.out.next hlow)
          have hg1 : 1 ≤ gq := Nat.lt_of_le_of_lt (Nat.zero_le _) hlow
          have hd3 : decide ((r : Int) * 1000000000 + ((dg X n : Nat) : Int) < (gq : Int) * ((dg v n : Nat) : Int)) = true := by rw [HP.out]; simp; omega
          clear hlow ht
          as_aux_lemma =>
            go_wp2_with fail
            go_quiet (fail)
            go_wp2_with fail
            go_roundw
            case rel => exact ⟨gq - 1, r + dg v (n + 1), congrArg (Value.int .u64) (by omega), congrArg (Value.int .u64) (by omega), HNX.out, by omega, below_drewN hbr _⟩
            case measure => simp [intOf]; omega
        · have HD := Lib.hid (HG.out.done HV.out hh HX.out HV0.out (.inr ⟨by omega, by omega⟩))
          have hd3 : decide ((r : Int) * 1000000000 + ((dg X n : Nat) : Int) < (gq : Int) * ((dg v n : Nat) : Int)) = false := by rw [HP.out]; simp; omega
          clear ht
          as_aux_lemma =>
            go_wp2_with fail
            go_quiet (fail)
            go_wp2_with fail
            have hs := subtract_any (c := c) (w := wr.drewN nq) (x := X) (v := v) (fc := gq) (show Arr (wr.drewN nq) g N f from HARR.out.below (below_drewN hbr nq) hgl) hN hin HFX.out (show Num (wr.drewN nq) (.slice (some ⟨yb, 0, none⟩) (n + 2) yc) v from HY.out.below (below_drewN hbr nq)) HN.out hyg HD.out.1
            refine hs.mono ?_
            rintro e w5 ⟨D, br, rfl, hD, he, har5, hk5⟩
            have hte := take_end HV.out HX3.out HV0.out hD he HG.out.low HD.out.2
            have hXv := Nat.lt_trans (Nat.mod_lt X HV0.out) HV.out
            have hkw : Kept g w.heap.size w w5 := (show Kept g w.heap.size w (wr.drewN nq) from ⟨hbr.os, hbr.tape, hbr.output, hbr.size, fun k h1 _ => hbr.block k h1⟩).trans ⟨hk5.os, hk5.tape, hk5.output, hk5.size, fun k h1 h2 => hk5.block k (Nat.lt_of_lt_of_le h1 hbr.size) h2⟩
            have HKW := Lib.hid hkw
            have HD5 := Lib.hid hD
            clear hs he hk5 hD hkw
            by_cases hle : br ≤ dg X (n + 2)
            · have hlb := leB_yes hle
              obtain ⟨hf, hdd⟩ := hte.1 hle
              have HF := Lib.hid hf
              have HFIN := Lib.hid (show Arr w5 g N (ovr f i (n + 3) (X % v)) from har5.congr (fun j _ => by rw [hdd]; exact ovr_fin1 hXv j))
              clear hte hf hdd har5 hle hXv
              go_wp2_with fail
              go_ret
              exact ⟨ret_int (by rw [← HF.out]), HFIN.out, HKW.out⟩
            · have hlb := leB_no hle
              obtain ⟨hf, hdd⟩ := hte.2 hle
              have hyb5 : Num w5 (.slice (some ⟨yb, 0, none⟩) (n + 2) yc) v := HY.out.kept HKW.out hybw hyg
              have hadd := addBack_any (c := c) (x := D) har5 hN hin (fun j hj => by rw [upd_other (by omega), ovr, if_pos (by omega), Nat.add_sub_cancel_left]) hyb5 HN.out hyg
              have HF := Lib.hid hf
              have HDD := Lib.hid hdd
              have HXV := Lib.hid hXv
              have HADD := Lib.hid hadd
              have hg0 : 1 ≤ gq := by rw [hf]; exact Nat.succ_le_succ (Nat.zero_le _)
              have hg1 : (1 : Int) ≤ (gq : Int) := by omega
              clear hte hf hdd hle hXv hadd hyb5 har5
              go_wp2_with fail
              refine HADD.out.mono ?_
              rintro e w6 ⟨rfl, har6, hk6⟩
              have HFIN := Lib.hid (show Arr w6 g N (ovr f i (n + 3) (X % v)) from har6.congr (fun j _ => ovr_fin2 HXV.out HDD.out j))
              have HK6 := Lib.hid (show Kept g w.heap.size w w6 from HKW.out.trans ⟨hk6.os, hk6.tape, hk6.output, hk6.size, fun k h1 h2 => hk6.block k (Nat.lt_of_lt_of_le h1 HKW.out.size) h2⟩)
              clear har6 hk6 HADD
              go_wp2_with fail
              go_ret
              exact ⟨ret_int (by have := HF.out; omega), HFIN.out, HK6.out⟩

end Go.Proofs.YtiocehlefpbbhaaGreatDoor
