/-
  Merged of I8, I9, I10, I11.
-/
import Derived.Test.YtiocehlefpbbhaaGreatDoorKA
import Derived.Test.YtiocehlefpbbhaaGreatDoorW17
import Derived.Deep.Cut
import Derived.Deep.CutRange
import Derived.Deep.CutBlock
import Derived.Test.YtiocehlefpbbhaaGreatDoorM5
namespace Go.Proofs.YtiocehlefpbbhaaGreatDoor
open Go.RowKit NV

/-- Block g is a row of N ints, the j-th being f j. -/
def ZArr (w : World) (g N : Nat) (f : Nat → Int) : Prop :=
  ∃ cur, w.heap[g]? = some (.cells cur 3 (0, 0)) ∧ cur.size = N ∧ ∀ j, j < N → cur[j]? = some (.int .i64 (f j))

theorem ZArr.cell {w : World} {g N : Nat} {f : Nat → Int} (h : ZArr w g N f) {j : Nat} (hj : j < N) : w.cell? ⟨g, j, none⟩ = some (.int .i64 (f j)) := by
  obtain ⟨cur, h1, h2, h3⟩ := h
  rw [cell_of_row w g j cur _ _ h1]
  exact h3 j hj
theorem ZArr.free {w : World} {g N : Nat} {f : Nat → Int} (h : ZArr w g N f) (j : Nat) : w.frozen? ⟨g, j, none⟩ = false := by
  obtain ⟨cur, h1, h2, h3⟩ := h
  exact frozen_of_row w g j cur _ h1
theorem ZArr.store {w : World} {g N : Nat} {f f' : Nat → Int} (h : ZArr w g N f) (i : Nat) (x : Int) (h0 : f' i = x) (h1 : ∀ j, j < N → j ≠ i → f' j = f j) : ZArr (w.setCell ⟨g, i, none⟩ (.int .i64 x)) g N f' := by
  obtain ⟨cur, e1, e2, e3⟩ := h
  refine ⟨cur.setIfInBounds i (.int .i64 x), heap_setCell_same w g i cur _ _ e1, by simpa using e2, fun j hj => ?_⟩
  rw [Array.getElem?_setIfInBounds]
  by_cases e : i = j
  · subst e
    rw [if_pos rfl, if_pos (by omega), h0]
  · rw [if_neg e, h1 j hj (fun h => e h.symm)]
    exact e3 j hj
theorem IArr.z {w : World} {g N : Nat} {f : Nat → Nat} (h : IArr w g N f) : ZArr w g N (fun j => ((f j : Nat) : Int)) := h
theorem ZArr.i {w : World} {g N : Nat} {f : Nat → Int} {f' : Nat → Nat} (h : ZArr w g N f) (e : ∀ j, j < N → f j = ((f' j : Nat) : Int)) : IArr w g N f' := by
  obtain ⟨cur, h1, h2, h3⟩ := h
  exact ⟨cur, h1, h2, fun j hj => by rw [h3 j hj, e j hj]⟩

theorem INum.kept {w w' : World} {yb yc L v g R : Nat} (h : INum w (.slice (some ⟨yb, 0, none⟩) L yc) v) (hk : Kept g R w w') (hR : yb < R) (hg : yb ≠ g) : INum w' (.slice (some ⟨yb, 0, none⟩) L yc) v := by
  obtain ⟨a', c', h', h | ⟨b', rfl, h1, h2, h3⟩⟩ := h
  · rw [h.2.1] at h'; simp at h'
  · simp only [Value.slice.injEq, Option.some.injEq, Addr.mk.injEq, and_true] at h'
    obtain ⟨rfl, rfl, rfl⟩ := h'
    exact ⟨_, yc, rfl, .inr ⟨yb, rfl, Nat.lt_of_lt_of_le h1 hk.size, h2, fun j hj => (hk.cell (p := ⟨yb, j, none⟩) hR hg).trans (h3 j hj)⟩⟩

/-- The remainder that Go gives, made positive. -/
theorem go_rem (T x b : Int) (hx0 : 0 ≤ x) (hx1 : x < 1000000000) (h : x - T = 1000000000 * b) : Int.tmod T 1000000000 % 1000000000 = x ∧ Int.tdiv (x - T) 1000000000 = b := by
  refine ⟨?_, by rw [h]; exact Int.mul_tdiv_cancel_left _ (by omega)⟩
  by_cases h0 : 0 ≤ T
  · rw [Int.tmod_eq_emod_of_nonneg h0]; omega
  · obtain ⟨U, hU⟩ : ∃ U, T = -U := ⟨-T, by omega⟩
    rw [hU, Int.neg_tmod, Int.tmod_eq_emod_of_nonneg (by omega)]
    omega

theorem Kept.drew' {w wr : World} {g : Nat} (h : Kept g w.heap.size w wr) (q : Nat) : Kept g w.heap.size w (wr.drewN q) :=
  have hq := below_drewN (Below.refl wr.heap.size wr) q
  h.trans ⟨hq.os, hq.tape, hq.output, hq.size, fun k h1 _ => hq.block k (Nat.lt_of_lt_of_le h1 h.size)⟩

/-- The row while the divisor is added back: k places are done, the last one is -1. -/
def zb (f : Nat → Nat) (i n D v k : Nat) : Nat → Int := fun j => if j = i + (n + 2) then -1 else ((ovr (ovr f i (n + 2) D) i k (D + v) j : Nat) : Int)

theorem zb_here {f : Nat → Nat} {i n D v k : Nat} (hk : k < n + 2) : zb f i n D v k (i + k) = ((dg D k : Nat) : Int) := by
  rw [zb, if_neg (by omega), ovr_past (Nat.le_refl _), ovr, if_pos (by omega), Nat.add_sub_cancel_left]
theorem zb_last {f : Nat → Nat} {i n D v k : Nat} : zb f i n D v k (i + (n + 2)) = -1 := if_pos rfl
theorem zb_next {f : Nat → Nat} {i n D v k : Nat} (hk : k < n + 2) : zb f i n D v (k + 1) (i + k) = ((dg (D + v) k : Nat) : Int) ∧ ∀ j, j ≠ i + k → zb f i n D v (k + 1) j = zb f i n D v k j := by
  constructor
  · rw [zb, if_neg (by omega), ← ovr_next (S := D + v) (x := dg (D + v) k) rfl, upd_same]
  · intro j hj
    rw [zb, zb]
    by_cases e : j = i + (n + 2)
    · rw [if_pos e, if_pos e]
    · rw [if_neg e, if_neg e, ← ovr_next (S := D + v) (x := dg (D + v) k) rfl, upd_other hj]

theorem zb_end {f : Nat → Nat} {i n D v R : Nat} (hR : R < B ^ (n + 2)) (hS : D + v = R + B ^ (n + 2)) (j : Nat) : (if j = i + (n + 2) then (0 : Int) else zb f i n D v (n + 2) j) = ((ovr f i (n + 3) R j : Nat) : Int) := by
  by_cases e : j = i + (n + 2)
  · rw [if_pos e, ovr, if_pos (by omega), e, Nat.add_sub_cancel_left, dg_big hR]; rfl
  · rw [if_neg e, zb, if_neg e]
    congr 1
    unfold ovr
    by_cases h1 : i ≤ j ∧ j < i + (n + 2)
    · rw [if_pos h1, if_pos (by omega), hS]
      have := dg_add_mul (a := R) (b := 1) (k := n + 2) (j := j - i) (by omega)
      rw [Nat.mul_one] at this
      exact this
    · rw [if_neg h1, if_neg h1, if_neg (by omega)]

/-- What the row holds after the subtraction. -/
theorem take_last {X v f n D br : Nat} (hv : v < B ^ n) (hX : X < B ^ (n + 1)) (he : X % B ^ n + B ^ n * br = D + (v % B ^ n) * f) :
    (f = X / v → D = X % v → br = dg X n) ∧ (f = X / v + 1 → D + v = X % v + B ^ n → br = dg X n + 1) := by
  rw [Nat.mod_eq_of_lt hv] at he
  have h1 := mod_succ X n
  rw [Nat.mod_eq_of_lt hX] at h1
  have h2 := Nat.mod_add_div X v
  constructor
  · intro hf hD
    subst hf
    have h3 : B ^ n * br = B ^ n * dg X n := by omega
    exact Nat.eq_of_mul_eq_mul_left (pow_pos n) h3
  · intro hf hD
    subst hf
    rw [Nat.mul_add] at he
    have h3 : B ^ n * br = B ^ n * (dg X n + 1) := by rw [Nat.mul_add]; omega
    exact Nat.eq_of_mul_eq_mul_left (pow_pos n) h3

theorem ca_over {D v n : Nat} (hD : D < B ^ n) (hv : v < B ^ n) (h : B ^ n ≤ D + v) : ca D v n = 1 := by
  rw [ca, Nat.mod_eq_of_lt hD, Nat.mod_eq_of_lt hv]
  exact Nat.div_eq_of_lt_le (by omega) (by omega)

theorem kept_of_below {w w' : World} {g : Nat} (h : Below w.heap.size w w') : Kept g w.heap.size w w' := ⟨h.os, h.tape, h.output, h.size, fun k h1 _ => h.block k h1⟩

set_option maxHeartbeats 6400000 in
set_option maxRecDepth 100000 in
/-- step takes the divisor out of the places from i on as often as that goes. -/
theorem istep_any {w : World} {g N i n c X v yb yc : Nat} {f : Nat → Nat} (har : IArr w g N f) (hN : N ≤ 2000000) (hin : i + (n + 2) + 1 ≤ N)
    (hfx : ∀ j, j ≤ n + 2 → f (i + j) = dg X j) (hy : INum w (.slice (some ⟨yb, 0, none⟩) (n + 2) yc) v) (hn : n + 2 = ln v) (hyg : yb ≠ g) (hh : 500000000 ≤ dg v (n + 1)) (hX : X < 1000000000 * v) :
    Calls Tryz.prog 68 #[.slice (some ⟨g, i, none⟩) (n + 2 + 1) c, .slice (some ⟨yb, 0, none⟩) (n + 2) yc] w fun e w' =>
      e = .returned (.int .i64 ((X / v : Nat) : Int)) ∧ IArr w' g N (ovr f i (n + 3) (X % v)) ∧ Kept g w.heap.size w w' := by
  have hv : v < B ^ (n + 2) := by rw [hn]; exact lt_pow_ln v
  have hv0 : 0 < v := by
    by_cases h : v = 0
    · subst h; rw [ln_zero] at hn; omega
    · omega
  have hX3 : X < B ^ (n + 2 + 1) := by
    rw [pow_succ, Nat.mul_comm, B_eq]
    rw [B_eq] at hv
    exact Nat.lt_of_lt_of_le hX (Nat.mul_le_mul_left _ (Nat.le_of_lt hv))
  have hfx0 := hfx n (by omega)
  have hfx1 := hfx (n + 1) (by omega)
  have hfx2 := hfx (n + 2) (by omega)
  have c0 := har.cell (j := i + n) (by omega)
  have c1 := har.cell (j := i + (n + 1)) (by omega)
  have c2 := har.cell (j := i + (n + 2)) (by omega)
  rw [hfx0] at c0
  rw [hfx1] at c1
  rw [hfx2] at c2
  have d1 := hy.cell (j := n + 1) (by omega)
  have d0 := hy.cell (j := n) (by omega)
  have htop : X / B ^ (n + 1) = dg X (n + 2) * 1000000000 + dg X (n + 1) := by
    rw [next_limb X (n + 1)]
    congr 2
    rw [dg, Nat.mod_eq_of_lt ((Nat.div_lt_iff_lt_mul (pow_pos _)).2 (by rw [Nat.mul_comm, ← pow_succ]; exact hX3))]
  have hst := Gs.start hv hh hX hv0
  rw [htop] at hst
  have b0 := dg_lt X n
  have b1 := dg_lt X (n + 1)
  have b2 := dg_lt X (n + 2)
  have e1 := dg_lt v (n + 1)
  have e0 := dg_lt v n
  have hgl := har.lt
  have hybw : yb < w.heap.size := hy.blt
  have hr0 : (dg X (n + 2) * 1000000000 + dg X (n + 1)) % dg v (n + 1) < 1000000000 := by
    have := Nat.mod_lt (dg X (n + 2) * 1000000000 + dg X (n + 1)) (show 0 < dg v (n + 1) by omega); omega
  have hgh0 := hst.high
  obtain ⟨T, hT⟩ : ∃ T : Nat, T = dg X (n + 2) * 1000000000 + dg X (n + 1) := ⟨_, rfl⟩
  rw [← hT] at hst hr0 hgh0
  have hTc : ((dg X (n + 2) : Nat) : Int) * 1000000000 + ((dg X (n + 1) : Nat) : Int) = (T : Int) := by omega
  have HQ1 := Lib.hid (show (((dg X (n + 2) : Nat) : Int) * 1000000000 + ((dg X (n + 1) : Nat) : Int)) / ((dg v (n + 1) : Nat) : Int) = ((T / dg v (n + 1) : Nat) : Int) by rw [hTc, Int.natCast_ediv])
  have HQ2 := Lib.hid (show (((dg X (n + 2) : Nat) : Int) * 1000000000 + ((dg X (n + 1) : Nat) : Int)) % ((dg v (n + 1) : Nat) : Int) = ((T % dg v (n + 1) : Nat) : Int) by rw [hTc, Int.natCast_emod])
  have hqb : (((dg X (n + 2) : Nat) : Int) * 1000000000 + ((dg X (n + 1) : Nat) : Int)) / ((dg v (n + 1) : Nat) : Int) ≤ 1000000001 := by rw [HQ1.out]; omega
  have hqc : 0 ≤ (((dg X (n + 2) : Nat) : Int) * 1000000000 + ((dg X (n + 1) : Nat) : Int)) / ((dg v (n + 1) : Nat) : Int) := by rw [HQ1.out]; exact Int.natCast_nonneg _
  have HST := Lib.hid (show Gs X v n (T / dg v (n + 1)) (T % dg v (n + 1)) ∧ T % dg v (n + 1) < 2000000000 from ⟨hst, by omega⟩)
  have HV := Lib.hid hv
  have HV0 := Lib.hid hv0
  have HX := Lib.hid hX
  have HX3 := Lib.hid hX3
  have HN := Lib.hid hn
  have HY := Lib.hid hy
  have HFX := Lib.hid hfx
  have HARR := Lib.hid har
  clear hT hTc hst hv hv0 hX hX3 hn hy hfx har htop hfx0 hfx1 hfx2 hr0 hgh0
  go_enter Tryz.func68, Tryz.ntmps68
  go_wp2_with fail
  go_quiet (fail)
  go_wp2_with fail
  go_quiet (fail)
  go_upto_block 0 with fail
  go_cut [7, 8] from 43 to 75 (fun s7 s8 wx => ∃ gq : Nat, s7 = .int .i64 (gq : Int) ∧ X / v ≤ gq ∧ gq ≤ X / v + 1 ∧ gq < 1000000000 ∧ Below w.heap.size w wx)
  case first =>
    go_wp2_with fail
    go_loopw [7, 8] (fun s7 s8 wr => ∃ gq r : Nat, s7 = .int .i64 (gq : Int) ∧ s8 = .int .i64 (r : Int) ∧ Gs X v n gq r ∧ r < 2000000000 ∧ Below w.heap.size w wr) (fun s7 _ _ => (intOf s7).toNat)
    case atStart => exact ⟨T / dg v (n + 1), T % dg v (n + 1), by rw [HQ1.out], by rw [HQ2.out], HST.out.1, HST.out.2, below_drewN (below_drewN (Below.refl _ _) _) _⟩
    case round =>
      obtain ⟨gq, r, rfl, rfl, hgs, hr, hbr⟩ := hrel
      clear HST HQ1 HQ2 c0 c1 c2 d0 d1 hqb hqc
      have harr := HARR.out.below hbr hgl
      have hyr := HY.out.below hbr
      have hfxo := HFX.out
      have c0 := harr.cell (j := i + n) (by omega)
      rw [hfxo n (by omega)] at c0
      have d1 := hyr.cell (j := n + 1) (by rw [← HN.out]; omega)
      have d0 := hyr.cell (j := n) (by rw [← HN.out]; omega)
      have hgh := hgs.high
      have HG := Lib.hid hgs
      clear hfxo hyr hgs
      by_cases hrB : 1000000000 ≤ r
      · have hd1 : decide ((r : Int) < 1000000000) = false := by simp; omega
        have HD := Lib.hid (HG.out.done HV.out hh HX.out HV0.out (.inl hrB))
        as_aux_lemma =>
          go_wp2_with fail
          go_quiet (fail)
          go_wp2_with fail
          go_meet
          exact ⟨gq, rfl, HG.out.low, HD.out.2, HD.out.1, below_drewN hbr _⟩
      · have hd1 : decide ((r : Int) < 1000000000) = true := by simp; omega
        have hr2 : (r : Int) < 1000000000 := by omega
        by_cases hgB : 1000000000 ≤ gq
        · have hd2 : decide ((1000000000 : Int) ≤ (gq : Int)) = true := by simp; omega
          have hlow := HG.out.less HV.out HX.out HV0.out (.inl hgB)
          have HNX := Lib.hid (HG.out.next hlow)
          have hg1 : 1 ≤ gq := Nat.lt_of_le_of_lt (Nat.zero_le _) hlow
          clear hlow
          as_aux_lemma =>
            go_wp2_with fail
            go_quiet (fail)
            go_wp2_with fail
            go_quiet (fail)
            go_wp2_with fail
            go_roundw
            case rel => exact ⟨gq - 1, r + dg v (n + 1), congrArg (Value.int .i64) (by omega), congrArg (Value.int .i64) (by omega), HNX.out, by omega, below_drewN (below_drewN hbr _) _⟩
            case measure => simp [intOf]; omega
        · have hd2 : decide ((1000000000 : Int) ≤ (gq : Int)) = false := by simp; omega
          obtain ⟨p1, p2, p3⟩ := nat_prod gq (dg v n) 1000000000 1000000000 (by omega) (by omega)
          have HP := Lib.hid p3
          have hgB2 : (gq : Int) < 1000000000 := by omega
          clear p3
          by_cases ht : r * 1000000000 + dg X n < gq * dg v n
          · have hlow := HG.out.less HV.out HX.out HV0.out (.inr ht)
            have HNX := Lib.hid (HG.out.next hlow)
            have hg1 : 1 ≤ gq := Nat.lt_of_le_of_lt (Nat.zero_le _) hlow
            have hd3 : decide ((r : Int) * 1000000000 + ((dg X n : Nat) : Int) < (gq : Int) * ((dg v n : Nat) : Int)) = true := by rw [HP.out]; simp; omega
            clear hlow ht
            as_aux_lemma =>
              go_wp2_with fail
              go_quiet (fail)
              go_wp2_with fail
              go_quiet (fail)
              go_wp2_with fail
              go_roundw
              case rel => exact ⟨gq - 1, r + dg v (n + 1), congrArg (Value.int .i64) (by omega), congrArg (Value.int .i64) (by omega), HNX.out, by omega, below_drewN (below_drewN hbr _) _⟩
              case measure => simp [intOf]; omega
          · have HD := Lib.hid (HG.out.done HV.out hh HX.out HV0.out (.inr ⟨by omega, by omega⟩))
            have hd3 : decide ((r : Int) * 1000000000 + ((dg X n : Nat) : Int) < (gq : Int) * ((dg v n : Nat) : Int)) = false := by rw [HP.out]; simp; omega
            clear ht
            as_aux_lemma =>
              go_wp2_with fail
              go_quiet (fail)
              go_wp2_with fail
              go_meet
              exact ⟨gq, rfl, HG.out.low, HD.out.2, HD.out.1, below_drewN hbr _⟩
  case rest =>
    obtain ⟨gq, rfl, hg1, hg2, hgq, hbc⟩ := hcut
    have HGQ := Lib.hid (And.intro hg1 hg2)
    have HARC := Lib.hid (HARR.out.below hbc hgl)
    have HKC := Lib.hid (kept_of_below (g := g) hbc)
    clear hg1 hg2 hbc c0 c1 c2 d0 d1 hqb hqc HST HQ1 HQ2 HARR
    go_wp2_with fail
    go_loopw [9, 10] (fun s9 s10 wr => ∃ k D br : Nat, k ≤ n + 2 ∧ s10 = .int .i64 k ∧ s9 = .int .i64 (br : Int) ∧ br ≤ 1000000000 ∧ D < B ^ k ∧ X % B ^ k + B ^ k * br = D + (v % B ^ k) * gq ∧ IArr wr g N (ovr f i k D) ∧ Kept g w.heap.size w wr) (fun _ s10 _ => n + 2 - (intOf s10).toNat)
    case atStart => exact ⟨0, 0, 0, Nat.zero_le _, rfl, rfl, by omega, by simp, by simp [Nat.mod_one], by rw [ovr_zero]; exact HARC.out, HKC.out⟩
    case round =>
      obtain ⟨k, D, br, hk, rfl, rfl, hbr, hD, he, har, hkp⟩ := hrel
      have HE := Lib.hid he
      have HD := Lib.hid hD
      clear he hD
      by_cases hlt : k < n + 2
      · have c1 := har.cell (show i + k < N by omega)
        rw [ovr_past (Nat.le_refl _), HFX.out k (by omega)] at c1
        have c2 := har.free (i + k)
        have c3 : wr.cell? ⟨yb, k, none⟩ = some (.int .i64 ((dg v k : Nat) : Int)) := (hkp.cell (p := ⟨yb, k, none⟩) hybw hyg).trans (HY.out.cell (by rw [← HN.out]; exact hlt))
        have b1 := dg_lt X k
        obtain ⟨p1, p2, p3⟩ := nat_prod gq (dg v k) 1000000000 999999999 (by omega) (by have := dg_lt v k; omega)
        have HP3 := Lib.hid p3
        obtain ⟨P, hP⟩ : ∃ P : Nat, P = dg v k * gq + br := ⟨_, rfl⟩
        have HP := Lib.hid hP
        have hPi : ((gq : Int) * ((dg v k : Nat) : Int)) = (P : Int) - (br : Int) := by rw [HP3.out, hP, Nat.mul_comm]; omega
        obtain ⟨x', hx'⟩ : ∃ x' : Nat, x' + P % 1000000000 = dg X k + (if dg X k < P % 1000000000 then 1000000000 else 0) := ⟨dg X k + (if dg X k < P % 1000000000 then 1000000000 else 0) - P % 1000000000, by split <;> omega⟩
        obtain ⟨br', hbr'⟩ : ∃ br' : Nat, br' = P / 1000000000 + (if dg X k < P % 1000000000 then 1 else 0) := ⟨_, rfl⟩
        have HT := Lib.hid (take_step (x' := x') (br' := br') HD.out HE.out HP.out rfl hx' hbr')
        have hxb : x' < 1000000000 := by split at hx' <;> omega
        have hPb : P ≤ 999999999 * 1000000000 + 1000000000 := by
          have : dg v k * gq ≤ 999999999 * 1000000000 := Nat.mul_le_mul (by have := dg_lt v k; omega) (by omega)
          omega
        have hbb : br' ≤ 1000000000 := by split at hbr' <;> omega
        have hdiff : (x' : Int) - (((dg X k : Nat) : Int) - (P : Int)) = 1000000000 * (br' : Int) := by
          split at hx' <;> rename_i hc
          · rw [if_pos hc] at hbr'; omega
          · rw [if_neg hc] at hbr'; omega
        have hgr := go_rem _ _ _ (by omega) (by omega) hdiff
        have e5 : ((dg X k : Nat) : Int) - (br : Int) - (gq : Int) * ((dg v k : Nat) : Int) = ((dg X k : Nat) : Int) - (P : Int) := by rw [hPi]; omega
        rw [← e5] at hgr
        have HR1 := Lib.hid hgr.1
        have hgr2 := hgr.2
        rw [← hgr.1] at hgr2
        have HR2 := Lib.hid hgr2
        have hm0 : -1000000000 < Int.tmod (((dg X k : Nat) : Int) - (br : Int) - (gq : Int) * ((dg v k : Nat) : Int)) 1000000000 := Int.lt_tmod_of_pos _ (by omega)
        have hm1 : Int.tmod (((dg X k : Nat) : Int) - (br : Int) - (gq : Int) * ((dg v k : Nat) : Int)) 1000000000 < 1000000000 := Int.tmod_lt_of_pos _ (by omega)
        clear hgr2
        have HX' := Lib.hid (And.intro hx' (And.intro hbr' hdiff))
        clear hgr hdiff hx' hbr' hPi p3 hP e5
        go_wp2_with fail
        go_quiet (fail)
        go_wp2_with fail
        go_roundw
        case rel => exact ⟨k + 1, D + B ^ k * x', br', by omega, by go_num, by rw [HR2.out], hbb, HT.out.1, HT.out.2, by rw [HR1.out, ← ovr_step HD.out hxb]; exact (show IArr (wr.drewN nq) g N (ovr f i k D) from har).store (i + k) _, (Kept.drew' hkp nq).setCell (.inl rfl) _⟩
        case measure => simp [intOf]; omega
      · obtain rfl : k = n + 2 := by omega
        have c1 := har.cell (show i + (n + 2) < N by omega)
        rw [ovr_past (Nat.le_refl _), HFX.out (n + 2) (Nat.le_refl _)] at c1
        have c2 := har.free (i + (n + 2))
        have hte := take_end HV.out HX3.out HV0.out HD.out HE.out HGQ.out.1 HGQ.out.2
        have htl := take_last HV.out HX3.out HE.out
        have hXv := Nat.lt_trans (Nat.mod_lt X HV0.out) HV.out
        have HXV := Lib.hid hXv
        have HAR := Lib.hid har
        have hdxb := dg_lt X (n + 2)
        generalize dg X (n + 2) = dx at c1 hte htl hdxb b2
        clear hXv har
        by_cases hle : br ≤ dx
        · obtain ⟨hf, hdd⟩ := hte.1 hle
          have hbe := htl.1 hf hdd
          subst hbe
          have HF := Lib.hid hf
          have HZ := Lib.hid (show ∀ wz, wz.heap = wr.heap → IArr (wz.setCell ⟨g, i + (n + 2), none⟩ (.int .i64 0)) g N (ovr f i (n + 3) (X % v)) from fun wz hz =>
            ((show IArr wz g N (ovr f i (n + 2) D) by obtain ⟨cur, h1, h2, h3⟩ := HAR.out; exact ⟨cur, by rw [hz]; exact h1, h2, h3⟩).store (i + (n + 2)) 0).congr (fun j _ => by rw [hdd]; exact ovr_fin1 HXV.out j))
          have hz0 : (br : Int) - (br : Int) = 0 := by omega
          have HKP := Lib.hid hkp
          clear hte htl hf hdd hle hkp
          go_wp2_with fail
          go_loopw [7] (fun s7 wz => s7 = .int .i64 (gq : Int) ∧ IArr wz g N (ovr f i (n + 3) (X % v)) ∧ Kept g w.heap.size w wz) (fun _ _ => 0)
          case atStart => exact ⟨rfl, HZ.out _ rfl, HKP.out.setCell (.inl rfl) _⟩
          case round =>
            obtain ⟨rfl, hfin, hkz⟩ := hrel
            clear HZ HKP HAR HARC HKC
            have cz := hfin.cell (show i + (n + 2) < N by omega)
            rw [ovr, if_pos (by omega), Nat.add_sub_cancel_left, dg_big HXV.out] at cz
            have HFIN := Lib.hid (And.intro hfin hkz)
            clear hfin hkz
            go_wp2_with fail
            go_ret
            exact ⟨ret_int (by rw [← HF.out]), HFIN.out.1, HFIN.out.2⟩
        · obtain ⟨hf, hdd⟩ := hte.2 hle
          have hbe := htl.2 hf hdd
          subst hbe
          have HF := Lib.hid hf
          have HDD := Lib.hid hdd
          have HZ := Lib.hid (show ∀ wz, wz.heap = wr.heap → ZArr (wz.setCell ⟨g, i + (n + 2), none⟩ (.int .i64 (-1))) g N (zb f i n D v 0) from fun wz hz =>
            (show ZArr wz g N (fun j => ((ovr f i (n + 2) D j : Nat) : Int)) by obtain ⟨cur, h1, h2, h3⟩ := HAR.out; exact ⟨cur, by rw [hz]; exact h1, h2, h3⟩).store (i + (n + 2)) (-1) zb_last (fun j _ hj => by rw [zb, if_neg hj, ovr_zero]))
          have hz0 : (dx : Int) - ((dx : Int) + 1) = -1 := by omega
          have HKP := Lib.hid hkp
          clear hte htl hf hdd hle hkp
          go_wp2_with fail
          go_loopw [7] (fun s7 wz => ∃ q : Nat, s7 = .int .i64 (q : Int) ∧ Kept g w.heap.size w wz ∧ ((q = X / v ∧ IArr wz g N (ovr f i (n + 3) (X % v))) ∨ (q = gq ∧ ZArr wz g N (zb f i n D v 0)))) (fun s7 _ => (intOf s7).toNat)
          case atStart => exact ⟨gq, rfl, HKP.out.setCell (.inl rfl) _, .inr ⟨rfl, HZ.out _ rfl⟩⟩
          case round =>
            obtain ⟨q, rfl, hkz, hc⟩ := hrel
            clear HZ HKP HAR HARC HKC
            rcases hc with ⟨hq, hfin⟩ | ⟨hq, hza⟩
            · have cz := hfin.cell (show i + (n + 2) < N by omega)
              rw [ovr, if_pos (by omega), Nat.add_sub_cancel_left, dg_big HXV.out] at cz
              have HFIN := Lib.hid (And.intro hfin hkz)
              have HQ := Lib.hid hq
              clear hfin hkz hq
              go_wp2_with fail
              go_ret
              exact ⟨ret_int (by rw [← HQ.out]), HFIN.out.1, HFIN.out.2⟩
            · have cz := hza.cell (show i + (n + 2) < N by omega)
              rw [zb_last] at cz
              subst hq
              have HZA := Lib.hid hza
              have HKZ := Lib.hid hkz
              clear hza hkz
              go_wp2_with fail
              go_loopw [13, 14] (fun s13 s14 wy => ∃ k : Nat, k ≤ n + 2 ∧ s14 = .int .i64 k ∧ s13 = .int .i64 ((ca D v k : Nat) : Int) ∧ ZArr wy g N (zb f i n D v k) ∧ Kept g w.heap.size w wy) (fun _ s14 _ => n + 2 - (intOf s14).toNat)
              case atStart => exact ⟨0, Nat.zero_le _, rfl, by rw [ca_zero]; rfl, HZA.out, HKZ.out⟩
              case round =>
                obtain ⟨k, hk, rfl, rfl, har, hkp⟩ := hrel
                clear HZA HKZ cz
                by_cases hlt : k < n + 2
                · have c1 := har.cell (show i + k < N by omega)
                  rw [zb_here hlt] at c1
                  have c2 := har.free (i + k)
                  have c3 : wr.cell? ⟨yb, k, none⟩ = some (.int .i64 ((dg v k : Nat) : Int)) := (hkp.cell (p := ⟨yb, k, none⟩) hybw hyg).trans (HY.out.cell (by rw [← HN.out]; exact hlt))
                  have b1 := dg_lt D k
                  have b2 := dg_lt v k
                  have b3 := ca_le D v k
                  have hv := Lib.hid (show ((dg D k : Nat) + (dg v k : Nat) + (ca D v k : Nat) : Int) % 1000000000 = ((dg (D + v) k : Nat) : Int) by rw [dg_add]; omega)
                  have hw := Lib.hid (show ((dg D k : Nat) + (dg v k : Nat) + (ca D v k : Nat) : Int) / 1000000000 = ((ca D v (k + 1) : Nat) : Int) by rw [ca_succ]; omega)
                  have HAR := Lib.hid (show ∀ m, ZArr ((wr.drewN m).setCell ⟨g, i + k, none⟩ (.int .i64 ((dg (D + v) k : Nat) : Int))) g N (zb f i n D v (k + 1)) from fun m =>
                    (show ZArr (wr.drewN m) g N (zb f i n D v k) from har).store (i + k) _ (zb_next hlt).1 (fun j _ hj => (zb_next hlt).2 j hj))
                  have HKP := Lib.hid hkp
                  clear har hkp
                  go_wp2_with fail
                  go_quiet (fail)
                  go_wp2_with fail
                  go_roundw
                  case rel => exact ⟨k + 1, by omega, by go_num, by rw [hw.out], by rw [hv.out]; exact HAR.out nq, (HKP.out.drew' nq).setCell (.inl rfl) _⟩
                  case measure => simp [intOf]; omega
                · obtain rfl : k = n + 2 := by omega
                  have c1 := har.cell (show i + (n + 2) < N by omega)
                  rw [zb_last] at c1
                  have c2 := har.free (i + (n + 2))
                  have hca := ca_over HD.out HV.out (by have := HDD.out; omega)
                  rw [hca]
                  have HAR := Lib.hid (show ∀ wz, wz.heap = wr.heap → IArr (wz.setCell ⟨g, i + (n + 2), none⟩ (.int .i64 0)) g N (ovr f i (n + 3) (X % v)) from fun wz hz =>
                    ((show ZArr wz g N (zb f i n D v (n + 2)) by obtain ⟨cur, h1, h2, h3⟩ := har; exact ⟨cur, by rw [hz]; exact h1, h2, h3⟩).store (f' := fun j => if j = i + (n + 2) then (0 : Int) else zb f i n D v (n + 2) j) (i + (n + 2)) 0 (if_pos rfl) (fun j _ hj => if_neg hj)).i (fun j _ => zb_end HXV.out HDD.out j))
                  have HKP := Lib.hid hkp
                  have hg1 : 1 ≤ q := by rw [HF.out]; exact Nat.succ_le_succ (Nat.zero_le _)
                  have hg2 : (q : Int) - 1 = ((q - 1 : Nat) : Int) := by omega
                  have HG2 := Lib.hid hg2
                  clear har hkp hg2 hca
                  go_wp2_with fail
                  go_roundw
                  case rel => exact ⟨q - 1, by rw [HG2.out], HKP.out.setCell (.inl rfl) _, .inl ⟨by rw [HF.out, Nat.add_sub_cancel], HAR.out _ rfl⟩⟩
                  case measure => simp [intOf]; omega

end Go.Proofs.YtiocehlefpbbhaaGreatDoor

namespace Go.Proofs.YtiocehlefpbbhaaGreatDoor
open Go.RowKit NV

theorem IArr.kept {w w' : World} {g N h R : Nat} {f : Nat → Nat} (ha : IArr w g N f) (hk : Kept h R w w') (hR : g < R) (hg : g ≠ h) : IArr w' g N f := by
  obtain ⟨cur, h1, h2, h3⟩ := ha
  exact ⟨cur, (hk.block g hR hg).trans h1, h2, h3⟩

theorem IArr.one {w : World} (r : Nat) (hr : r < 1000000000) : IArr (w.alloc (.cells #[.int .i64 (r : Int)] 3)) w.heap.size 1 (dg r) := by
  refine ⟨#[.int .i64 (r : Int)], heap_alloc_new w _, rfl, fun j hj => ?_⟩
  obtain rfl : j = 0 := by omega
  have : dg r 0 = r := by rw [dg, B_eq]; simp; omega
  rw [this]; rfl

theorem IArr.num {w : World} {g N n : Nat} (h : IArr w g N (dg n)) {c : Nat} (hc : N ≤ c) (hn : ln n ≤ N) : INum w (.slice (some ⟨g, 0, none⟩) (ln n) c) n :=
  inum_of h.lt hn hc (fun _ hj => h.cell hj)

set_option maxHeartbeats 1600000 in
set_option maxRecDepth 100000 in
theorem idivide_less {w : World} {x y : Value} {a b : Nat} (hx : INum w x a) (hy : INum w y b) (ha : ln a ≤ 1000000) (hb : ln b ≤ 1000000) (hab : a < b) :
    Calls Tryz.prog 41 #[x, y] w fun e w' => e = .returned (.tuple #[.slice none 0 0, x]) ∧ Below w.heap.size w w' := by
  have HL := Lib.hid (iorder_any hx hy (by omega) (by omega))
  have hlow := cmpN_low hab
  obtain ⟨xa, xc, rfl⟩ := islice_any hx
  obtain ⟨ya, yc, rfl⟩ := islice_any hy
  clear hx hy hab
  go_enter Tryz.func41, Tryz.ntmps41
  go_wp2_with fail
  refine HL.out.mono ?_
  rintro e w1 ⟨rfl, hb1⟩
  have HB := Lib.hid hb1
  clear hb1
  go_wp2_with fail
  go_ret2
  exact ⟨rfl, HB.out⟩

set_option maxHeartbeats 1600000 in
set_option maxRecDepth 100000 in
theorem idivide_one {w : World} {x y : Value} {a b : Nat} (hx : INum w x a) (hy : INum w y b) (ha : ln a ≤ 1000000) (hb : ln b = 1) (hab : b ≤ a) :
    Calls Tryz.prog 41 #[x, y] w fun e w' => ∃ q r, e = .returned (.tuple #[q, r]) ∧ INum w' q (a / b) ∧ INum w' r (a % b) ∧ Below w.heap.size w w' := by
  have HL := Lib.hid (iorder_any hx hy (by omega) (by omega))
  have hhigh := cmpN_high hab
  have hblt := lt_pow_ln b
  have hb0 : b ≠ 0 := by intro e; subst e; rw [ln_zero] at hb; omega
  rw [hb, Nat.pow_one, B_eq] at hblt
  have hd0 : dg b 0 = b := by rw [dg, B_eq]; simp; omega
  obtain ⟨xb, xc, rfl, _, _⟩ := islice_form hx (by have := ln_mono hab; omega)
  obtain ⟨yb, yc, rfl, _, _⟩ := islice_form hy (by omega)
  have HX := Lib.hid hx
  have HY := Lib.hid hy
  have hbl2 : 1 ≤ ln b := by omega
  have HD0 := Lib.hid hd0
  rw [hb] at HL ⊢
  obtain ⟨r, hr⟩ : ∃ r, r = a % b := ⟨_, rfl⟩
  have hrb : r < 1000000000 := by rw [hr]; exact Nat.lt_trans (Nat.mod_lt _ (by omega)) hblt
  rw [← hr]
  have HRM := Lib.hid hr
  clear hx hy hb hd0 hr
  go_enter Tryz.func41, Tryz.ntmps41
  go_wp2_with fail
  refine HL.out.mono ?_
  rintro e w1 ⟨rfl, hb1⟩
  have hx1 := HX.out.below hb1
  have c0 := (HY.out.below hb1).cell (j := 0) (by omega)
  rw [HD0.out] at c0
  have hds := ishort_any hx1 (by omega) (show 1 ≤ b by omega) hblt
  rw [← HRM.out] at hds
  have HC := Lib.hid hds
  have HB1 := Lib.hid hb1
  clear hb1 hx1 HL hds
  go_wp2_with fail
  refine HC.out.mono ?_
  rintro e w2 ⟨v, rfl, hq, hb2⟩
  obtain ⟨qa, qc, rfl⟩ := islice_any hq
  have HQ := Lib.hid hq
  have HB2 := Lib.hid (HB1.out.trans (hb2.mono HB1.out.size))
  clear hq hb2 HC c0
  go_wp2_with fail
  have harr := IArr.one (w := w2) r hrb
  have hbe : Below w2.heap.size w2 (w2.alloc (.cells #[.int .i64 (r : Int)] 3)) := (Below.refl _ _).alloc (Nat.le_refl _) _
  have hrl : r < B ^ 1 := by rw [Nat.pow_one, B_eq]; exact hrb
  have hcl : ∀ j, j < 1 → (w2.alloc (.cells #[.int .i64 (r : Int)] 3)).cell? ⟨w2.heap.size, j, none⟩ = some (.int .i64 ((dg (r) j : Nat) : Int)) := fun j hj => harr.cell hj
  have HB3 := Lib.hid (HB2.out.trans (hbe.mono HB2.out.size))
  have HR := Lib.hid (harr.num (c := 1) (Nat.le_refl _) (ln_le hrl))
  have HQ3 := Lib.hid (HQ.out.below hbe)
  have HT := Lib.hid (itrim_any (c := 1) (by omega) (Nat.le_refl _) hrl hcl)
  clear harr hbe hcl hrl HQ HB2
  refine HT.out.mono ?_
  rintro e w3 ⟨rfl, rfl⟩
  go_wp2_with fail
  go_ret2
  exact ⟨_, _, rfl, HQ3.out, HR.out, HB3.out⟩

set_option maxHeartbeats 3200000 in
set_option maxRecDepth 100000 in
theorem idivide_many {w : World} {x y : Value} {a b n : Nat} (hx : INum w x a) (hy : INum w y b) (ha : ln a ≤ 1000000) (hb : ln b = n + 2) (hab : b ≤ a) :
    Calls Tryz.prog 41 #[x, y] w fun e w' => ∃ q r, e = .returned (.tuple #[q, r]) ∧ INum w' q (a / b) ∧ INum w' r (a % b) ∧ Below w.heap.size w w' := by
  obtain ⟨i0, hi, hz0, hz1, hz2⟩ := info_parts infoI
  have hl := iorder_any hx hy (by omega) (by have := ln_mono hab; omega)
  have hhigh := cmpN_high hab
  obtain ⟨d, hd⟩ : ∃ d, d = 1000000000 / (dg b (n + 1) + 1) := ⟨_, rfl⟩
  have hba := ln_mono hab
  obtain ⟨Q, hQ⟩ : ∃ Q, Q + (n + 1) = ln a := ⟨ln a - (n + 1), by omega⟩
  have hs := sets hb hab hd hQ
  obtain ⟨u, hu⟩ : ∃ u, u = a * d := ⟨_, rfl⟩
  obtain ⟨v, hv⟩ : ∃ v, v = b * d := ⟨_, rfl⟩
  have hd1 := hs.d1
  have hd2 := hs.d2
  have hlv := hs.lnv
  have hhalf := hs.half
  have hstart := hs.start
  have hquo := hs.quo
  have hrest := hs.rest
  have hsmall := hs.small
  rw [← hu, ← hv] at hstart hquo hrest
  rw [← hv] at hlv hhalf
  have hdd : (1000000000 : Int) / (((dg b (n + 1) : Nat) : Int) + 1) = (d : Int) := by rw [hd]; simp
  have htl := dg_lt b (n + 1)
  obtain ⟨xb, xc, rfl, hxb, _⟩ := islice_form hx (by omega)
  obtain ⟨yb, yc, rfl, hyb, _⟩ := islice_form hy (by omega)
  have hbn : n + 2 ≤ ln b := by omega
  have hbn2 : ln b ≤ 1000000 := by omega
  have hQa : Q ≤ ln a := by omega
  have hQ2 : (ln a : Int) + 1 - ((n : Int) + 2) = (Q : Int) := by omega
  have HL := Lib.hid hl
  rw [hb] at HL ⊢
  have HX := Lib.hid hx
  have HY := Lib.hid hy
  have HU := Lib.hid hu
  have HV := Lib.hid hv
  have HLV := Lib.hid hlv
  have HST := Lib.hid hstart
  have HQU := Lib.hid hquo
  have HRE := Lib.hid hrest
  have HSM := Lib.hid hsmall
  have HB := Lib.hid hb
  have HQ2 := Lib.hid hQ2
  clear hx hy hu hv hlv hstart hquo hrest hsmall hs hd hl hb hQ hQ2
  go_enter Tryz.func41, Tryz.ntmps41
  go_wp2_with fail
  refine HL.out.mono ?_
  rintro e w1 ⟨rfl, hb1⟩
  have hx1 := HX.out.below hb1
  have hy1 := HY.out.below hb1
  have c0 := hy1.cell (j := n + 1) (by omega)
  have HB1 := Lib.hid hb1
  have hsc1 := iscaled_any hx1 ha hd2
  rw [← HU.out] at hsc1
  obtain ⟨g1, hg1⟩ : ∃ g1, g1 = w1.heap.size := ⟨_, rfl⟩
  rw [← hg1] at hsc1
  have HG1 := Lib.hid hg1
  have HS1 := Lib.hid hsc1
  have HY1 := Lib.hid hy1
  clear hb1 hx1 hy1 hsc1 hg1 HL
  go_wp2_with fail
  refine HS1.out.mono ?_
  rintro e w2 ⟨rfl, har2, hb2⟩
  have hy2 := HY1.out.below (by rw [← HG1.out]; exact hb2)
  have hsc2 := iscaled_any hy2 hbn2 hd2
  rw [← HV.out, HB.out] at hsc2
  obtain ⟨g2, hg2⟩ : ∃ g2, g2 = w2.heap.size := ⟨_, rfl⟩
  rw [← hg2] at hsc2
  have HG2 := Lib.hid hg2
  have hg12 : g1 < g2 := by rw [hg2]; exact har2.lt
  have HAR2 := Lib.hid har2
  have HB2 := Lib.hid hb2
  have HS2 := Lib.hid hsc2
  clear har2 hb2 hy2 hsc2 hg2 HS1 HY1 c0
  go_wp2_with fail
  refine HS2.out.mono ?_
  rintro e w3 ⟨rfl, har3, hb3⟩
  have hb3' : Below w2.heap.size w2 w3 := by rw [← HG2.out]; exact hb3
  have hvlt : v < B ^ (n + 2 + 1) := by
    have := lt_pow_ln v
    rw [HLV.out] at this
    exact Nat.lt_trans this (by rw [pow_succ (n + 2), B_eq]; have := pow_pos (n + 2); rw [B_eq] at this; omega)
  have htr := itrim_any (w := w3) (b := g2) (c := n + 2 + 1) (L := n + 2 + 1) (n := v) (by omega) (Nat.le_refl _) hvlt (fun j hj => har3.cell hj)
  rw [HLV.out] at htr
  have hdv : INum w3 (.slice (some ⟨g2, 0, none⟩) (n + 2) (n + 2 + 1)) v := by
    have := har3.num (c := n + 2 + 1) (Nat.le_refl _) (by rw [HLV.out]; omega)
    rwa [HLV.out] at this
  have har1 : IArr w3 g1 (ln a + 1) (dg u) := HAR2.out.below hb3' HAR2.out.lt
  have hgl3 := har3.lt
  have HB3 := Lib.hid (HB1.out.trans ((HB2.out.trans (hb3.mono (Nat.le_of_lt hg12))).mono (by rw [HG1.out]; exact HB1.out.size)))
  have hsz3 := HB3.out.size
  have HTR := Lib.hid htr
  have HDV := Lib.hid hdv
  have HAR1 := Lib.hid har1
  clear har3 hb3 hb3' hvlt htr hdv har1 HAR2 HB2 HS2
  go_wp2_with fail
  refine HTR.out.mono ?_
  rintro e w4 ⟨rfl, rfl⟩
  obtain ⟨g3, hg3⟩ : ∃ g3, g3 = w3.heap.size := ⟨_, rfl⟩
  have HG3 := Lib.hid hg3
  have hg23 : g2 < g3 := by rw [hg3]; exact hgl3
  clear hg3
  go_wp2_with (at_make; refine wpList_make_full _ rfl _ _ 46 rfl w3.heap.size 3 i0 (.int .i64 0) 1 Tryz.underlying46 hi hz0 hz1 _ _ _ _ Q rfl rfl HQ2.out HQ2.out (by rw [hz2]; omega) (by unfold maxLen; omega) (Nat.le_refl _) ?_)
  intro w5 hown5 hgrow5
  have harq : IArr w5 w3.heap.size Q (fun _ => 0) := IArr.made (base := w3.heap.size) (by rw [Nat.mul_one]; exact hown5)
  rw [← HG3.out] at harq
  have hb5 : Below w3.heap.size w3 w5 := (Below.refl _ _).grown hgrow5 (by simp) (fun k hk => by cases hk)
  have HARQ := Lib.hid harq
  have HAR5 := Lib.hid (HAR1.out.below hb5 HAR1.out.lt)
  have HDV5 := Lib.hid (HDV.out.below hb5)
  have HB5 := Lib.hid (HB3.out.trans (hb5.mono HB3.out.size))
  rw [← HG3.out] at hown5
  rw [← HG3.out]
  clear hown5 hgrow5 harq hb5 HAR1 HDV HTR
  go_wp2_with fail
  have hQn : Q + (n + 1) = ln a := by have := HQ2.out; omega
  have hQn1 : Q + (n + 1) ≤ ln a := by omega
  have hQn2 : ln a ≤ Q + (n + 1) := by omega
  clear hQn
  go_loopw [13] (fun s10 wr => ∃ k : Nat, k ≤ Q ∧ s10 = .int .i64 ((k : Int) - 1) ∧ IArr wr g1 (ln a + 1) (dg (u % (v * B ^ k))) ∧ IArr wr g3 Q (dgu (u / v) k) ∧ INum wr (.slice (some ⟨g2, 0, none⟩) (n + 2) (n + 2 + 1)) v ∧ Below w.heap.size w wr) (fun s10 _ => ((intOf s10) + 1).toNat)
  case atStart => exact ⟨Q, Nat.le_refl _, by go_num, by rw [Nat.mod_eq_of_lt HST.out]; exact HAR5.out, HARQ.out.congr (fun j hj => by rw [dgu, if_neg (by omega)]), HDV5.out, HB5.out⟩
  case round =>
    obtain ⟨k, hk, rfl, har, haq, hdv, hbr⟩ := hrel
    have HAR := Lib.hid har
    have HAQ := Lib.hid haq
    have HDV := Lib.hid hdv
    have HBR := Lib.hid hbr
    have hwg : w.heap.size ≤ g1 := by rw [HG1.out]; exact HB1.out.size
    clear HAR5 HARQ HDV5 HB5 har haq hdv hbr
    have hv0 : 0 < v := by
      by_cases h : v = 0
      · have := HLV.out; rw [h, ln_zero] at this; omega
      · omega
    have HV0 := Lib.hid hv0
    clear hv0
    by_cases hk0 : 0 < k
    · obtain ⟨q, rfl⟩ : ∃ q, k = q + 1 := ⟨k - 1, by omega⟩
      have hto := istep_any (w := wr) (g := g1) (N := ln a + 1) (i := q) (n := n) (c := ln a + 1 - q) (X := u % (v * B ^ (q + 1)) / B ^ q) (v := v) (yb := g2) (yc := n + 2 + 1) HAR.out (by omega) (by omega) (fun j _ => by rw [dg_shift]) HDV.out HLV.out.symm (by omega) hhalf (left_lt HV0.out)
      have hls := left_step u v q HV0.out
      have c1 := HAQ.out.cell (j := q) (by omega)
      have c2 := HAQ.out.free q
      rw [hls.2.1] at hto
      have HTO := Lib.hid hto
      have HLS := Lib.hid hls
      clear hto hls
      go_wp2_with fail
      rw [show q + (n + 2) + 1 - q = n + 2 + 1 by omega]
      refine HTO.out.mono ?_
      rintro e w6 ⟨rfl, har6, hk6⟩
      have hg3l : g3 < wr.heap.size := HAQ.out.lt
      have haq6 := HAQ.out.kept hk6 hg3l (by omega)
      have hdv6 := HDV.out.kept hk6 (by omega) (by omega)
      have har6' : IArr w6 g1 (ln a + 1) (dg (u % (v * B ^ q))) := har6.congr (fun j _ => row_round (n := n) HV0.out (by have := lt_pow_ln v; rwa [HLV.out] at this) j)
      have hb6 := HBR.out.trans (hk6.below hwg HBR.out.size)
      have c1 := haq6.cell (j := q) (by omega)
      have c2 := haq6.free q
      have haq7 := haq6.store q (dg (u / v) q)
      rw [dgu_step rfl] at haq7
      have har7 := har6'.other (a := ⟨g3, q, none⟩) (show g1 ≠ g3 by omega) (.int .i64 ((dg (u / v) q : Nat) : Int))
      have hdv7 := hdv6.kept ((Kept.refl g3 (g3 + 1) w6).setCell (p := ⟨g3, q, none⟩) (.inl rfl) (.int .i64 ((dg (u / v) q : Nat) : Int))) (by omega) (by omega)
      have hb7 := hb6.setCell (p := ⟨g3, q, none⟩) (show w.heap.size ≤ g3 by omega) (.int .i64 ((dg (u / v) q : Nat) : Int))
      have HF := Lib.hid (And.intro har7 (And.intro haq7 (And.intro hdv7 hb7)))
      clear har6 hk6 haq6 hdv6 har6' hb6 haq7 har7 hdv7 hb7 HTO
      go_wp2_with fail
      go_roundw
      case rel => exact ⟨q, by omega, by go_num, HF.out.1, HF.out.2.1, HF.out.2.2.1, HF.out.2.2.2⟩
      case measure => simp [intOf]
    · obtain rfl : k = 0 := by omega
      obtain ⟨R, hR⟩ : ∃ R, R = u % v := ⟨_, rfl⟩
      have hRv : R < v := by rw [hR]; exact Nat.mod_lt _ HV0.out
      have hRu : R < B ^ (n + 2) := by have := lt_pow_ln v; rw [HLV.out] at this; exact Nat.lt_trans hRv this
      have har0 : IArr wr g1 (ln a + 1) (dg R) := by
        have := HAR.out
        rw [Nat.pow_zero, Nat.mul_one, ← hR] at this
        exact this
      have htr := itrim_any (w := wr) (b := g1) (c := ln a + 1) (L := n + 2) (n := R) (by omega) (by omega) hRu (fun j hj => har0.cell (by omega))
      have hlR := ln_le hRu
      have hnr := har0.num (c := ln a + 1) (Nat.le_refl _) (by omega)
      have hds := ishort_any hnr (by omega) hd1 (show d < 1000000000 by omega)
      have hrd : R / d = a % b := by rw [hR]; exact HRE.out
      rw [hrd] at hds
      have HTR := Lib.hid htr
      have HDS := Lib.hid hds
      have hquo0 : u / v = a / b := HQU.out
      have hq0 : IArr wr g3 Q (dg (a / b)) := by
        rw [← hquo0]
        exact HAQ.out.congr (fun j _ => by rw [dgu, if_pos (Nat.zero_le _)])
      have HQ0 := Lib.hid hq0
      have hw3 : w.heap.size ≤ g3 := by omega
      clear hR hRv hRu har0 htr hnr hds hrd hquo0 hq0 hlR
      go_wp2_with fail
      refine HTR.out.mono ?_
      rintro e w6 ⟨rfl, rfl⟩
      go_wp2_with fail
      refine HDS.out.mono ?_
      rintro e w7 ⟨rv, rfl, hrv, hb7⟩
      obtain ⟨ra, rc, rfl⟩ := islice_any hrv
      have hq7 := HQ0.out.below hb7 HQ0.out.lt
      have htq := itrim_any (w := w7) (b := g3) (c := Q) (L := Q) (n := a / b) (by omega) (Nat.le_refl _) HSM.out (fun j hj => hq7.cell hj)
      have HTQ := Lib.hid htq
      have HF := Lib.hid (And.intro (hq7.num (c := Q) (Nat.le_refl _) (ln_le HSM.out)) (And.intro hrv (HBR.out.trans (hb7.mono HBR.out.size))))
      clear hrv hb7 hq7 htq HDS
      go_wp2_with fail
      refine HTQ.out.mono ?_
      rintro e w8 ⟨rfl, rfl⟩
      go_wp2_with fail
      go_ret2
      exact ⟨_, _, rfl, HF.out.1, HF.out.2.1, HF.out.2.2⟩

/-- Divide returns quotient and remainder. -/
theorem idivide_any {w : World} {x y : Value} {a b : Nat} (hx : INum w x a) (hy : INum w y b) (ha : ln a ≤ 1000000) (hb : ln b ≤ 1000000) (hb0 : b ≠ 0) :
    Calls Tryz.prog 41 #[x, y] w fun e w' => ∃ q r, e = .returned (.tuple #[q, r]) ∧ INum w' q (a / b) ∧ INum w' r (a % b) ∧ Below w.heap.size w w' := by
  by_cases hab : a < b
  · refine (idivide_less hx hy ha hb hab).mono ?_
    rintro e w' ⟨rfl, hbw⟩
    exact ⟨_, _, rfl, by rw [Nat.div_eq_of_lt hab]; exact INum.nil _, by rw [Nat.mod_eq_of_lt hab]; exact hx.below hbw, hbw⟩
  · have hp := ln_pos hb0
    by_cases h1 : ln b = 1
    · exact idivide_one hx hy ha h1 (by omega)
    · exact idivide_many (n := ln b - 2) hx hy ha (by omega) (by omega)

end Go.Proofs.YtiocehlefpbbhaaGreatDoor

namespace Go.Proofs.YtiocehlefpbbhaaGreatDoor
open Go.RowKit NV

/-- What the limbs of block g are worth, k of them: for a loop's measure. -/
def iworth (w : World) (g : Nat) : Nat → Nat
  | 0 => 0
  | k + 1 => iworth w g k + B ^ k * (intOf ((w.cell? ⟨g, k, none⟩).getD .nilIface)).toNat

def ivalOf (w : World) : Value → Nat
  | .slice (some a) n _ => iworth w a.block n
  | _ => 0

theorem iworth_num {w : World} {g n : Nat} : ∀ k, (∀ j, j < k → w.cell? ⟨g, j, none⟩ = some (.int .i64 ((dg n j : Nat) : Int))) → iworth w g k = n % B ^ k
  | 0, _ => by simp [iworth, Nat.mod_one]
  | k + 1, h => by
    rw [iworth, iworth_num k (fun j hj => h j (by omega)), h k (by omega), mod_succ]
    simp [intOf]

theorem INum.val {w : World} {v : Value} {n : Nat} (h : INum w v n) : ivalOf w v = n := by
  obtain ⟨a, c, rfl, ⟨h0, rfl, rfl⟩ | ⟨b, rfl, _, _, h4⟩⟩ := h
  · rw [h0]; rfl
  · show iworth w b (ln n) = n
    rw [iworth_num (ln n) h4, Nat.mod_eq_of_lt (lt_pow_ln n)]

set_option maxHeartbeats 1600000 in
set_option maxRecDepth 100000 in
/-- Common returns the greatest common divisor. -/
theorem icommon_any {w : World} {x y : Value} {a b : Nat} (hx : INum w x a) (hy : INum w y b) (ha : ln a ≤ 1000000) (hb : ln b ≤ 1000000) :
    Calls Tryz.prog 44 #[x, y] w fun e w' => ∃ v, e = .returned v ∧ INum w' v (Nat.gcd a b) ∧ Below w.heap.size w w' := by
  have HX := Lib.hid hx
  have HY := Lib.hid hy
  clear hx hy
  go_enter Tryz.func44, Tryz.ntmps44
  go_wp2_with fail
  go_loopw [0, 1] (fun s0 s1 wr => ∃ X Y, INum wr s0 X ∧ INum wr s1 Y ∧ ln X ≤ 1000000 ∧ ln Y ≤ 1000000 ∧ Hid (Nat.gcd X Y = Nat.gcd a b) ∧ Below w.heap.size w wr) (fun _ s1 wr => ivalOf wr s1)
  case atStart => exact ⟨a, b, HX.out, HY.out, ha, hb, Lib.hid rfl, Below.refl _ _⟩
  case round =>
    obtain ⟨X, Y, hX, hY, hlX, hlY, HG, hbr⟩ := hrel
    clear HX HY
    obtain ⟨xa, xc, rfl⟩ := islice_any hX
    obtain ⟨ya, yc, rfl⟩ := islice_any hY
    have HX := Lib.hid hX
    have HY := Lib.hid hY
    have HBR := Lib.hid hbr
    by_cases hY0 : ln Y = 0
    · have hz := ln_eq_zero hY0
      have HR := Lib.hid (show INum wr (.slice xa (ln X) xc) (Nat.gcd a b) by rw [← HG.out, hz, Nat.gcd_zero_right]; exact hX)
      rw [hY0]
      clear hX hY hbr hz hY0
      go_wp2_with fail
      go_ret
      exact ⟨_, rfl, HR.out, HBR.out⟩
    · have hYne : Y ≠ 0 := by intro e; rw [e, ln_zero] at hY0; exact hY0 rfl
      have hpos : 0 < ln Y := by omega
      have HD := Lib.hid (idivide_any hX hY hlX hlY hYne)
      have HV := Lib.hid hY.val
      have HYN := Lib.hid hYne
      clear hX hY hbr hYne hY0
      go_wp2_with fail
      refine HD.out.mono ?_
      rintro e w2 ⟨q, r, rfl, _, hr, hb2⟩
      have hlt : X % Y < Y := Nat.mod_lt _ (Nat.pos_of_ne_zero HYN.out)
      have HLR := Lib.hid (Nat.le_trans (ln_mono (Nat.le_of_lt hlt)) hlY)
      have HRV := Lib.hid hr.val
      have HLT := Lib.hid hlt
      have HRN := Lib.hid hr
      have HY2 := Lib.hid (HY.out.below hb2)
      have HB2 := Lib.hid (HBR.out.trans (hb2.mono HBR.out.size))
      clear hlt hr hb2 HD
      go_wp2_with fail
      go_roundw
      case rel => exact ⟨Y, X % Y, HY2.out, HRN.out, hlY, HLR.out, Lib.hid (by rw [← HG.out, Nat.gcd_comm Y, ← Nat.gcd_rec, Nat.gcd_comm]), HB2.out⟩
      case measure => rw [HRV.out, HV.out]; exact HLT.out

end Go.Proofs.YtiocehlefpbbhaaGreatDoor

namespace Go.Proofs.YtiocehlefpbbhaaGreatDoor
open Go.RowKit NV

theorem ln_add_left (a b : Nat) : ln a ≤ ln (a + b) ∧ ln b ≤ ln (a + b) := ⟨ln_mono (by omega), ln_mono (by omega)⟩

theorem ca_end {a b k : Nat} (ha : ln a ≤ k) (hb : ln b ≤ k) : (0 < ca a b k ↔ k < ln (a + b)) := by
  have h1 := Nat.lt_of_lt_of_le (lt_pow_ln a) (Nat.pow_le_pow_right B_pos ha)
  have h2 := Nat.lt_of_lt_of_le (lt_pow_ln b) (Nat.pow_le_pow_right B_pos hb)
  rw [ca, Nat.mod_eq_of_lt h1, Nat.mod_eq_of_lt h2]
  constructor
  · intro h
    by_cases hk : k < ln (a + b)
    · exact hk
    · have h3 := Nat.lt_of_lt_of_le (lt_pow_ln (a + b)) (Nat.pow_le_pow_right B_pos (show ln (a + b) ≤ k by omega))
      rw [Nat.div_eq_of_lt h3] at h
      omega
  · intro h
    by_cases h3 : a + b < B ^ k
    · have := ln_le h3; omega
    · exact Nat.div_pos (by omega) (pow_pos k)

set_option maxHeartbeats 3200000 in
set_option maxRecDepth 100000 in
/-- Plus returns the sum. -/
theorem iplus_any {w : World} {x y : Value} {a b : Nat} (hx : INum w x a) (hy : INum w y b) (ha : ln a ≤ 1000000) (hb : ln b ≤ 1000000) (hs : ln (a + b) ≤ 1000001) :
    Calls Tryz.prog 31 #[x, y] w fun e w' => ∃ v, e = .returned v ∧ INum w' v (a + b) ∧ Below w.heap.size w w' := by
  obtain ⟨i0, hi, hz0, hz1, hz2⟩ := info_parts infoI
  obtain ⟨n, hn⟩ : ∃ n, n = a + b := ⟨_, rfl⟩
  have HL := Lib.hid (ln_add_left a b)
  have HCE := Lib.hid (fun k (h1 : ln a ≤ k) (h2 : ln b ≤ k) => ca_end (a := a) (b := b) h1 h2)
  have HDG := Lib.hid (fun k => dg_add a b k)
  rw [← hn] at HL HCE HDG hs ⊢
  have hown0 : w.ownsRow w.heap.size 3 1 (.slice none 0 0) 0 (ilvs n 0) := World.ownsRow_nil w _ _ _
  have hla := HL.out.1
  have hlb := HL.out.2
  obtain ⟨xa, xc, rfl⟩ := islice_any hx
  obtain ⟨ya, yc, rfl⟩ := islice_any hy
  have HX := Lib.hid hx
  have HY := Lib.hid hy
  clear hn hx hy
  go_enter Tryz.func31, Tryz.ntmps31
  go_wp2_with fail
  go_loopw [5, 6, 7] (fun v c i wr => ∃ k : Nat, k ≤ ln n ∧ i = .int .i64 k ∧ c = .int .i64 ((ca a b k : Nat) : Int) ∧ wr.ownsRow w.heap.size 3 1 v k (ilvs n k) ∧ Hid (v = .slice none 0 0 ↔ k = 0) ∧ Below w.heap.size w wr) (fun _ _ i _ => ln n - (intOf i).toNat)
  case atStart => exact ⟨0, Nat.zero_le _, rfl, by rw [ca_zero]; rfl, hown0, Lib.hid (by simp), Below.refl _ _⟩
  case round =>
    obtain ⟨k, hk, rfl, rfl, hown, hnil, hbr⟩ := hrel
    clear hown0
    have b3 := ca_le a b k
    by_cases hlt : k < ln n
    · have hcase : k < ln a ∨ ((¬ k < ln a) ∧ k < ln b) ∨ ((¬ k < ln a) ∧ (¬ k < ln b) ∧ 0 < ca a b k) := by
        by_cases h1 : k < ln a
        · exact .inl h1
        · by_cases h2 : k < ln b
          · exact .inr (.inl ⟨h1, h2⟩)
          · exact .inr (.inr ⟨h1, h2, (HCE.out k (by omega) (by omega)).2 hlt⟩)
      have hxr := HX.out.below hbr
      have hyr := HY.out.below hbr
      have b1 := dg_lt a k
      have b2 := dg_lt b k
      have HXR := Lib.hid hxr
      have HYR := Lib.hid hyr
      obtain ⟨C, hC⟩ : ∃ C, C = ca a b k := ⟨_, rfl⟩
      have HC := Lib.hid hC
      rw [← hC] at b3 hcase ⊢
      clear hxr hyr hC
      refine Or.elim hcase (fun h => ?c1) (fun h => Or.elim h (fun h => ?c2) (fun h => ?c3))
      case' c1 => clear hcase
      case' c2 => obtain ⟨h1, h2⟩ := h; clear hcase
      case' c3 => obtain ⟨h1, h2, h3⟩ := h; have h4 : (0 : Int) < (C : Int) := by omega
                  clear hcase
      all_goals
        go_upto_if 27 with fail
        go_cut [6] from 8 to 50 (fun s6 wx => s6 = .int .i64 ((C + dg a k : Nat) : Int) ∧ wx = wr)
        case first =>
          by_cases hka : k < ln a
          · obtain ⟨xb, rfl⟩ := HXR.out.addr (by omega)
            have c1 := HXR.out.cell hka
            go_wp2_with fail
            go_meet
            exact ⟨congrArg (Value.int .i64) (by omega), rfl⟩
          · first
              | exact absurd ‹k < ln a› hka
              | (have HZ := Lib.hid (dg_past (n := a) (k := k) (by omega))
                 go_wp2_with fail
                 go_meet
                 exact ⟨congrArg (Value.int .i64) (by rw [HZ.out]; omega), rfl⟩)
        case rest =>
        obtain ⟨rfl, rfl⟩ := hcut
        go_upto_if 37 with fail
        go_cut [6] from 8 to 50 (fun s6 wx => s6 = .int .i64 ((dg a k + dg b k + C : Nat) : Int) ∧ wx = wc)
        case first =>
          by_cases hkb : k < ln b
          · obtain ⟨yb, rfl⟩ := HYR.out.addr (by omega)
            have c1 := HYR.out.cell hkb
            go_wp2_with fail
            go_meet
            exact ⟨congrArg (Value.int .i64) (by omega), rfl⟩
          · first
              | exact absurd ‹k < ln b› hkb
              | (have HZ := Lib.hid (dg_past (n := b) (k := k) (by omega))
                 go_wp2_with fail
                 go_meet
                 exact ⟨congrArg (Value.int .i64) (by rw [HZ.out]; omega), rfl⟩)
        case rest =>
        obtain ⟨rfl, rfl⟩ := hcut
        have hv : ((dg a k + dg b k + C : Nat) : Int) % 1000000000 = ((dg n k : Nat) : Int) := by have := HDG.out k; rw [← HC.out] at this; omega
        have HV := Lib.hid hv
        have HW := Lib.hid (show ((dg a k + dg b k + C : Nat) : Int) / 1000000000 = ((ca a b (k + 1) : Nat) : Int) by rw [ca_succ, ← HC.out]; omega)
        obtain ⟨S, hS⟩ : ∃ S : Nat, S = dg a k + dg b k + C := ⟨_, rfl⟩
        rw [← hS] at HV HW ⊢
        have hSb : S ≤ 2000000000 := by omega
        clear hv hS
        have HNEWS := Lib.hid (cell_one_new wc (.int .i64 ((S : Int) % 1000000000)) 3 0 (.int .i64 ((S : Int) % 1000000000)) rfl)
        have hbe : Below wc.heap.size wc (wc.alloc (.cells #[.int .i64 ((S : Int) % 1000000000)] 3)) := (Below.refl _ _).alloc (Nat.le_refl _) _
        have hsr := hbr.size
        have hownA := owns_below hown hbe
        have hbA := hbr.trans (hbe.mono hsr)
        have hbase : w.heap.size ≤ (wc.alloc (.cells #[.int .i64 ((S : Int) % 1000000000)] 3)).heap.size := by simp; omega
        clear hown hbr hbe
        go_wp2_with (at_builtin; refine wpList_append_own _ rfl _ _ 46 rfl w.heap.size 3 i0 (.int .i64 0) 1 8 Tryz.underlying46 hi hz0 hz1 hz2 rfl (by decide) _ k _ rfl hownA ⟨wc.heap.size, 0, none⟩ 1 1 [.int .i64 ((S : Int) % 1000000000)] rfl rfl (by
          intro j u hj
          obtain rfl : j = 0 := by
            have := (List.getElem?_eq_some_iff.1 hj).1
            simpa using this
          simp at hj
          subst hj
          exact HNEWS.out) (by intro u hu; simp at hu; subst hu; rfl) (by unfold maxLen; omega) (by omega) hbase ?_)
        intro v' w3 hown3 hgrow3 hnil3
        rw [HV.out, ← ilvs_succ] at hown3
        have hb3 : Below w.heap.size w w3 := hbA.grown hgrow3 hbase (fun b hb => (World.ownsRow.lt hownA b hb).1)
        have HF := Lib.hid (And.intro hown3 hb3)
        have HNIL := Lib.hid hnil3
        clear hown3 hgrow3 hb3 hnil3 hownA hbA
        go_wp2_with fail
        go_roundw
        case rel => exact ⟨k + 1, by omega, by go_num, by rw [HW.out], HF.out.1, Lib.hid ⟨fun h => absurd h HNIL.out, fun h => by omega⟩, HF.out.2⟩
        case measure => simp [intOf]; omega
    · obtain rfl : k = ln n := by omega
      have h1 : ¬ ln n < ln a := by omega
      have h2 : ¬ ln n < ln b := by omega
      have h3 : ca a b (ln n) = 0 := by
        by_cases h : ca a b (ln n) = 0
        · exact h
        · have := (HCE.out (ln n) (by omega) (by omega)).1 (by omega); omega
      have HR := Lib.hid (show INum wr u5 n by
        by_cases h0 : ln n = 0
        · rw [hnil.out.2 h0, ln_eq_zero h0]; exact INum.nil _
        · obtain ⟨g, c, rfl, hg, hgl, hkc, hcell⟩ := iown_form hown (fun e => h0 (hnil.out.1 e))
          exact inum_of hgl (Nat.le_refl _) hkc hcell)
      rw [h3]
      have HB := Lib.hid hbr
      clear hown hbr hlt h3
      go_wp2_with fail
      go_ret
      exact ⟨_, rfl, HR.out, HB.out⟩

set_option maxHeartbeats 800000 in
theorem itrim_nil (w : World) :
    Calls Tryz.prog 54 #[.slice none 0 0] w fun e w' => e = .returned (.slice none 0 0) ∧ w = w' := by
  go_enter Tryz.func54, Tryz.ntmps54
  go_wp2
  go_loop [0] (fun s => s = .slice none 0 0) (fun _ => 0)
  case atStart => rfl
  case round =>
    subst hrel
    go_wp2
    go_ret
    exact ⟨rfl, rfl⟩

set_option maxHeartbeats 3200000 in
set_option maxRecDepth 100000 in
/-- Minus returns the difference. -/
theorem iminus_any {w : World} {x y : Value} {a b : Nat} (hx : INum w x a) (hy : INum w y b) (ha : ln a ≤ 1000000) (hba : b ≤ a) :
    Calls Tryz.prog 36 #[x, y] w fun e w' => ∃ v, e = .returned v ∧ INum w' v (a - b) ∧ Below w.heap.size w w' := by
  obtain ⟨i0, hi, hz0, hz1, hz2⟩ := info_parts infoI
  have hlb := ln_mono hba
  have hlt0 : a - b < B ^ ln a := Nat.lt_of_le_of_lt (by omega) (lt_pow_ln a)
  have HSUB := Lib.hid (fun k => dg_sub hba k)
  have HLT := Lib.hid hlt0
  have HN0 := Lib.hid (show ln a = 0 → a - b = 0 from fun h => by rw [ln_eq_zero h]; omega)
  obtain ⟨n, hn⟩ : ∃ n, n = a - b := ⟨_, rfl⟩
  rw [← hn] at HSUB HLT HN0 ⊢
  have hown0 : w.ownsRow w.heap.size 3 1 (.slice none 0 0) 0 (ilvs n 0) := World.ownsRow_nil w _ _ _
  obtain ⟨xa, xc, rfl⟩ := islice_any hx
  obtain ⟨ya, yc, rfl⟩ := islice_any hy
  have HX := Lib.hid hx
  have HY := Lib.hid hy
  clear hn hx hy hba hlt0
  go_enter Tryz.func36, Tryz.ntmps36
  go_wp2_with fail
  go_loopw [5, 6, 7] (fun v c i wr => ∃ k : Nat, k ≤ ln a ∧ i = .int .i64 k ∧ c = .int .i64 ((bo a b k : Nat) : Int) ∧ wr.ownsRow w.heap.size 3 1 v k (ilvs n k) ∧ Hid (v = .slice none 0 0 ↔ k = 0) ∧ Below w.heap.size w wr) (fun _ _ i _ => ln a - (intOf i).toNat)
  case atStart => exact ⟨0, Nat.zero_le _, rfl, by rw [bo_zero]; rfl, hown0, Lib.hid (by simp), Below.refl _ _⟩
  case round =>
    obtain ⟨k, hk, rfl, rfl, hown, hnil, hbr⟩ := hrel
    clear hown0
    have b3 := bo_le a b k
    by_cases hlt : k < ln a
    · have hxr := HX.out.below hbr
      have hyr := HY.out.below hbr
      have b1 := dg_lt a k
      have b2 := dg_lt b k
      obtain ⟨xb, rfl⟩ := hxr.addr (by omega)
      have c0 := hxr.cell hlt
      have HYR := Lib.hid hyr
      obtain ⟨C, hC⟩ : ∃ C, C = bo a b k := ⟨_, rfl⟩
      have HC := Lib.hid hC
      rw [← hC] at b3 ⊢
      clear hxr hyr hC
      go_upto_if 24 with fail
      go_cut [8] from 9 to 38 (fun s8 wx => s8 = .int .i64 (((dg a k : Nat) : Int) - (C : Int) - ((dg b k : Nat) : Int)) ∧ wx = wr)
      case first =>
        by_cases hkb : k < ln b
        · obtain ⟨yb, rfl⟩ := HYR.out.addr (by omega)
          have c1 := HYR.out.cell hkb
          go_wp2_with fail
          go_meet
          exact ⟨rfl, rfl⟩
        · have HZ := Lib.hid (dg_past (n := b) (k := k) (by omega))
          go_wp2_with fail
          go_meet
          exact ⟨congrArg (Value.int .i64) (by rw [HZ.out]; omega), rfl⟩
      case rest =>
      obtain ⟨rfl, rfl⟩ := hcut
      go_upto_if 32 with fail
      go_cut [6, 8] from 9 to 38 (fun s6 s8 wx => s6 = .int .i64 ((bo a b (k + 1) : Nat) : Int) ∧ s8 = .int .i64 ((dg n k : Nat) : Int) ∧ wx = wc)
      case first =>
        have hs := HSUB.out k
        rw [← HC.out] at hs
        obtain ⟨e1, e2⟩ := hs
        have HE1 := Lib.hid e1
        have HE2 := Lib.hid e2
        clear e1 e2
        by_cases hneg : ((dg a k : Nat) : Int) - (C : Int) - ((dg b k : Nat) : Int) < 0
        · go_wp2_with fail
          go_meet
          exact ⟨congrArg (Value.int .i64) (by have := HE2.out; omega), congrArg (Value.int .i64) (by have := HE1.out; omega), rfl⟩
        · go_wp2_with fail
          go_meet
          exact ⟨congrArg (Value.int .i64) (by have := HE2.out; omega), congrArg (Value.int .i64) (by have := HE1.out; omega), rfl⟩
      case rest =>
      obtain ⟨rfl, rfl, rfl⟩ := hcut
      have b5 := dg_lt n k
      have HNEWS := Lib.hid (cell_one_new wc (.int .i64 ((dg n k : Nat) : Int)) 3 0 (.int .i64 ((dg n k : Nat) : Int)) rfl)
      have hbe : Below wc.heap.size wc (wc.alloc (.cells #[.int .i64 ((dg n k : Nat) : Int)] 3)) := (Below.refl _ _).alloc (Nat.le_refl _) _
      have hsr := hbr.size
      have hownA := owns_below hown hbe
      have hbA := hbr.trans (hbe.mono hsr)
      have hbase : w.heap.size ≤ (wc.alloc (.cells #[.int .i64 ((dg n k : Nat) : Int)] 3)).heap.size := by simp; omega
      clear hown hbr hbe
      go_wp2_with (at_builtin; refine wpList_append_own _ rfl _ _ 46 rfl w.heap.size 3 i0 (.int .i64 0) 1 8 Tryz.underlying46 hi hz0 hz1 hz2 rfl (by decide) _ k _ rfl hownA ⟨wc.heap.size, 0, none⟩ 1 1 [.int .i64 ((dg n k : Nat) : Int)] rfl rfl (by
        intro j u hj
        obtain rfl : j = 0 := by
          have := (List.getElem?_eq_some_iff.1 hj).1
          simpa using this
        simp at hj
        subst hj
        exact HNEWS.out) (by intro u hu; simp at hu; subst hu; rfl) (by unfold maxLen; omega) (by omega) hbase ?_)
      intro v' w3 hown3 hgrow3 hnil3
      rw [← ilvs_succ] at hown3
      have hb3 : Below w.heap.size w w3 := hbA.grown hgrow3 hbase (fun b hb => (World.ownsRow.lt hownA b hb).1)
      have HF := Lib.hid (And.intro hown3 hb3)
      have HNIL := Lib.hid hnil3
      clear hown3 hgrow3 hb3 hnil3 hownA hbA
      go_wp2_with fail
      go_roundw
      case rel => exact ⟨k + 1, by omega, by go_num, rfl, HF.out.1, Lib.hid ⟨fun h => absurd h HNIL.out, fun h => by omega⟩, HF.out.2⟩
      case measure => simp [intOf]; omega
    · obtain rfl : k = ln a := by omega
      have HB := Lib.hid hbr
      by_cases h0 : ln a = 0
      · have hv := hnil.out.2 h0
        subst hv
        have HR := Lib.hid (show INum wr (.slice none 0 0) n by rw [HN0.out h0]; exact INum.nil _)
        clear hown hbr
        go_wp2_with fail
        refine (itrim_nil _).mono ?_
        rintro e w2 ⟨rfl, rfl⟩
        go_wp2_with fail
        go_ret
        exact ⟨_, rfl, HR.out, HB.out⟩
      · obtain ⟨g, c, rfl, hg, hgl, hkc, hcell⟩ := iown_form hown (fun e => h0 (hnil.out.1 e))
        have HR := Lib.hid (inum_of hgl (ln_le HLT.out) hkc hcell)
        have HTR := Lib.hid (itrim_any (n := n) (by omega) hkc HLT.out hcell)
        clear hown hbr hcell
        go_wp2_with fail
        refine HTR.out.mono ?_
        rintro e w2 ⟨rfl, rfl⟩
        go_wp2_with fail
        go_ret
        exact ⟨_, rfl, HR.out, HB.out⟩

end Go.Proofs.YtiocehlefpbbhaaGreatDoor
