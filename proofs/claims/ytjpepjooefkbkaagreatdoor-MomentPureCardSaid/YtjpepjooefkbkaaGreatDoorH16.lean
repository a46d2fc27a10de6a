/-
  MomentPure: Fits over rationals; what it asks of two distributions.
-/
import Derived.Test.YtjpepjooefkbkaaGreatDoorH15
namespace Go.Proofs.YtjpepjooefkbkaaGreatDoor
open Go.RowKit NV Go.Maps Go.Sort Go.Shelf
open Go.Lib (decDigits)
theorem mxQ_of_le {a b : Rat} (h : a ≤ b) : mxQ a b = b := by unfold mxQ; rw [if_neg (Rat.not_lt.2 h)]
theorem mFits_q {M N : Nat → Rat} {L K : Rat} (h1 : CQ M L) (h2 : CQ N K) (hle : ∀ k, k < 7 → M k ≤ N k) (hl : L ≤ K) {w : World} (hm : ∀ W, Below w.heap.size w W → ML W) :
  Calls Tryz.prog 14 #[.agg #[.string (cvQ M L 0), .string (cvQ M L 1), .string (cvQ M L 2), .string (cvQ M L 3), .string (cvQ M L 4), .string (cvQ M L 5), .string (cvQ M L 6), .string (cvQ M L 7)], .agg #[.string (cvQ N K 0), .string (cvQ N K 1), .string (cvQ N K 2), .string (cvQ N K 3), .string (cvQ N K 4), .string (cvQ N K 5), .string (cvQ N K 6), .string (cvQ N K 7)]] w fun e w' => e = .returned (.tuple #[.bool true, .int .i64 0]) ∧ Below w.heap.size w w' := by
 refine mFits_ok (a := cvQ M L) (b := cvQ N K) (fun W hb => ?_) (fun k W hk hb => ?_) (fun W hb => ?_)
 ·exact mBoth_ok (a := cvQ M L) (b := cvQ N K) (fun W2 hb2 => mCheck_q h1 fun W3 hb3 => hm W3 (hb.trans ((hb2.trans (hb3.mono hb2.size)).mono hb.size))) (fun W2 hb2 => mCheck_q h2 fun W3 hb3 => hm W3 (hb.trans ((hb2.trans (hb3.mono hb2.size)).mono hb.size)))
 ·have h := Max_oQ (M k) (N k) (h1.mok k hk) (h2.mok k hk) W (hm W hb)
  rw [mxQ_of_le (hle k hk)] at h
  have e1 : cvQ M L k = qstr (M k) := if_pos hk
  have e2 : cvQ N K k = qstr (N k) := if_pos hk
  rw [e1, e2]
  exact h
 ·have h := Max_oQ L K h1.lok h2.lok W (hm W hb)
  rw [mxQ_of_le hl] at h
  exact h
theorem of_ok {r : Rat} (h1 : 1 ≤ r) (hs : Sz 60 r) : OfOk r ∧ ∀ k, k < 7 → QOk (ofM r k) := by
 have p : ∀ k, k ≤ 8 → Sz 481 (r ^ k) := fun k hk => (pow_szM hs (by omega) k).mono (by omega)
 have q : ∀ k, k ≤ 8 → Sz 489 (r⁻¹ ^ k) := fun k hk => (pow_szM hs.inv (by omega) k).mono (by omega)
 have s1 : Sz 62 (r + 1) := (hs.add (j := 1) ⟨by decide, by decide⟩).mono (by omega)
 have a : ∀ k, k < 7 → Sz 971 (r ^ (k + 2) + r⁻¹ ^ (k + 1)) := fun k hk => ((p (k + 2) (by omega)).add (q (k + 1) (by omega))).mono (by omega)
 have m : ∀ k, k < 7 → Sz 1034 (ofM r k) := fun k hk => ((a k hk).mul s1.inv).mono (by omega)
 exact ⟨⟨hs.qok (by omega) (by omega), h1, s1.qok (by omega) (by omega), fun k hk => (p (k + 2) (by omega)).qok (by omega) (by omega), fun k hk => (q (k + 1) (by omega)).qok (by omega) (by omega), fun k hk => (a k hk).qok (by omega) (by omega), fun k hk => (m k hk).qok (by omega) (by omega)⟩, fun k hk => (m k hk).qok (by omega) (by omega)⟩
theorem pure_num {P Q : List MI} (cp : chkZ P = 0) (cq : chkZ Q = 0) (h6 : sixB P = true) (h7 : sixB Q = true) (h : allZ P Q = true) (h' : allZ Q P = true) :
  ∃ x y, facE P Q = (qstr x, true, 0) ∧ facE Q P = (qstr y, true, 0) ∧ QOk x ∧ QOk y ∧ OfOk (mxQ x y) ∧ CQ (ofM (mxQ x y)) 0 ∧ (∀ k, k < 7 → curM P Q k ≤ ofM (mxQ x y) k) := by
 have hp := DiL.of cp
 have hq := DiL.of cq
 have l6 := few_lit (six_few h6)
 have l7 := few_lit (six_few h7)
 obtain ⟨x, e1, sx, x0, dx, x1, _⟩ := fac_yes l6 l7 cp cq h
 obtain ⟨y, e2, sy, y0, dy, y1, _⟩ := fac_yes l7 l6 cq cp h'
 have hr1 : 1 ≤ mxQ x y := Rat.le_trans x1 mxQ_ge1
 have a1 : ∀ i, i < P.length → qZ P i ≤ mxQ x y * vQ Q (kZ (getZ P i)) := fun i hi => by
  have h1 := dl_zero.1 dx i hi
  have h2 := Rat.mul_nonneg (show 0 ≤ mxQ x y - x by have := mxQ_ge1 (a := x) (b := y); grind) (Rat.le_of_lt (all_pos hq h hi))
  generalize vQ Q (kZ (getZ P i)) = z at *
  generalize mxQ x y = r at *
  grind
 have b1 : ∀ i, i < Q.length → qZ Q i ≤ mxQ x y * vQ P (kZ (getZ Q i)) := fun i hi => by
  have h1 := dl_zero.1 dy i hi
  have h2 := Rat.mul_nonneg (show 0 ≤ mxQ x y - y by have := mxQ_ge2 (a := x) (b := y); grind) (Rat.le_of_lt (all_pos hp h' hi))
  generalize vQ P (kZ (getZ Q i)) = z at *
  generalize mxQ x y = r at *
  grind
 have a2 : ∀ i, i < P.length → vQ Q (kZ (getZ P i)) ≤ mxQ x y * qZ P i := fun i hi => by
  have hh := all_has h hi
  obtain ⟨j, hj, e⟩ := has_get hh
  have h1 := b1 j hj
  rw [e, vQ_get hp.srt hi] at h1
  rw [← e, vQ_get hq.srt hj]
  exact h1
 have b2 : ∀ i, i < Q.length → vQ P (kZ (getZ Q i)) ≤ mxQ x y * qZ Q i := fun i hi => by
  have hh := all_has h' hi
  obtain ⟨j, hj, e⟩ := has_get hh
  have h1 := a1 j hj
  rw [e, vQ_get hq.srt hi] at h1
  rw [← e, vQ_get hp.srt hj]
  exact h1
 have hle : ∀ k, k < 7 → curM P Q k ≤ ofM (mxQ x y) k := fun k _ => mxQ_le (mom_pure hp hq h h' hr1 a2 a1) (mom_pure hq hp h' h hr1 b2 b1)
 have ho := of_ok hr1 (mxQ_sz sx sy)
 exact ⟨x, y, e1, e2, sx.qok (by omega) (by omega), sy.qok (by omega) (by omega), ho.1, ⟨ho.2, fun k hk => Rat.le_trans (Rat.le_trans (mom_ge1 hp hq h) mxQ_ge1) (hle k hk), o0Q, Rat.le_refl, by decide⟩, hle⟩
end Go.Proofs.YtjpepjooefkbkaaGreatDoor
