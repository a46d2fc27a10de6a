/-
  The mathematics of MomentPure: a power is at most its chord; moments of distributions that differ by at most a factor; the two outcomes.
-/
import Derived.Test.YtjpepjooefkbkaaGreatDoorHN
namespace Go.Proofs.YtjpepjooefkbkaaGreatDoor
open Go.RowKit NV Go.Maps Go.Sort Go.Shelf
open Go.Lib (decDigits)
def chd (r ri : Rat) : Nat → Rat × Rat
 | 0 => (1, 0)
 | a + 1 => (-(chd r ri a).2, (chd r ri a).1 + (r + ri) * (chd r ri a).2)
theorem chd_r {r ri : Rat} (h : r * ri = 1) : ∀ a, (chd r ri a).1 + (chd r ri a).2 * r = r ^ a
 | 0 => by rw [Rat.pow_zero]; show (1 : Rat) + 0 * r = 1; grind
 | a + 1 => by
  have ih := chd_r h a
  rw [Rat.pow_succ, ← ih]
  show -(chd r ri a).2 + ((chd r ri a).1 + (r + ri) * (chd r ri a).2) * r = _
  generalize (chd r ri a).1 = A
  generalize (chd r ri a).2 = B
  have e : (r + ri) * B * r = B * (r * r) + B * (r * ri) := by grind
  have e2 : (A + (r + ri) * B) * r = A * r + (r + ri) * B * r := by grind
  rw [e2, e, h]
  grind
theorem chd_ri {r ri : Rat} (h : r * ri = 1) : ∀ a, (chd r ri a).1 + (chd r ri a).2 * ri = ri ^ a
 | 0 => by rw [Rat.pow_zero]; show (1 : Rat) + 0 * ri = 1; grind
 | a + 1 => by
  have ih := chd_ri h a
  rw [Rat.pow_succ, ← ih]
  show -(chd r ri a).2 + ((chd r ri a).1 + (r + ri) * (chd r ri a).2) * ri = _
  generalize (chd r ri a).1 = A
  generalize (chd r ri a).2 = B
  have e : (r + ri) * B * ri = B * (ri * ri) + B * (r * ri) := by grind
  have e2 : (A + (r + ri) * B) * ri = A * ri + (r + ri) * B * ri := by grind
  rw [e2, e, h]
  grind
theorem chd_nn {r ri : Rat} (h : r * ri = 1) (h1 : 1 ≤ r) (h0 : 0 ≤ ri) : ∀ a, 0 ≤ (chd r ri a).2 ∧ -(chd r ri a).1 ≤ (chd r ri a).2
 | 0 => ⟨Rat.le_refl, by show -(1 : Rat) ≤ 0; decide⟩
 | a + 1 => by
  obtain ⟨i1, i2⟩ := chd_nn h h1 h0 a
  have hri : ri ≤ 1 := by
   have := Rat.mul_nonneg (show 0 ≤ r - 1 by grind) h0
   have e : (r - 1) * ri = r * ri - ri := by grind
   rw [e, h] at this
   grind
  have h2 : 2 ≤ r + ri := by
   have := Rat.mul_nonneg (show 0 ≤ r - 1 by grind) (show 0 ≤ 1 - ri by grind)
   have e : (r - 1) * (1 - ri) = r + ri - 1 - r * ri := by grind
   rw [e, h] at this
   grind
  have h3 := Rat.mul_nonneg (show 0 ≤ r + ri - 2 by grind) i1
  show 0 ≤ (chd r ri a).1 + (r + ri) * (chd r ri a).2 ∧ - -(chd r ri a).2 ≤ (chd r ri a).1 + (r + ri) * (chd r ri a).2
  generalize (chd r ri a).1 = A at *
  generalize (chd r ri a).2 = B at *
  have e : (r + ri - 2) * B = (r + ri) * B - 2 * B := by grind
  rw [e] at h3
  generalize (r + ri) * B = z at *
  exact ⟨by grind, by grind⟩
theorem chd_le {r ri t : Rat} (h : r * ri = 1) (h1 : 1 ≤ r) (h0 : 0 ≤ ri) (t0 : ri ≤ t) (t1 : t ≤ r) : ∀ a, t ^ a ≤ (chd r ri a).1 + (chd r ri a).2 * t
 | 0 => by rw [Rat.pow_zero]; show (1 : Rat) ≤ 1 + 0 * t; grind
 | a + 1 => by
  have ih := chd_le h h1 h0 t0 t1 a
  have hB := (chd_nn h h1 h0 a).1
  have tn : 0 ≤ t := Rat.le_trans h0 t0
  have m1 := Rat.mul_nonneg (show 0 ≤ (chd r ri a).1 + (chd r ri a).2 * t - t ^ a by grind) tn
  have m2 := Rat.mul_nonneg hB (Rat.mul_nonneg (show 0 ≤ r - t by grind) (show 0 ≤ t - ri by grind))
  rw [Rat.pow_succ]
  show _ ≤ -(chd r ri a).2 + ((chd r ri a).1 + (r + ri) * (chd r ri a).2) * t
  generalize t ^ a = y at *
  generalize (chd r ri a).1 = A at *
  generalize (chd r ri a).2 = B at *
  have e1 : (A + B * t - y) * t = A * t + B * (t * t) - y * t := by grind
  have e2 : B * ((r - t) * (t - ri)) = (r + ri) * B * t - B * (r * ri) - B * (t * t) := by grind
  have e3 : (A + (r + ri) * B) * t = A * t + (r + ri) * B * t := by grind
  rw [e1] at m1
  rw [e2, h] at m2
  rw [e3]
  generalize (r + ri) * B * t = z at *
  generalize B * (t * t) = x at *
  generalize y * t = u at *
  generalize A * t = v at *
  grind
theorem chd_one {r ri : Rat} (h : r * ri = 1) (a : Nat) : ((chd r ri (a + 1)).1 + (chd r ri (a + 1)).2) * (r + 1) = r ^ (a + 1) + ri ^ a := by
 have e1 := chd_r h (a + 1)
 have e2 := chd_ri h (a + 1)
 rw [Rat.pow_succ ri] at e2
 have e3 : r * (ri ^ a * ri) = ri ^ a := by
  have : r * (ri ^ a * ri) = ri ^ a * (r * ri) := by grind
  rw [this, h, Rat.mul_one]
 rw [← e2] at e3
 generalize ri ^ a = y at *
 generalize (chd r ri (a + 1)).1 = A at *
 generalize (chd r ri (a + 1)).2 = B at *
 have e4 : r * (A + B * ri) = A * r + B * (r * ri) := by grind
 rw [e4, h] at e3
 rw [← e1, ← e3]
 grind
theorem ks_all {P Q : List MI} (hq : DiL Q) (hp : DiL P) (h' : allZ Q P = true) : ks P (vQ Q) P.length = 1 := by
 refine Rat.le_antisymm ?_ ?_
 ·rw [← hq.kone]
  exact inject hp.srt (Nat.le_refl _) (fun k => hq.nn k) (fun k hk => vQ_out hk)
 ·rw [← hq.kone]
  refine inject hq.srt (Nat.le_refl _) (fun k => hq.nn k) (fun k hk => vQ_out ?_)
  cases hh : hasZ k Q with
  | false => rfl
  | true =>
   exfalso
   obtain ⟨j, hj, e⟩ := has_get hh
   unfold allZ at h'
   rw [List.all_eq_true] at h'
   have hm : getZ Q j ∈ Q := by
    unfold getZ
    rw [List.getD_eq_getElem?_getD, List.getElem?_eq_getElem hj]
    exact List.getElem_mem hj
   have := h' _ hm
   rw [e, hk] at this
   cases this
theorem mom_pure {P Q : List MI} {r : Rat} {k : Nat} (hp : DiL P) (hq : DiL Q) (h : allZ P Q = true) (h' : allZ Q P = true) (h1 : 1 ≤ r) (hlo : ∀ i, i < P.length → vQ Q (kZ (getZ P i)) ≤ r * qZ P i) (hhi : ∀ i, i < P.length → qZ P i ≤ r * vQ Q (kZ (getZ P i))) : momQ P Q (k + 1) ≤ ofM r k := by
 have r0 : 0 < r := by grind
 have hri : r * r⁻¹ = 1 := Rat.mul_inv_cancel r (Ne.symm (Rat.ne_of_lt r0))
 have hi0 : 0 ≤ r⁻¹ := Rat.le_of_lt (Rat.inv_pos.2 r0)
 have hle : momQ P Q (k + 1) ≤ sm (fun i => (chd r r⁻¹ (k + 2)).1 * vQ Q (kZ (getZ P i)) + (chd r r⁻¹ (k + 2)).2 * qZ P i) P.length := sm_le fun i hi => by
  have hq0 := all_pos hq h hi
  have hqn : vQ Q (kZ (getZ P i)) ≠ 0 := Ne.symm (Rat.ne_of_lt hq0)
  have a1 := hlo i hi
  have a2 := hhi i hi
  rw [qpV_eq hqn]
  have hc := Rat.mul_inv_cancel _ hqn
  have hz : 0 < (vQ Q (kZ (getZ P i)))⁻¹ := Rat.inv_pos.2 hq0
  generalize vQ Q (kZ (getZ P i)) = q at *
  generalize qZ P i = p at *
  have t1 : p * q⁻¹ ≤ r := by
   have m := Rat.mul_nonneg (show 0 ≤ r * q - p by grind) (Rat.le_of_lt hz)
   have e : (r * q - p) * q⁻¹ = r * (q * q⁻¹) - p * q⁻¹ := by grind
   rw [e, hc] at m
   grind
  have t0 : r⁻¹ ≤ p * q⁻¹ := by
   have m := Rat.mul_nonneg (Rat.mul_nonneg (show 0 ≤ r * p - q by grind) (Rat.le_of_lt hz)) hi0
   have e : (r * p - q) * q⁻¹ * r⁻¹ = (r * r⁻¹) * (p * q⁻¹) - (q * q⁻¹) * r⁻¹ := by grind
   rw [e, hc, hri] at m
   grind
  have hch := chd_le hri h1 hi0 t0 t1 (k + 1 + 1)
  have m := Rat.mul_nonneg (Rat.le_of_lt hq0) (show 0 ≤ (chd r r⁻¹ (k + 1 + 1)).1 + (chd r r⁻¹ (k + 1 + 1)).2 * (p * q⁻¹) - (p * q⁻¹) ^ (k + 1 + 1) by grind)
  show q * (p * q⁻¹) ^ (k + 1 + 1) ≤ (chd r r⁻¹ (k + 1 + 1)).1 * q + (chd r r⁻¹ (k + 1 + 1)).2 * p
  generalize (p * q⁻¹) ^ (k + 1 + 1) = y at *
  generalize (chd r r⁻¹ (k + 1 + 1)).1 = A at *
  generalize (chd r r⁻¹ (k + 1 + 1)).2 = B at *
  have e : q * (A + B * (p * q⁻¹) - y) = A * q + B * p * (q * q⁻¹) - q * y := by grind
  rw [e, hc] at m
  grind
 refine Rat.le_trans hle ?_
 rw [sm_add, sm_mul, sm_mul]
 have s1 : sm (fun i => vQ Q (kZ (getZ P i))) P.length = 1 := ks_all hq hp h'
 have s2 : sm (fun i => qZ P i) P.length = 1 := hp.one
 rw [s1, s2, Rat.mul_one, Rat.mul_one]
 have hone := chd_one hri (k + 1)
 unfold ofM
 have hs : (r + 1) ≠ 0 := by grind
 have hcs := Rat.mul_inv_cancel _ hs
 show (chd r r⁻¹ (k + 1 + 1)).1 + (chd r r⁻¹ (k + 1 + 1)).2 ≤ (r ^ (k + 1 + 1) + r⁻¹ ^ (k + 1)) * (r + 1)⁻¹
 rw [← hone]
 generalize (chd r r⁻¹ (k + 1 + 1)).1 + (chd r r⁻¹ (k + 1 + 1)).2 = z at *
 have e : z * (r + 1) * (r + 1)⁻¹ = z * ((r + 1) * (r + 1)⁻¹) := by grind
 rw [e, hcs, Rat.mul_one]
 exact Rat.le_refl
theorem two_mom {f l s : Rat} {k : Nat} (f1 : 1 ≤ f) (hs : s = (f + 1)⁻¹) (hl : l = 1 - s) : qpV (k + 1) l s + qpV (k + 1) s l = ofM f k := by
 have f0 : 0 < f := by grind
 have hg : (f + 1) ≠ 0 := by grind
 have hc := Rat.mul_inv_cancel _ hg
 rw [← hs] at hc
 have hlf : l = f * s := by
  rw [hl]
  grind
 have hs0 : 0 < s := by rw [hs]; exact Rat.inv_pos.2 (by grind)
 have hl0 : 0 < l := by rw [hlf]; exact Rat.mul_pos f0 hs0
 have hsn : s ≠ 0 := Ne.symm (Rat.ne_of_lt hs0)
 have hln : l ≠ 0 := Ne.symm (Rat.ne_of_lt hl0)
 have hfn : f ≠ 0 := Ne.symm (Rat.ne_of_lt f0)
 have e1 : l * s⁻¹ = f := by
  have := Rat.mul_inv_cancel s hsn
  rw [hlf]
  have e : f * s * s⁻¹ = f * (s * s⁻¹) := by grind
  rw [e, this, Rat.mul_one]
 have e2 : s * l⁻¹ = f⁻¹ := by
  have h1 := Rat.mul_inv_cancel l hln
  have h2 := Rat.mul_inv_cancel f hfn
  have e : s * l⁻¹ = (f * s) * l⁻¹ * f⁻¹ := by
   have : (f * s) * l⁻¹ * f⁻¹ = (f * f⁻¹) * (s * l⁻¹) := by grind
   rw [this, h2, Rat.one_mul]
  rw [e, ← hlf, h1, Rat.one_mul]
 rw [qpV_eq hsn, qpV_eq hln, e1, e2]
 unfold ofM
 rw [← hs, Rat.pow_succ f⁻¹ (k + 1), hlf]
 have h2 := Rat.mul_inv_cancel f hfn
 show s * f ^ (k + 2) + _ = _
 generalize f ^ (k + 2) = x
 generalize f⁻¹ ^ (k + 1) = y
 have e : f * s * (y * f⁻¹) = (f * f⁻¹) * (s * y) := by grind
 rw [e, h2]
 grind
end Go.Proofs.YtjpepjooefkbkaaGreatDoor
