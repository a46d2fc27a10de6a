/-
  LossKeeps is walked.
-/
import Derived.Test.YtofanopnibbaeaaGreatDoorLB
import Derived.Test.YtofanopnibbaeaaGreatDoorHB
import Derived.Test.YtofanopnibbaeaaGreatDoorU21
namespace Go.Proofs.YtofanopnibbaeaaGreatDoor
section
open Go.RowKit

theorem cast_nnA (n : Nat) : (0 : Rat) ≤ (n : Rat) := by
  have : ((0 : Int) : Rat) ≤ ((n : Int) : Rat) := Rat.intCast_le_intCast.2 (by omega)
  exact this
theorem bern {t : Rat} (h0 : 0 ≤ t) (h1 : t ≤ 1) : ∀ n : Nat, 1 - (n : Rat) * t ≤ (1 - t) ^ n ∧ 0 ≤ (1 - t) ^ n
  | 0 => by rw [Rat.pow_zero]; constructor <;> grind
  | n + 1 => by
    obtain ⟨h2, h3⟩ := bern h0 h1 n
    have e : ((n + 1 : Nat) : Rat) = (n : Rat) + 1 := by rw [Rat.natCast_add]; rfl
    rw [Rat.pow_succ, e]
    generalize (1 - t) ^ n = x at *
    have hn := cast_nnA n
    generalize (n : Rat) = m at *
    have h4 := Rat.mul_nonneg h3 (show 0 ≤ 1 - t by grind)
    refine ⟨?_, h4⟩
    have h5 := Rat.mul_nonneg (show 0 ≤ x - (1 - m * t) by grind) (show 0 ≤ 1 - t by grind)
    have hm : 0 ≤ m * (t * t) := Rat.mul_nonneg hn (Rat.mul_nonneg h0 h0)
    grind
theorem pow_nn {x : Rat} (h : 0 ≤ x) : ∀ n : Nat, 0 ≤ x ^ n
  | 0 => by rw [Rat.pow_zero]; decide
  | n + 1 => by rw [Rat.pow_succ]; exact Rat.mul_nonneg (pow_nn h n) h
theorem pow_le1 {x : Rat} (h : 0 ≤ x) (h1 : x ≤ 1) : ∀ n : Nat, x ^ n ≤ 1
  | 0 => by rw [Rat.pow_zero]; exact Rat.le_refl
  | n + 1 => by
    rw [Rat.pow_succ]
    have h2 := pow_le1 h h1 n
    have h3 := Rat.mul_nonneg (show 0 ≤ 1 - x ^ n by grind) h
    have h4 := pow_nn h n
    grind
theorem mpow (a b : Rat) : ∀ n : Nat, (a * b) ^ n = a ^ n * b ^ n
  | 0 => by simp [Rat.pow_zero]
  | n + 1 => by rw [Rat.pow_succ, Rat.pow_succ, Rat.pow_succ, mpow a b n]; grind
/-- (1 + t)^n is at most R, if n t = 1 - 1/R. -/
theorem keeps {t R : Rat} {n : Nat} (h0 : 0 ≤ t) (h1 : t ≤ 1) (hR : 1 ≤ R) (h : R * ((n : Rat) * t) = R - 1) : (1 + t) ^ n ≤ R := by
  obtain ⟨h2, _⟩ := bern h0 h1 n
  have h3 : (1 + t) ^ n * (1 - t) ^ n ≤ 1 := by
    rw [← mpow]
    refine pow_le1 ?_ ?_ n
    · have := Rat.mul_nonneg (show 0 ≤ 1 + t by grind) (show 0 ≤ 1 - t by grind); exact this
    · have := Rat.mul_nonneg h0 h0; grind
  have h4 := pow_nn (show 0 ≤ 1 + t by grind) n
  generalize (1 + t) ^ n = x at *
  generalize (1 - t) ^ n = y at *
  generalize (n : Rat) * t = m at *
  have h5 := Rat.mul_nonneg (Rat.mul_nonneg h4 (show 0 ≤ R by grind)) (show 0 ≤ y - (1 - m) by grind)
  have h6 := Rat.mul_nonneg (show 0 ≤ R by grind) (show 0 ≤ 1 - x * y by grind)
  have e1 : x * R * (y - (1 - m)) = x * R * y - x * R + x * (R * m) := by grind
  rw [e1, h] at h5
  have e2 : R * (1 - x * y) = R - x * R * y := by grind
  rw [e2] at h6
  generalize x * R * y = u at *
  have e3 : x * (R - 1) = x * R - x := by grind
  rw [e3] at h5
  grind
theorem inv_posA {x : Rat} (h : 0 < x) : 0 < x⁻¹ ∧ x * x⁻¹ = 1 := by
  have h1 : x * x⁻¹ = 1 := Rat.mul_inv_cancel x (Ne.symm (Rat.ne_of_lt h))
  refine ⟨?_, h1⟩
  rcases Rat.le_total (a := x⁻¹) (b := 0) with h2 | h2
  · have h3 := Rat.mul_nonneg (Rat.le_of_lt h) (show 0 ≤ -x⁻¹ by grind)
    have h4 : x * -x⁻¹ = -(x * x⁻¹) := by grind
    rw [h4, h1] at h3
    exact absurd h3 (by decide)
  · rcases Rat.le_iff_lt_or_eq.1 h2 with h3 | h3
    · exact h3
    · rw [← h3, Rat.mul_zero] at h1
      exact absurd h1 (by decide)
theorem inv_isA {p r : Rat} (h : p * r = 1) : r = p⁻¹ := by
  have h0 : p ≠ 0 := fun e => by
    rw [e, Rat.zero_mul] at h
    exact absurd h (by decide)
  have h1 : p * p⁻¹ = 1 := Rat.mul_inv_cancel p h0
  have h2 : p⁻¹ * (p * r) = (p * p⁻¹) * r := by grind
  rw [h, h1, Rat.mul_one, Rat.one_mul] at h2
  exact h2.symm
/-- What is computed for a sensitivity of k: with x = k R, 1 + (R - 1) / x. -/
theorem keepsA {R x : Rat} {k : Nat} (hR : 1 < R) (hk : 0 < k) (hx : x = (k : Rat) * R) : (1 + (R + -1) * x⁻¹) ^ k ≤ R ∧ 1 < 1 + (R + -1) * x⁻¹ ∧ 0 < x ∧ x * (1 + (R + -1) * x⁻¹) = x + R + -1 := by
  have hk1 : (1 : Rat) ≤ (k : Rat) := by
    have : ((1 : Int) : Rat) ≤ ((k : Int) : Rat) := Rat.intCast_le_intCast.2 (by omega)
    exact this
  have hx1 : R ≤ x := by
    rw [hx]
    have h := Rat.mul_nonneg (show 0 ≤ (k : Rat) - 1 by grind) (show 0 ≤ R by grind)
    have e : ((k : Rat) - 1) * R = (k : Rat) * R - R := by grind
    rw [e] at h
    grind
  have hx0 : 0 < x := by grind
  obtain ⟨i0, i1⟩ := inv_posA hx0
  have t0 : 0 < (R + -1) * x⁻¹ := Rat.mul_pos (by grind) i0
  have e1 : x * ((R + -1) * x⁻¹) = R + -1 := by
    have : x * ((R + -1) * x⁻¹) = (R + -1) * (x * x⁻¹) := by grind
    rw [this, i1, Rat.mul_one]
  have t1 : (R + -1) * x⁻¹ ≤ 1 := by
    have h := Rat.mul_nonneg (show 0 ≤ x - (R + -1) by grind) (Rat.le_of_lt i0)
    have e : (x - (R + -1)) * x⁻¹ = x * x⁻¹ - (R + -1) * x⁻¹ := by grind
    rw [e, i1] at h
    grind
  refine ⟨keeps (n := k) (Rat.le_of_lt t0) t1 (Rat.le_of_lt hR) ?_, by grind, hx0, ?_⟩
  · have h2 : R * ((k : Rat) * ((R + -1) * x⁻¹)) = ((k : Rat) * R) * ((R + -1) * x⁻¹) := by grind
    rw [h2, ← hx, e1]
    grind
  · have h3 : x * (1 + (R + -1) * x⁻¹) = x + x * ((R + -1) * x⁻¹) := by grind
    rw [h3, e1]
    grind
theorem halfA {R : Rat} (hR : 1 < R) : 2 * R * (R + 1)⁻¹ * (2 * R * (R + 1)⁻¹) ≤ R ∧ 1 < 2 * R * (R + 1)⁻¹ := by
  obtain ⟨i0, i1⟩ := inv_posA (show 0 < R + 1 by grind)
  generalize hv : (R + 1)⁻¹ = v at *
  have e1 : R * v = 1 - v := by grind
  have e2 : 2 * R * v = 2 - 2 * v := by
    have : 2 * R * v = 2 * (R * v) := by grind
    rw [this, e1]
    grind
  have v1 : v * 2 < 1 := by
    have h := Rat.mul_pos (show 0 < R - 1 by grind) i0
    have e : (R - 1) * v = R * v - v := by grind
    rw [e, e1] at h
    grind
  constructor
  · rw [e2]
    have h := Rat.mul_nonneg (Rat.mul_nonneg (show 0 ≤ R by grind) (show 0 ≤ 1 - v * 2 by grind)) (show 0 ≤ 1 - v * 2 by grind)
    have e3 : R * (1 - v * 2) * (1 - v * 2) = R - 4 * (R * v) + 4 * (R * v) * v := by grind
    rw [e3, e1] at h
    have e4 : (2 - 2 * v) * (2 - 2 * v) = 4 - 8 * v + 4 * (v * v) := by grind
    rw [e4]
    have e5 : R - 4 * (1 - v) + 4 * (1 - v) * v = R - 4 + 8 * v - 4 * (v * v) := by grind
    rw [e5] at h
    grind
  · rw [e2]
    grind
end
section
open Go.RowKit NV

theorem Sz.pow {i k : Nat} {q : Rat} (h : Sz i q) (_ : 0 < i) : Sz (i * k + 1) (q ^ k) := by
  obtain ⟨h1, h2, _⟩ := pow_parts q k
  obtain ⟨h3, h4⟩ := h
  have e : (10 : Nat) ^ (i * k) = (10 ^ i) ^ k := Nat.pow_mul ..
  have h10 : (10 : Nat) ^ (i * k) < 10 ^ (i * k + 1) := Nat.pow_lt_pow_right (by omega) (by omega)
  refine ⟨?_, ?_⟩
  · rw [h1]
    refine Nat.lt_of_le_of_lt ?_ h10
    rw [e]
    exact Nat.pow_le_pow_left (Nat.le_of_lt h3) k
  · rw [h2]
    refine Nat.lt_of_le_of_lt ?_ h10
    rw [e]
    exact Nat.pow_le_pow_left (Nat.le_of_lt h4) k
theorem Sz.nat {k n : Nat} (hk : 0 < k) (h : n < 10 ^ k) : Sz k (n : Rat) := by
  refine ⟨?_, ?_⟩
  · show ((n : Rat).num).natAbs < _
    rw [Rat.num_natCast]
    simpa using h
  · rw [Rat.den_natCast]
    exact Nat.one_lt_pow (by omega) (by omega)
theorem ng_pos {q : Rat} (h : 0 < q) : ng q = false := by
  have h1 := Rat.num_nonneg.2 (Rat.le_of_lt h)
  unfold ng
  rw [decide_eq_false (by omega)]
/-- Comparisons of the reference. -/
theorem rcmp_lt {p q : Rat} (hp : QOk p) (hq : QOk q) (h : p < q) (w : World) : Calls Tryz.prog 76 #[.string (qstr p), .string (qstr q)] w (Cm (-1) 0 w) := by
  have h1 := rCmp_q w hp hq
  rw [cmpQ_lt h] at h1
  exact h1
theorem keep_nums {R : Rat} {r : Nat} (hr : r < 40) (hz : Sz 12 R) (h1 : 1 < R) :
    ∃ (ta tb th tx ty tz : ByteArray) (c1 c2 c3 : Int), c1 ≤ 0 ∧ c2 ≤ 0 ∧ c3 ≤ 0 ∧
      (∀ W, (∀ W2, Below W.heap.size W W2 → Tab W2 ∧ ML W2) → Calls Tryz.prog 47 #[.int .i64 (1 + (r : Int)), .string (qstr R)] W (Rn ta W)) ∧
      (∀ W, (∀ W2, Below W.heap.size W W2 → Tab W2 ∧ ML W2) → Calls Tryz.prog 48 #[.int .i64 (1 + (r : Int)), .string (qstr R)] W (Rn tb W)) ∧
      (∀ W, (∀ W2, Below W.heap.size W W2 → Tab W2 ∧ ML W2) → Calls Tryz.prog 49 #[.string (qstr R)] W (Rn th W)) ∧
      (∀ W, Calls Tryz.prog 74 #[.string ta, .int .i64 (-(1 + (r : Int)))] W (Rn tx W)) ∧
      (∀ W, Calls Tryz.prog 74 #[.string tb, .int .i64 (2 * (1 + (r : Int)))] W (Rn ty W)) ∧
      (∀ W, Calls Tryz.prog 75 #[.string th, .string th] W (Rn tz W)) ∧
      (∀ W, Calls Tryz.prog 76 #[.string tx, .string (qstr R)] W (Cm c1 0 W)) ∧
      (∀ W, Calls Tryz.prog 76 #[.string ty, .string (qstr R)] W (Cm c2 0 W)) ∧
      (∀ W, Calls Tryz.prog 76 #[.string tz, .string (qstr R)] W (Cm c3 0 W)) ∧
      (∀ W, Calls Tryz.prog 76 #[.string ⟨#[48]⟩, .string ta] W (Cm (-1) 0 W)) ∧
      (∀ W, Calls Tryz.prog 76 #[.string ta, .string ⟨#[49]⟩] W (Cm (-1) 0 W)) ∧
      (∀ W, Calls Tryz.prog 76 #[.string ⟨#[49]⟩, .string tb] W (Cm (-1) 0 W)) ∧
      (∀ W, Calls Tryz.prog 76 #[.string ⟨#[49]⟩, .string th] W (Cm (-1) 0 W)) := by
  obtain ⟨n, hn⟩ : ∃ n : Nat, n = 1 + r := ⟨_, rfl⟩
  have en : (1 + (r : Int)) = (n : Int) := by omega
  have e2n : (2 * (1 + (r : Int))) = ((2 * n : Nat) : Int) := by omega
  have hR : QOk R := hz.qok (by omega) (by omega)
  have s1 : Sz 1 (1 : Rat) := ⟨by decide, by decide⟩
  have s2 : Sz 1 (2 : Rat) := ⟨by decide, by decide⟩
  have cn : (((n : Int)) : Rat) = (n : Rat) := Rat.intCast_natCast n
  have c2n : (((2 * (n : Int) : Int)) : Rat) = ((2 * n : Nat) : Rat) := by
    have : (2 * (n : Int) : Int) = ((2 * n : Nat) : Int) := by omega
    rw [this]
    exact Rat.intCast_natCast _
  have zn : Sz 2 (n : Rat) := Sz.nat (by omega) (by omega)
  have z2n : Sz 2 ((2 * n : Nat) : Rat) := Sz.nat (by omega) (by omega)
  have zm : Sz (12 + 1 + 1) (R + -1) := Sz.add hz s1.neg
  -- Half
  obtain ⟨k1, k2⟩ := halfA h1
  have zh1 := Sz.mul s2 hz
  have zh2 := Sz.add hz s1
  have zh3 := Sz.mul zh1 zh2.inv
  have zh4 := Sz.mul zh3 zh3
  generalize hh : 2 * R * (R + 1)⁻¹ = h at *
  have oh := zh3.qok (by omega) (by omega)
  have ohh := zh4.qok (by omega) (by omega)
  -- Beta
  obtain ⟨b1, b2, b3, _⟩ := keepsA (k := 2 * n) (x := ((2 * n : Nat) : Rat) * R) h1 (by omega) rfl
  have zb1 := Sz.mul z2n hz
  have zb2 := Sz.mul zm zb1.inv
  have zb3 := Sz.add s1 zb2
  have zb4 := zb3.pow (k := 2 * n) (by omega)
  generalize hb : 1 + (R + -1) * (((2 * n : Nat) : Rat) * R)⁻¹ = b at *
  have ob := zb3.qok (by omega) (by omega)
  have obp : QOk (b ^ (2 * n)) := zb4.qok (by omega) (by have : (1 + (12 + 1 + 1 + (2 + 12 + 1)) + 1) * (2 * n) ≤ (1 + (12 + 1 + 1 + (2 + 12 + 1)) + 1) * 80 := Nat.mul_le_mul_left _ (by omega); omega)
  -- Alpha
  obtain ⟨a1, a2, a3, a4⟩ := keepsA (k := n) (x := (n : Rat) * R) h1 (by omega) rfl
  have za1 := Sz.mul zn hz
  have za2 := Sz.add za1 hz
  have za3 := Sz.add za2 s1.neg
  have za4 := Sz.mul za1 za3.inv
  have zr := Sz.add s1 (Sz.mul zm za1.inv)
  have hal : ∃ q : Rat, q = (alQ (n : Int) R)⁻¹ ∧ q ^ n ≤ R ∧ 1 < q ∧ alQ (n : Int) R * q = 1 ∧ Sz 31 q ∧ Sz 60 (alQ (n : Int) R) := by
    by_cases h1n : n = 1
    · subst h1n
      have e : alQ ((1 : Nat) : Int) R = 1 * R⁻¹ := if_pos rfl
      have hi := (inv_posA (show 0 < R by grind)).2
      have hp : 1 * R⁻¹ * R = 1 := by grind
      rw [e]
      refine ⟨R, inv_isA hp, by rw [Rat.pow_succ, Rat.pow_zero, Rat.one_mul]; exact Rat.le_refl, h1, hp, hz.mono (by omega), (Sz.mul s1 hz.inv).mono (by omega)⟩
    · have e : alQ (n : Int) R = (n : Rat) * R * ((n : Rat) * R + R + -1)⁻¹ := by
        unfold alQ
        rw [if_neg (by omega), cn]
      have hd0 : 0 < (n : Rat) * R + R + -1 := by grind
      obtain ⟨d0, d1⟩ := inv_posA hd0
      have hp : (n : Rat) * R * ((n : Rat) * R + R + -1)⁻¹ * (1 + (R + -1) * ((n : Rat) * R)⁻¹) = 1 := by
        have h5 : (n : Rat) * R * ((n : Rat) * R + R + -1)⁻¹ * (1 + (R + -1) * ((n : Rat) * R)⁻¹) = ((n : Rat) * R * (1 + (R + -1) * ((n : Rat) * R)⁻¹)) * ((n : Rat) * R + R + -1)⁻¹ := by grind
        rw [h5, a4, d1]
      rw [e]
      exact ⟨_, inv_isA hp, a1, a2, hp, zr.mono (by omega), za4.mono (by omega)⟩
  obtain ⟨q, hq, q1, q2, q3, zq, zal⟩ := hal
  have hal0 : 0 < alQ (n : Int) R ∧ alQ (n : Int) R < 1 := by
    have hq0 : 0 < q := by grind
    obtain ⟨i0, i1⟩ := inv_posA hq0
    have e : alQ (n : Int) R = q⁻¹ := by
      have h5 : q * alQ (n : Int) R = 1 := by rw [Rat.mul_comm]; exact q3
      exact inv_isA h5
    rw [e]
    refine ⟨i0, ?_⟩
    have h6 := Rat.mul_pos (show 0 < q - 1 by grind) i0
    have h7 : (q - 1) * q⁻¹ = q * q⁻¹ - q⁻¹ := by grind
    rw [h7, i1] at h6
    grind
  have oal := zal.qok (by omega) (by omega)
  have zqp := zq.pow (k := n) (by omega)
  have oqp : QOk (q ^ n) := zqp.qok (by omega) (by have : 31 * n ≤ 31 * 40 := Nat.mul_le_mul_left _ (by omega); omega)
  refine ⟨qstr (alQ (n : Int) R), qstr b, qstr h, qstr (q ^ n), qstr (b ^ (2 * n)), qstr (h * h), cmpQ (q ^ n) R, cmpQ (b ^ (2 * n)) R, cmpQ (h * h) R, cmpQ_le.2 q1, cmpQ_le.2 b1, cmpQ_le.2 k1, fun W htm => ?_, fun W htm => ?_, fun W htm => ?_, fun W => ?_, fun W => ?_, fun W => ?_, fun W => rCmp_q W oqp hR, fun W => rCmp_q W obp hR, fun W => rCmp_q W ohh hR, fun W => ?_, fun W => ?_, fun W => ?_, fun W => ?_⟩
  · rw [en]
    refine lAlpha_q (by omega) (by omega) hR h1 ?_ ?_ ?_ ?_ ?_ oal htm
    · rw [cn]; exact zn.qok (by omega) (by omega)
    · rw [cn]; exact za1.qok (by omega) (by omega)
    · rw [cn]; exact za2.qok (by omega) (by omega)
    · rw [cn]; exact za3.qok (by omega) (by omega)
    · rw [cn]; grind
  · rw [en]
    have h5 := lBeta_q (n := (n : Int)) (R := R) (w := W) (by omega) (by omega) hR h1 (by rw [c2n]; exact z2n.qok (by omega) (by omega)) (zm.qok (by omega) (by omega)) (by rw [c2n]; exact zb1.qok (by omega) (by omega)) (by rw [c2n]; grind) (by rw [c2n]; exact zb2.qok (by omega) (by omega)) (by rw [c2n, hb]; exact ob) htm
    rw [c2n, hb] at h5
    exact h5
  · have h5 := lHalf_q (w := W) hR h1 (zh1.qok (by omega) (by omega)) (zh2.qok (by omega) (by omega)) (by rw [hh]; exact oh) htm
    rw [hh] at h5
    exact h5
  · rw [en]
    have h5 := rPow_neg_p (p := alQ (n : Int) R) (r := q) (k := n) W oal (fun e => by rw [e] at hal0; exact absurd hal0.1 (by decide)) hq (by omega) (by omega) (ng_pos hal0.1)
    unfold RQ at h5
    rw [wQ_oQ, okQ_yes oqp] at h5
    exact h5
  · rw [e2n]
    have h5 := rPow_pos_p (p := b) (k := 2 * n) W ob (by omega) (ng_pos (by grind))
    unfold RQ at h5
    rw [wQ_oQ, okQ_yes obp] at h5
    exact h5
  · have h5 := rMul_q (p := h) (q := h) W oh oh
    unfold RQ at h5
    rw [wQ_oQ, okQ_yes ohh] at h5
    exact h5
  · rw [← q0Z]; exact rcmp_lt o0Q oal hal0.1 W
  · rw [← q1L]; exact rcmp_lt oal o1Q hal0.2 W
  · rw [← q1L]; exact rcmp_lt o1Q ob b2 W
  · rw [← q1L]; exact rcmp_lt o1Q oh k2 W
end
section
open Go.RowKit NV

/-- The compare of a text with 1, as it is asked. -/
theorem ask_one {R : Rat} (h : R ≠ 1) : ((qstr R).toList == ([49] : List UInt8)) = false := by
  rw [beq_eq_false_iff_ne]
  intro e
  apply h
  have e2 : qstr R = qstr 1 := by
    rw [q1L]
    refine ba_extZ ?_
    rw [← Lib.toList_data, e]
  exact qstr_inj e2
set_option maxHeartbeats 12800000 in
set_option maxRecDepth 100000 in
theorem lkeeps_any {s : ByteArray} {x : Int} {w : World} (hs : s.size ≤ 140737488351232) (hx0 : -9223372036854775808 ≤ x) (hx1 : x ≤ 9223372036854775807) (htab : Tab w) (hm : ML w) :
    Calls Tryz.prog 13 #[.int .i64 x, .string s] w fun e w' => e = .returned (.bool true) ∧ Below w.heap.size w w' := by
  have HL := Lib.hid (lives9_any w htab hm)
  have HTM := Lib.hid (fun W (hb : Below w.heap.size w W) => And.intro (htab.below hb) (ml_keep hm (ml_pos hm) hb))
  have HP := Lib.hid (fun W => lPick_any x 40 (by omega) (by omega) hx0 hx1 W)
  have HF := Lib.hid (fun W => fac9_any s hs W)
  clear htab hm hs hx0 hx1
  cases hf : facB s with
  | false =>
    rw [hf] at HF
    clear hf HTM
    go_enter Tryz.func13, Tryz.ntmps13
    go_wp2_with fail
    refine HL.out.mono ?_
    rintro e w1 ⟨rfl, hb⟩
    have HB := Lib.hid hb
    clear hb HL
    go_wp2_with fail
    refine (HP.out _).mono ?_
    rintro e w2 ⟨⟨r, hr, rfl⟩, rfl⟩
    go_wp2_with fail
    refine (HF.out _).mono ?_
    rintro e w3 ⟨rfl, hb⟩
    have HB2 := Lib.hid (HB.out.trans (hb.mono HB.out.size))
    clear hb HB HF HP
    go_wp2_with fail
    go_ret
    exact ⟨rfl, HB2.out⟩
  | true =>
    rw [hf] at HF
    obtain ⟨R, rfl, hR, h1R, hz⟩ := facB_yes hf
    clear hf
    by_cases hR1 : R = 1
    · subst hR1
      have e1 : ((qstr 1).toList == ([49] : List UInt8)) = true := by rw [q1L, Lib.toList_data]; rfl
      clear hR h1R hz HTM
      go_enter Tryz.func13, Tryz.ntmps13
      go_wp2_with fail
      refine HL.out.mono ?_
      rintro e w1 ⟨rfl, hb⟩
      have HB := Lib.hid hb
      clear hb HL
      go_wp2_with fail
      refine (HP.out _).mono ?_
      rintro e w2 ⟨⟨r, hr, rfl⟩, rfl⟩
      go_wp2_with fail
      refine (HF.out _).mono ?_
      rintro e w3 ⟨rfl, hb⟩
      have HB2 := Lib.hid (HB.out.trans (hb.mono HB.out.size))
      clear hb HB HF HP
      go_wp2_with fail
      go_ret
      exact ⟨rfl, HB2.out⟩
    · have e1 := ask_one hR1
      have hlt : 1 < R := by grind
      have HK := Lib.hid (fun (r : Nat) (hr : r < 40) => keep_nums hr hz hlt)
      generalize qstr R = s at *
      clear hR h1R hz hR1 hlt
      go_enter Tryz.func13, Tryz.ntmps13
      go_wp2_with fail
      refine HL.out.mono ?_
      rintro e w1 ⟨rfl, hb⟩
      have HB := Lib.hid hb
      clear hb HL
      go_wp2_with fail
      refine (HP.out _).mono ?_
      rintro e w2 ⟨⟨r, hr, rfl⟩, rfl⟩
      go_wp2_with fail
      refine (HF.out _).mono ?_
      rintro e w3 ⟨rfl, hb⟩
      have HB2 := Lib.hid (HB.out.trans (hb.mono HB.out.size))
      clear hb HB HF HP
      obtain ⟨ta, tb, th, tx, ty, tz, c1, c2, c3, n1, n2, n3, K1, K2, K3, K4, K5, K6, K7, K8, K9, K10, K11, K12, K13⟩ := HK.out r (by omega)
      have HW := Lib.hid (fun W (hb : Below w.heap.size w W) W2 (hb2 : Below W.heap.size W W2) => HTM.out W2 (hb.trans (hb2.mono hb.size)))
      have J1 := Lib.hid (fun W (hb : Below w.heap.size w W) => K1 W (HW.out W hb))
      have J2 := Lib.hid (fun W (hb : Below w.heap.size w W) => K2 W (HW.out W hb))
      have J3 := Lib.hid (fun W (hb : Below w.heap.size w W) => K3 W (HW.out W hb))
      unfold Rn at J1 J2 J3 K4 K5 K6
      unfold Cm at K7 K8 K9 K10 K11 K12 K13
      have J4 := Lib.hid K4
      have J5 := Lib.hid K5
      have J6 := Lib.hid K6
      have J7 := Lib.hid K7
      have J8 := Lib.hid K8
      have J9 := Lib.hid K9
      have J10 := Lib.hid K10
      have J11 := Lib.hid K11
      have J12 := Lib.hid K12
      have J13 := Lib.hid K13
      have m1 : ¬ 0 < c1 := by omega
      have m2 : ¬ 0 < c2 := by omega
      have m3 : ¬ 0 < c3 := by omega
      clear K1 K2 K3 K4 K5 K6 K7 K8 K9 K10 K11 K12 K13 HK HTM HW n1 n2 n3
      go_wp2_with fail
      refine (J1.out _ HB2.out).mono ?_
      rintro e w4 ⟨rfl, hb⟩
      have B3 := Lib.hid (HB2.out.trans (hb.mono HB2.out.size))
      clear hb J1 HB2
      go_wp2_with fail
      refine (J2.out _ B3.out).mono ?_
      rintro e w5 ⟨rfl, hb⟩
      have B4 := Lib.hid (B3.out.trans (hb.mono B3.out.size))
      clear hb J2 B3
      go_wp2_with fail
      refine (J3.out _ B4.out).mono ?_
      rintro e w6 ⟨rfl, hb⟩
      have B5 := Lib.hid (B4.out.trans (hb.mono B4.out.size))
      clear hb J3 B4
      go_wp2_with fail
      refine (J4.out _).mono ?_
      rintro e w7 ⟨rfl, hb⟩
      have B6 := Lib.hid (B5.out.trans (hb.mono B5.out.size))
      clear hb J4 B5
      go_wp2_with fail
      refine (J5.out _).mono ?_
      rintro e w8 ⟨rfl, hb⟩
      have B7 := Lib.hid (B6.out.trans (hb.mono B6.out.size))
      clear hb J5 B6
      go_wp2_with fail
      refine (J6.out _).mono ?_
      rintro e w9 ⟨rfl, hb⟩
      have B8 := Lib.hid (B7.out.trans (hb.mono B7.out.size))
      clear hb J6 B7
      go_wp2_with fail
      have hbA := (Below.refl w9.heap.size w9).alloc (Nat.le_refl _) (.cells #[.string tx, .string ty, .string tz] 27)
      have hB9 := B8.out.trans (hbA.mono B8.out.size)
      have HB9 := Lib.hid hB9
      have HCL := Lib.hid (show ∀ W, Below (w9.alloc (.cells #[.string tx, .string ty, .string tz] 27)).heap.size (w9.alloc (.cells #[.string tx, .string ty, .string tz] 27)) W → W.cell? ⟨w9.heap.size, 0, none⟩ = some (.string tx) ∧ W.cell? ⟨w9.heap.size, 1, none⟩ = some (.string ty) ∧ W.cell? ⟨w9.heap.size, 2, none⟩ = some (.string tz) from fun W hb =>
        ⟨(hb.cell (p := ⟨w9.heap.size, 0, none⟩) (by simp)).trans (by rw [Lib.cell_of_heap (heap_alloc_new w9 _)]; rfl), (hb.cell (p := ⟨w9.heap.size, 1, none⟩) (by simp)).trans (by rw [Lib.cell_of_heap (heap_alloc_new w9 _)]; rfl), (hb.cell (p := ⟨w9.heap.size, 2, none⟩) (by simp)).trans (by rw [Lib.cell_of_heap (heap_alloc_new w9 _)]; rfl)⟩)
      clear hbA hB9 B8
      go_loopw [18] (fun iv wr => (iv = .int .i64 0 ∨ iv = .int .i64 1 ∨ iv = .int .i64 2 ∨ iv = .int .i64 3) ∧ Hid (Below (w9.alloc (.cells #[.string tx, .string ty, .string tz] 27)).heap.size (w9.alloc (.cells #[.string tx, .string ty, .string tz] 27)) wr)) (fun iv _ => 4 - (intOf iv).toNat)
      case atStart => exact ⟨.inl rfl, Lib.hid (Below.refl _ _)⟩
      case round =>
        obtain ⟨hiv, HBR⟩ := hrel
        obtain ⟨k0, k1, k2⟩ := HCL.out wr HBR.out
        rcases hiv with rfl | rfl | rfl | rfl
        · clear k1 k2
          go_wp2_with fail
          refine (J7.out _).mono ?_
          rintro e v1 ⟨rfl, hb⟩
          have HB0 := Lib.hid (HBR.out.trans (hb.mono HBR.out.size))
          clear hb HBR k0
          go_wp2_with fail
          go_roundw
          case rel => exact ⟨.inr (.inl rfl), HB0⟩
          case measure => simp [intOf]
        · clear k0 k2
          go_wp2_with fail
          refine (J8.out _).mono ?_
          rintro e v1 ⟨rfl, hb⟩
          have HB0 := Lib.hid (HBR.out.trans (hb.mono HBR.out.size))
          clear hb HBR k1
          go_wp2_with fail
          go_roundw
          case rel => exact ⟨.inr (.inr (.inl rfl)), HB0⟩
          case measure => simp [intOf]
        · clear k0 k1
          go_wp2_with fail
          refine (J9.out _).mono ?_
          rintro e v1 ⟨rfl, hb⟩
          have HB0 := Lib.hid (HBR.out.trans (hb.mono HBR.out.size))
          clear hb HBR k2
          go_wp2_with fail
          go_roundw
          case rel => exact ⟨.inr (.inr (.inr rfl)), HB0⟩
          case measure => simp [intOf]
        · clear k0 k1 k2 HCL J7 J8 J9
          have B9 := Lib.hid (HB9.out.trans (HBR.out.mono HB9.out.size))
          clear HBR HB9
          go_wp2_with fail
          refine (J10.out _).mono ?_
          rintro e x1 ⟨rfl, hb⟩
          have B10 := Lib.hid (B9.out.trans (hb.mono B9.out.size))
          clear hb J10 B9
          go_wp2_with fail
          refine (J11.out _).mono ?_
          rintro e x2 ⟨rfl, hb⟩
          have B11 := Lib.hid (B10.out.trans (hb.mono B10.out.size))
          clear hb J11 B10
          go_wp2_with fail
          refine (J12.out _).mono ?_
          rintro e x3 ⟨rfl, hb⟩
          have B12 := Lib.hid (B11.out.trans (hb.mono B11.out.size))
          clear hb J12 B11
          go_wp2_with fail
          refine (J13.out _).mono ?_
          rintro e x4 ⟨rfl, hb⟩
          have B13 := Lib.hid (B12.out.trans (hb.mono B12.out.size))
          clear hb J13 B12
          go_wp2_with fail
          go_ret
          exact ⟨rfl, B13.out⟩
end
end Go.Proofs.YtofanopnibbaeaaGreatDoor
