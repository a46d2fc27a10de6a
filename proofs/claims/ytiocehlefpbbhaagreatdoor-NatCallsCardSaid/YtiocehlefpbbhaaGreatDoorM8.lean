/-
  Plain mathematics: Lehmer's way to the greatest common divisor.
-/
import Derived.Test.YtiocehlefpbbhaaGreatDoorM4
namespace Go.Proofs.YtiocehlefpbbhaaGreatDoor.NV

/-- What stands after some divisions with the first digits a0 and b0: a and b are what is left, the magnitudes of the matrix are P, Q, R, T, and sg is 1 or -1 in turn. -/
structure Lh (a0 b0 a b : Nat) (sg : Int) (P Q R T : Nat) : Prop where
  sgn : sg = 1 ∨ sg = -1
  det : (P : Int) * T - Q * R = sg
  ia : T * a + Q * b = a0
  ib : R * a + P * b = b0
  rt : R ≤ T
  qt : Q ≤ T
  pq : (P = 1 ∧ Q = 0 ∧ R = 0 ∧ T = 1 ∧ sg = 1) ∨ (P ≤ Q ∧ 1 ≤ R ∧ 1 ≤ Q)
  tb : T < 1000000000
  ok : (P = 1 ∧ Q = 0 ∧ R = 0 ∧ T = 1 ∧ sg = 1) ∨ (T ≤ b ∧ T + Q + b ≤ a)

theorem Lh.start (a0 b0 : Nat) : Lh a0 b0 a0 b0 1 1 0 0 1 :=
  ⟨.inl rfl, by simp, by simp, by simp, by omega, by omega, .inl ⟨rfl, rfl, rfl, rfl, rfl⟩, by omega, .inl ⟨rfl, rfl, rfl, rfl, rfl⟩⟩

theorem Lh.t_pos {a0 b0 a b : Nat} {sg : Int} {P Q R T : Nat} (h : Lh a0 b0 a b sg P Q R T) : 1 ≤ T := by
  rcases h.pq with ⟨_, _, _, h1, _⟩ | ⟨_, _, h1⟩
  · omega
  · have := h.qt; omega

theorem Lh.le {a0 b0 a b : Nat} {sg : Int} {P Q R T : Nat} (h : Lh a0 b0 a b sg P Q R T) (hab : b0 ≤ a0) : b ≤ a := by
  rcases h.ok with ⟨h1, h2, h3, h4, _⟩ | ⟨_, h1⟩
  · have e1 := h.ia; have e2 := h.ib
    rw [h4, h2] at e1; rw [h3, h1] at e2
    omega
  · omega

theorem Lh.a_le {a0 b0 a b : Nat} {sg : Int} {P Q R T : Nat} (h : Lh a0 b0 a b sg P Q R T) : a ≤ a0 := by
  have h1 : 1 * a ≤ T * a := Nat.mul_le_mul_right _ h.t_pos
  have := h.ia
  omega

/-- The next magnitude times what is left is at most a0. -/
theorem Lh.next_le {a0 b0 a b : Nat} {sg : Int} {P Q R T : Nat} (h : Lh a0 b0 a b sg P Q R T) : (Q + a / b * T) * b + T * (a % b) = a0 := by
  have h1 := Nat.div_add_mod a b
  have h2 := h.ia
  have e : (Q + a / b * T) * b + T * (a % b) = T * (b * (a / b) + a % b) + Q * b := by
    rw [Nat.add_mul, Nat.mul_add]
    have : a / b * T * b = T * (b * (a / b)) := by ac_rfl
    omega
  rw [e, h1]; exact h2

theorem Lh.next_lt {a0 b0 a b : Nat} {sg : Int} {P Q R T : Nat} (h : Lh a0 b0 a b sg P Q R T) (hb : 0 < b) : Q + a / b * T ≤ a0 := by
  have h1 := h.next_le
  have h2 : (Q + a / b * T) * 1 ≤ (Q + a / b * T) * b := Nat.mul_le_mul_left _ hb
  omega

theorem Lh.step {a0 b0 a b : Nat} {sg : Int} {P Q R T : Nat} (h : Lh a0 b0 a b sg P Q R T) (hab : b0 ≤ a0) (ha : a0 < 1000000000000000000) (hb : 0 < b)
    (h1 : Q + a / b * T ≤ a % b) (h2 : Q + a / b * T + T + a % b ≤ b) : Lh a0 b0 b (a % b) (-sg) R T (P + a / b * R) (Q + a / b * T) := by
  have hle := h.le hab
  have hq : 1 ≤ a / b := (Nat.le_div_iff_mul_le hb).2 (by omega)
  have hdm := Nat.div_add_mod a b
  have hT := h.t_pos
  have hnx := h.next_le
  have hmod : a % b < b := Nat.mod_lt _ hb
  generalize a / b = q at *
  have hTq : 1 * T ≤ q * T := Nat.mul_le_mul_right _ hq
  have hRq : 1 * R ≤ q * R := Nat.mul_le_mul_right _ hq
  have hRT : q * R ≤ q * T := Nat.mul_le_mul_left _ h.rt
  have hPR : P + q * R ≤ Q + q * T := by
    rcases h.pq with ⟨e1, e2, e3, e4, _⟩ | ⟨e1, e2, e3⟩
    · rw [e1, e2, e3, e4]; omega
    · omega
  refine ⟨?_, ?_, ?_, ?_, hPR, by omega, .inr ⟨h.rt, ?_, hT⟩, ?_, .inr ⟨h1, by omega⟩⟩
  · rcases h.sgn with e | e <;> rw [e] <;> simp
  · have hd := h.det
    rw [Int.natCast_add, Int.natCast_add, Int.natCast_mul, Int.natCast_mul, ← hd, Int.mul_add, Int.mul_add, Int.neg_sub]
    have e1 : (R : Int) * ((q : Int) * T) = T * ((q : Int) * R) := by ac_rfl
    have e2 : (R : Int) * Q = Q * R := Int.mul_comm _ _
    have e3 : (T : Int) * P = P * T := Int.mul_comm _ _
    omega
  · exact hnx
  · have hi := h.ib
    have e : (P + q * R) * b + R * (a % b) = R * (b * q + a % b) + P * b := by
      rw [Nat.add_mul, Nat.mul_add]
      have : q * R * b = R * (b * q) := by ac_rfl
      omega
    rw [e, hdm]; exact hi
  · rcases h.pq with ⟨e1, e2, e3, e4, _⟩ | ⟨e1, e2, e3⟩
    · omega
    · omega
  · obtain ⟨t, ht⟩ : ∃ t, t = Q + q * T := ⟨_, rfl⟩
    rw [← ht] at h1 h2 hnx ⊢
    by_cases hlt : t < 1000000000
    · exact hlt
    · have h3 : t * 1000000000 ≤ t * b := Nat.mul_le_mul_left _ (by omega)
      have h4 : 1000000000 * 1000000000 ≤ t * 1000000000 := Nat.mul_le_mul_right _ (by omega)
      omega

/-- What the matrix makes of numbers that begin with a0 and b0. -/
theorem Lh.apply {a0 b0 a b : Nat} {sg : Int} {P Q R T : Nat} (h : Lh a0 b0 a b sg P Q R T) {x y S : Nat} (hS : 0 < S) (hx : a0 = x / S) (hy : b0 = y / S) (hyx : y ≤ x) :
    ∃ X Y : Nat, (X : Int) = sg * P * x + -sg * Q * y ∧ (Y : Int) = -sg * R * x + sg * T * y ∧ Y ≤ X ∧ x = T * X + Q * Y ∧ y = R * X + P * Y := by
  have hX : (x : Int) = (a0 : Int) * S + ((x % S : Nat) : Int) := by
    have := Nat.div_add_mod x S
    rw [hx, Int.mul_comm, ← Int.natCast_mul, ← Int.natCast_add]; rw [this]
  have hY : (y : Int) = (b0 : Int) * S + ((y % S : Nat) : Int) := by
    have := Nat.div_add_mod y S
    rw [hy, Int.mul_comm, ← Int.natCast_mul, ← Int.natCast_add]; rw [this]
  have hxl : x % S < S := Nat.mod_lt _ hS
  have hyl : y % S < S := Nat.mod_lt _ hS
  generalize x % S = xl at *
  generalize y % S = yl at *
  have hdet := h.det
  have iaZ : (T : Int) * a + Q * b = a0 := by have := h.ia; rw [← this]; simp
  have ibZ : (R : Int) * a + P * b = b0 := by have := h.ib; rw [← this]; simp
  have hsq : sg * sg = 1 := by rcases h.sgn with e | e <;> rw [e] <;> rfl
  -- what X and Y are over the digits that are left
  have eX : sg * P * x + -sg * Q * y = (a : Int) * S + sg * (P * xl - Q * yl) := by
    have e : (P : Int) * a0 - Q * b0 = sg * a := by
      rw [← iaZ, ← ibZ, ← hdet, Int.sub_mul]
      have e1 : (P : Int) * (T * a + Q * b) = P * T * a + P * Q * b := by rw [Int.mul_add]; congr 1 <;> ac_rfl
      have e2 : (Q : Int) * (R * a + P * b) = Q * R * a + P * Q * b := by rw [Int.mul_add]; congr 1 <;> ac_rfl
      rw [e1, e2]; omega
    have e0 : sg * P * x + -sg * Q * y = sg * ((P : Int) * x - Q * y) := by
      rw [Int.mul_sub, Int.neg_mul, Int.neg_mul, Int.mul_assoc, Int.mul_assoc]; omega
    rw [e0, hX, hY, Int.mul_add, Int.mul_add]
    have e3 : (P : Int) * (a0 * S) = (P * a0) * S := by ac_rfl
    have e4 : (Q : Int) * (b0 * S) = (Q * b0) * S := by ac_rfl
    have e5 : (P : Int) * a0 * S - Q * b0 * S = sg * a * S := by rw [← Int.sub_mul, e]
    rw [e3, e4, show (P : Int) * a0 * S + P * xl - (Q * b0 * S + Q * yl) = sg * a * S + (P * xl - Q * yl) by omega, Int.mul_add, ← Int.mul_assoc, ← Int.mul_assoc, hsq, Int.one_mul]
  have eY : -sg * R * x + sg * T * y = (b : Int) * S + sg * (T * yl - R * xl) := by
    have e : (T : Int) * b0 - R * a0 = sg * b := by
      rw [← iaZ, ← ibZ, ← hdet, Int.sub_mul]
      have e1 : (T : Int) * (R * a + P * b) = R * T * a + P * T * b := by rw [Int.mul_add]; congr 1 <;> ac_rfl
      have e2 : (R : Int) * (T * a + Q * b) = R * T * a + Q * R * b := by rw [Int.mul_add]; congr 1 <;> ac_rfl
      rw [e1, e2]; omega
    have e0 : -sg * R * x + sg * T * y = sg * ((T : Int) * y - R * x) := by
      rw [Int.mul_sub, Int.neg_mul, Int.neg_mul, Int.mul_assoc, Int.mul_assoc]; omega
    rw [e0, hX, hY, Int.mul_add, Int.mul_add]
    have e3 : (R : Int) * (a0 * S) = (R * a0) * S := by ac_rfl
    have e4 : (T : Int) * (b0 * S) = (T * b0) * S := by ac_rfl
    have e5 : (T : Int) * b0 * S - R * a0 * S = sg * b * S := by rw [← Int.sub_mul, e]
    rw [e3, e4, show (T : Int) * b0 * S + T * yl - (R * a0 * S + R * xl) = sg * b * S + (T * yl - R * xl) by omega, Int.mul_add, ← Int.mul_assoc, ← Int.mul_assoc, hsq, Int.one_mul]
  -- both are not negative, and the second is not greater
  have hfit : 0 ≤ sg * P * x + -sg * Q * y ∧ 0 ≤ -sg * R * x + sg * T * y ∧ -sg * R * x + sg * T * y ≤ sg * P * x + -sg * Q * y := by
    rcases h.ok with ⟨e1, e2, e3, e4, e5⟩ | ⟨e1, e2⟩
    · subst e1; subst e2; subst e3; subst e4; subst e5
      simp; exact hyx
    · rcases h.pq with ⟨p1, p2, p3, p4, p5⟩ | ⟨p1, p2, p3⟩
      · subst p1; subst p2; subst p3; subst p4; subst p5
        simp; exact hyx
      · have k1 : R * xl ≤ T * S := Nat.mul_le_mul h.rt (Nat.le_of_lt hxl)
        have k2 : T * yl ≤ T * S := Nat.mul_le_mul_left _ (Nat.le_of_lt hyl)
        have k3 : T * S ≤ b * S := Nat.mul_le_mul_right _ e1
        have k4 : P * xl ≤ Q * S := Nat.mul_le_mul p1 (Nat.le_of_lt hxl)
        have k5 : Q * yl ≤ Q * S := Nat.mul_le_mul_left _ (Nat.le_of_lt hyl)
        have k6 : (T + Q + b) * S ≤ a * S := Nat.mul_le_mul_right _ e2
        rw [Nat.add_mul, Nat.add_mul] at k6
        have z1 : ((R * xl : Nat) : Int) = (R : Int) * xl := by simp
        have z2 : ((T * yl : Nat) : Int) = (T : Int) * yl := by simp
        have z3 : ((b * S : Nat) : Int) = (b : Int) * S := by simp
        have z4 : ((P * xl : Nat) : Int) = (P : Int) * xl := by simp
        have z5 : ((Q * yl : Nat) : Int) = (Q : Int) * yl := by simp
        have z6 : ((a * S : Nat) : Int) = (a : Int) * S := by simp
        rw [eX, eY]
        rcases h.sgn with e | e
        · rw [e, Int.one_mul, Int.one_mul]; omega
        · rw [e]; omega
  obtain ⟨f1, f2, f3⟩ := hfit
  refine ⟨(sg * P * x + -sg * Q * y).toNat, (-sg * R * x + sg * T * y).toNat, Int.toNat_of_nonneg f1, Int.toNat_of_nonneg f2, by omega, ?_, ?_⟩
  · apply Int.ofNat.inj
    show ((x : Nat) : Int) = ((T * (sg * P * x + -sg * Q * y).toNat + Q * (-sg * R * x + sg * T * y).toNat : Nat) : Int)
    rw [Int.natCast_add, Int.natCast_mul, Int.natCast_mul, Int.toNat_of_nonneg f1, Int.toNat_of_nonneg f2]
    have e : (T : Int) * (sg * P * x + -sg * Q * y) + Q * (-sg * R * x + sg * T * y) = sg * (P * T - Q * R) * x := by
      rw [Int.mul_add, Int.mul_add, Int.mul_sub, Int.sub_mul]
      have t1 : (T : Int) * (sg * P * x) = sg * (P * T) * x := by ac_rfl
      have t2 : (T : Int) * (-sg * Q * y) = -(sg * (T * Q) * y) := by rw [Int.neg_mul, Int.neg_mul, Int.mul_neg]; congr 1; ac_rfl
      have t3 : (Q : Int) * (-sg * R * x) = -(sg * (Q * R) * x) := by rw [Int.neg_mul, Int.neg_mul, Int.mul_neg]; congr 1; ac_rfl
      have t4 : (Q : Int) * (sg * T * y) = sg * (T * Q) * y := by ac_rfl
      rw [t1, t2, t3, t4]; omega
    rw [e, hdet, hsq, Int.one_mul]
  · apply Int.ofNat.inj
    show ((y : Nat) : Int) = ((R * (sg * P * x + -sg * Q * y).toNat + P * (-sg * R * x + sg * T * y).toNat : Nat) : Int)
    rw [Int.natCast_add, Int.natCast_mul, Int.natCast_mul, Int.toNat_of_nonneg f1, Int.toNat_of_nonneg f2]
    have e : (R : Int) * (sg * P * x + -sg * Q * y) + P * (-sg * R * x + sg * T * y) = sg * (P * T - Q * R) * y := by
      rw [Int.mul_add, Int.mul_add, Int.mul_sub, Int.sub_mul]
      have t1 : (R : Int) * (sg * P * x) = sg * (R * P) * x := by ac_rfl
      have t2 : (R : Int) * (-sg * Q * y) = -(sg * (Q * R) * y) := by rw [Int.neg_mul, Int.neg_mul, Int.mul_neg]; congr 1; ac_rfl
      have t3 : (P : Int) * (-sg * R * x) = -(sg * (R * P) * x) := by rw [Int.neg_mul, Int.neg_mul, Int.mul_neg]; congr 1; ac_rfl
      have t4 : (P : Int) * (sg * T * y) = sg * (P * T) * y := by ac_rfl
      rw [t1, t2, t3, t4]; omega
    rw [e, hdet, hsq, Int.one_mul]

/-- The new pair has the same greatest common divisor. -/
theorem gcd_lin {x y X Y P Q R T : Nat} {p q r s : Int} (hx : x = T * X + Q * Y) (hy : y = R * X + P * Y) (hX : (X : Int) = p * x + q * y) (hY : (Y : Int) = r * x + s * y) : Nat.gcd X Y = Nat.gcd x y := by
  apply Nat.dvd_antisymm
  · apply Nat.dvd_gcd
    · rw [hx]
      exact Nat.dvd_add (Nat.dvd_trans (Nat.gcd_dvd_left X Y) (Nat.dvd_mul_left _ _)) (Nat.dvd_trans (Nat.gcd_dvd_right X Y) (Nat.dvd_mul_left _ _))
    · rw [hy]
      exact Nat.dvd_add (Nat.dvd_trans (Nat.gcd_dvd_left X Y) (Nat.dvd_mul_left _ _)) (Nat.dvd_trans (Nat.gcd_dvd_right X Y) (Nat.dvd_mul_left _ _))
  · have h1 : ((Nat.gcd x y : Nat) : Int) ∣ (x : Int) := Int.natCast_dvd_natCast.2 (Nat.gcd_dvd_left x y)
    have h2 : ((Nat.gcd x y : Nat) : Int) ∣ (y : Int) := Int.natCast_dvd_natCast.2 (Nat.gcd_dvd_right x y)
    apply Nat.dvd_gcd
    · apply Int.natCast_dvd_natCast.1
      rw [hX]
      exact Int.dvd_add (Int.dvd_mul_of_dvd_right h1) (Int.dvd_mul_of_dvd_right h2)
    · apply Int.natCast_dvd_natCast.1
      rw [hY]
      exact Int.dvd_add (Int.dvd_mul_of_dvd_right h1) (Int.dvd_mul_of_dvd_right h2)

/-- After one division at least, the pair has become smaller. -/
theorem Lh.less {a0 b0 a b : Nat} {sg : Int} {P Q R T : Nat} (h : Lh a0 b0 a b sg P Q R T) (hne : 1 ≤ R) {x y X Y : Nat} (hx : x = T * X + Q * Y) (hy : y = R * X + P * Y) (hy0 : 0 < y) (_hYX : Y ≤ X) : X + Y < x + y ∧ X ≤ x := by
  have hT := h.t_pos
  rcases h.pq with ⟨_, _, e3, _, _⟩ | ⟨p1, p2, p3⟩
  · omega
  · have k1 : 1 * X ≤ T * X := Nat.mul_le_mul_right _ hT
    have k2 : 1 * X ≤ R * X := Nat.mul_le_mul_right _ hne
    have k3 : 1 * Y ≤ Q * Y := Nat.mul_le_mul_right _ p3
    have hX0 : 0 < X := by
      by_cases e : X = 0
      · have : Y = 0 := by omega
        rw [e, this] at hy; simp at hy; omega
      · omega
    omega

/-! The row of p*x + q*y, limb by limb. -/

/-- What is carried into place k. -/
def lc (p q : Int) (x y k : Nat) : Int := (p * ((x % B ^ k : Nat) : Int) + q * ((y % B ^ k : Nat) : Int)) / ((B ^ k : Nat) : Int)

theorem lc_zero (p q : Int) (x y : Nat) : lc p q x y 0 = 0 := by simp [lc, Nat.mod_one]

theorem lc_div (p q : Int) (x y k : Nat) : (p * ((x % B ^ (k + 1) : Nat) : Int) + q * ((y % B ^ (k + 1) : Nat) : Int)) / ((B ^ k : Nat) : Int) = lc p q x y k + (p * ((dg x k : Nat) : Int) + q * ((dg y k : Nat) : Int)) := by
  have hB : ((B ^ k : Nat) : Int) ≠ 0 := by have := pow_pos k; omega
  rw [lc, mod_succ x k, mod_succ y k]
  have e : p * ((x % B ^ k + B ^ k * dg x k : Nat) : Int) + q * ((y % B ^ k + B ^ k * dg y k : Nat) : Int) = (p * ((x % B ^ k : Nat) : Int) + q * ((y % B ^ k : Nat) : Int)) + ((B ^ k : Nat) : Int) * (p * ((dg x k : Nat) : Int) + q * ((dg y k : Nat) : Int)) := by
    rw [Int.natCast_add, Int.natCast_add, Int.natCast_mul, Int.natCast_mul, Int.mul_add, Int.mul_add, Int.mul_add]
    have e1 : p * (((B ^ k : Nat) : Int) * ((dg x k : Nat) : Int)) = ((B ^ k : Nat) : Int) * (p * ((dg x k : Nat) : Int)) := by ac_rfl
    have e2 : q * (((B ^ k : Nat) : Int) * ((dg y k : Nat) : Int)) = ((B ^ k : Nat) : Int) * (q * ((dg y k : Nat) : Int)) := by ac_rfl
    rw [e1, e2]; omega
  rw [e, Int.add_mul_ediv_left _ _ hB]

theorem lc_succ (p q : Int) (x y k : Nat) : lc p q x y (k + 1) = (p * ((dg x k : Nat) : Int) + q * ((dg y k : Nat) : Int) + lc p q x y k) / 1000000000 := by
  have h := lc_div p q x y k
  rw [show p * ((dg x k : Nat) : Int) + q * ((dg y k : Nat) : Int) + lc p q x y k = lc p q x y k + (p * ((dg x k : Nat) : Int) + q * ((dg y k : Nat) : Int)) by omega, ← h]
  rw [Int.ediv_ediv_of_nonneg (by have := pow_pos k; omega)]
  rw [lc, pow_succ, Int.natCast_mul, show ((B : Nat) : Int) = 1000000000 from rfl]

theorem lc_limb {p q : Int} {x y X : Nat} (h : (X : Int) = p * x + q * y) (k : Nat) : ((dg X k : Nat) : Int) = (p * ((dg x k : Nat) : Int) + q * ((dg y k : Nat) : Int) + lc p q x y k) % 1000000000 := by
  have hB : ((B ^ k : Nat) : Int) ≠ 0 := by have := pow_pos k; omega
  have hd := lc_div p q x y k
  rw [show p * ((dg x k : Nat) : Int) + q * ((dg y k : Nat) : Int) + lc p q x y k = lc p q x y k + (p * ((dg x k : Nat) : Int) + q * ((dg y k : Nat) : Int)) by omega, ← hd]
  rw [dg, Int.natCast_emod, Int.natCast_ediv, h, show ((B : Nat) : Int) = 1000000000 from rfl]
  have ex : (x : Int) = ((x % B ^ (k + 1) : Nat) : Int) + ((B ^ (k + 1) : Nat) : Int) * ((x / B ^ (k + 1) : Nat) : Int) := by
    rw [← Int.natCast_mul, ← Int.natCast_add, Nat.mod_add_div]
  have ey : (y : Int) = ((y % B ^ (k + 1) : Nat) : Int) + ((B ^ (k + 1) : Nat) : Int) * ((y / B ^ (k + 1) : Nat) : Int) := by
    rw [← Int.natCast_mul, ← Int.natCast_add, Nat.mod_add_div]
  have e : p * (x : Int) + q * (y : Int) = (p * ((x % B ^ (k + 1) : Nat) : Int) + q * ((y % B ^ (k + 1) : Nat) : Int)) + ((B ^ k : Nat) : Int) * (1000000000 * (p * ((x / B ^ (k + 1) : Nat) : Int) + q * ((y / B ^ (k + 1) : Nat) : Int))) := by
    rw [congrArg (fun z => p * z) ex, congrArg (fun z => q * z) ey, Int.mul_add, Int.mul_add, Int.mul_add, Int.mul_add]
    rw [show ((B ^ (k + 1) : Nat) : Int) = ((B ^ k : Nat) : Int) * 1000000000 by rw [pow_succ, Int.natCast_mul]; rfl]
    generalize ((B ^ k : Nat) : Int) = b
    generalize ((x / B ^ (k + 1) : Nat) : Int) = u
    generalize ((y / B ^ (k + 1) : Nat) : Int) = v
    have e1 : p * (b * 1000000000 * u) = b * (1000000000 * (p * u)) := by ac_rfl
    have e2 : q * (b * 1000000000 * v) = b * (1000000000 * (q * v)) := by ac_rfl
    rw [e1, e2]; omega
  rw [e, Int.add_mul_ediv_left _ _ hB, Int.add_mul_emod_self_left]

/-- The signs of the two factors are opposite, and both are small: then so is what is carried. -/
theorem lc_bound {p q : Int} (x y k : Nat) (h : (0 ≤ p ∧ p ≤ 1000000000 ∧ q ≤ 0 ∧ -1000000000 ≤ q) ∨ (0 ≤ q ∧ q ≤ 1000000000 ∧ p ≤ 0 ∧ -1000000000 ≤ p)) : -1000000000 ≤ lc p q x y k ∧ lc p q x y k ≤ 1000000000 := by
  have hp := pow_pos k
  have hx : x % B ^ k < B ^ k := Nat.mod_lt _ hp
  have hy : y % B ^ k < B ^ k := Nat.mod_lt _ hp
  unfold lc
  generalize B ^ k = b at *
  generalize x % b = u at *
  generalize y % b = v at *
  have hb : (0 : Int) < (b : Int) := by omega
  have key : ∀ (m : Int) (t : Nat), 0 ≤ m → m ≤ 1000000000 → t < b → 0 ≤ m * (t : Int) ∧ m * (t : Int) ≤ 1000000000 * (b : Int) := by
    intro m t h1 h2 h3
    refine ⟨Int.mul_nonneg h1 (by omega), ?_⟩
    exact Int.le_trans (Int.mul_le_mul_of_nonneg_right h2 (by omega)) (Int.mul_le_mul_of_nonneg_left (by omega) (by omega))
  have hlo : -1000000000 * (b : Int) ≤ p * u + q * v ∧ p * u + q * v ≤ 1000000000 * (b : Int) := by
    rcases h with ⟨h1, h2, h3, h4⟩ | ⟨h1, h2, h3, h4⟩
    · obtain ⟨a1, a2⟩ := key p u h1 h2 hx
      obtain ⟨a3, a4⟩ := key (-q) v (by omega) (by omega) hy
      rw [Int.neg_mul] at a3 a4
      omega
    · obtain ⟨a1, a2⟩ := key q v h1 h2 hy
      obtain ⟨a3, a4⟩ := key (-p) u (by omega) (by omega) hx
      rw [Int.neg_mul] at a3 a4
      omega
  constructor
  · exact Int.le_ediv_of_mul_le hb hlo.1
  · have := Int.ediv_le_ediv hb hlo.2
    rwa [Int.mul_ediv_cancel _ (by omega)] at this

/-- The sum at one place is small. -/
theorem pq_bound {p q : Int} (x y k : Nat) (h : (0 ≤ p ∧ p ≤ 1000000000 ∧ q ≤ 0 ∧ -1000000000 ≤ q) ∨ (0 ≤ q ∧ q ≤ 1000000000 ∧ p ≤ 0 ∧ -1000000000 ≤ p)) :
    (-1000000000000000000 ≤ p * ((dg x k : Nat) : Int) ∧ p * ((dg x k : Nat) : Int) ≤ 1000000000000000000) ∧ (-1000000000000000000 ≤ q * ((dg y k : Nat) : Int) ∧ q * ((dg y k : Nat) : Int) ≤ 1000000000000000000) ∧ -1000000000000000000 ≤ p * ((dg x k : Nat) : Int) + q * ((dg y k : Nat) : Int) ∧ p * ((dg x k : Nat) : Int) + q * ((dg y k : Nat) : Int) ≤ 1000000000000000000 := by
  have hx := dg_lt x k
  have hy := dg_lt y k
  generalize dg x k = u at *
  generalize dg y k = v at *
  have key : ∀ (m : Int) (t : Nat), 0 ≤ m → m ≤ 1000000000 → t < 1000000000 → 0 ≤ m * (t : Int) ∧ m * (t : Int) ≤ 1000000000 * 1000000000 := by
    intro m t h1 h2 h3
    refine ⟨Int.mul_nonneg h1 (by omega), ?_⟩
    exact Int.le_trans (Int.mul_le_mul_of_nonneg_right h2 (by omega)) (Int.mul_le_mul_of_nonneg_left (by omega) (by omega))
  rcases h with ⟨h1, h2, h3, h4⟩ | ⟨h1, h2, h3, h4⟩
  · obtain ⟨a1, a2⟩ := key p u h1 h2 hx
    obtain ⟨a3, a4⟩ := key (-q) v (by omega) (by omega) hy
    rw [Int.neg_mul] at a3 a4
    omega
  · obtain ⟨a1, a2⟩ := key q v h1 h2 hy
    obtain ⟨a3, a4⟩ := key (-p) u (by omega) (by omega) hx
    rw [Int.neg_mul] at a3 a4
    omega

end Go.Proofs.YtiocehlefpbbhaaGreatDoor.NV
