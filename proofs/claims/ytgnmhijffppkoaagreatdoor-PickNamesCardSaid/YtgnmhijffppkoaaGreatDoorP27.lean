/-
  How rational numbers compare: rat's Cmp, Sign, Min and Max.
-/
import Derived.Test.YtgnmhijffppkoaaGreatDoorP26
import Derived.Test.YtgnmhijffppkoaaGreatDoorHI
import Derived.Test.YtgnmhijffppkoaaGreatDoorP21
namespace Go.Proofs.YtgnmhijffppkoaaGreatDoor
open Go.RowKit NV
open Go.Lib (decDigits)

/-- How two rational numbers compare, and the sign of one. -/
def cmpQ (p q : Rat) : Int := if p < q then -1 else if q < p then 1 else 0
def sgnQ (p : Rat) : Int := cmpQ p 0

theorem lt_nat (p q : Rat) : p < q ↔ (if ng p then -((tp p * q.den : Nat) : Int) else ((tp p * q.den : Nat) : Int)) < (if ng q then -((tp q * p.den : Nat) : Int) else ((tp q * p.den : Nat) : Int)) := by
  rw [Rat.lt_iff, num_of p, num_of q]
  cases ng p <;> cases ng q <;> simp [Int.neg_mul]

theorem cmp_core (m1 m2 : Bool) (a b x y : Nat) (z1 : x = 0 ↔ a = 0) (z2 : y = 0 ↔ b = 0) (g1 : m1 = true → a ≠ 0) (g2 : m2 = true → b ≠ 0) :
    (if sgnF m1 a = sgnF m2 b then (if m1 then cmpN y x else cmpN x y) else Lib.compareInt (sgnF m1 a) (sgnF m2 b)) =
    if (if m1 then -(x : Int) else (x : Int)) < (if m2 then -(y : Int) else (y : Int)) then -1 else if (if m2 then -(y : Int) else (y : Int)) < (if m1 then -(x : Int) else (x : Int)) then 1 else 0 := by
  unfold sgnF Lib.compareInt cmpN
  by_cases ha : a = 0
  · have hx := z1.2 ha
    have hm : m1 = false := by
      cases m1
      · rfl
      · exact absurd ha (g1 rfl)
    subst ha hx hm
    by_cases hb : b = 0
    · have hy := z2.2 hb
      have hm : m2 = false := by
        cases m2
        · rfl
        · exact absurd hb (g2 rfl)
      subst hb hy hm
      simp
    · have hy : y ≠ 0 := fun e => hb (z2.1 e)
      cases m2 <;> simp [hb] <;> (repeat' split) <;> omega
  · have hx : x ≠ 0 := fun e => ha (z1.1 e)
    by_cases hb : b = 0
    · have hy := z2.2 hb
      have hm : m2 = false := by
        cases m2
        · rfl
        · exact absurd hb (g2 rfl)
      subst hb hy hm
      cases m1 <;> simp [ha] <;> (repeat' split) <;> omega
    · have hy : y ≠ 0 := fun e => hb (z2.1 e)
      cases m1 <;> cases m2 <;> simp [ha, hb] <;> (repeat' split) <;> omega

theorem cmpF_q (p q : Rat) : cmpF (ng p) (tp p) p.den (ng q) (tp q) q.den = cmpQ p q := by
  have h1 := lt_nat p q
  have h2 := lt_nat q p
  have z1 : tp p * q.den = 0 ↔ tp p = 0 := by
    have := q.den_pos
    rw [Nat.mul_eq_zero]; omega
  have z2 : tp q * p.den = 0 ↔ tp q = 0 := by
    have := p.den_pos
    rw [Nat.mul_eq_zero]; omega
  have g1 : ng p = true → tp p ≠ 0 := ng_zero
  have g2 : ng q = true → tp q ≠ 0 := ng_zero
  unfold cmpF cmpQ
  simp only [h1, h2]
  exact cmp_core (ng p) (ng q) (tp p) (tp q) _ _ z1 z2 g1 g2

theorem sgnF_q (p : Rat) : sgnF (ng p) (tp p) = sgnQ p := by
  have h1 := lt_nat p 0
  have h2 := lt_nat 0 p
  rw [show ng (0 : Rat) = false from rfl, show tp (0 : Rat) = 0 from rfl, show (0 : Rat).den = 1 from rfl, Nat.mul_one, Nat.zero_mul] at h1 h2
  have g1 : ng p = true → tp p ≠ 0 := ng_zero
  unfold sgnQ cmpQ sgnF
  simp only [h1, h2]
  generalize tp p = a at *
  by_cases ha : a = 0
  · have hm : ng p = false := by
      cases h : ng p
      · rfl
      · exact absurd ha (g1 h)
    rw [hm]; subst ha; simp
  · cases ng p <;> simp [ha] <;> (repeat' split) <;> omega

theorem cmpQ_self (p : Rat) : cmpQ p p = 0 := by unfold cmpQ; rw [if_neg Rat.lt_irrefl, if_neg Rat.lt_irrefl]
theorem lt_asymm' {p q : Rat} (h : p < q) : ¬ q < p := fun h2 => absurd (Rat.le_of_lt h) (Rat.not_le.2 h2)
theorem cmpQ_lt {p q : Rat} (h : p < q) : cmpQ p q = -1 := if_pos h
theorem cmpQ_gt {p q : Rat} (h : q < p) : cmpQ p q = 1 := by unfold cmpQ; rw [if_neg (lt_asymm' h), if_pos h]
theorem lt_tri (p q : Rat) : p < q ∨ p = q ∨ q < p := by
  by_cases h : p < q
  · exact .inl h
  · by_cases h2 : q < p
    · exact .inr (.inr h2)
    · exact .inr (.inl (Rat.le_antisymm (Rat.not_lt.1 h2) (Rat.not_lt.1 h)))
theorem cmpQ_neg (p q : Rat) : cmpQ q p = -cmpQ p q := by
  rcases lt_tri p q with h | h | h
  · rw [cmpQ_lt h, cmpQ_gt h]; rfl
  · subst h; rw [cmpQ_self]; rfl
  · rw [cmpQ_lt h, cmpQ_gt h]
theorem cmpQ_zero {p q : Rat} : cmpQ p q = 0 ↔ p = q := by
  rcases lt_tri p q with h | h | h
  · rw [cmpQ_lt h]; exact ⟨fun e => by simp at e, fun e => absurd (e ▸ h) Rat.lt_irrefl⟩
  · exact ⟨fun _ => h, fun _ => by rw [h, cmpQ_self]⟩
  · rw [cmpQ_gt h]; exact ⟨fun e => by simp at e, fun e => absurd (e ▸ h) Rat.lt_irrefl⟩
theorem cmpQ_le {p q : Rat} : cmpQ p q ≤ 0 ↔ p ≤ q := by
  rcases lt_tri p q with h | h | h
  · rw [cmpQ_lt h]; exact ⟨fun _ => Rat.le_of_lt h, fun _ => by omega⟩
  · subst h; rw [cmpQ_self]; exact ⟨fun _ => Rat.le_refl, fun _ => by omega⟩
  · rw [cmpQ_gt h]; exact ⟨fun e => by omega, fun e => absurd h (Rat.not_lt.2 e)⟩
theorem cmpQ_sub (p q : Rat) : sgnQ (p + -q) = cmpQ p q := by
  unfold sgnQ cmpQ
  have e1 : p + -q < 0 ↔ p < q := by
    constructor
    · intro h; have := (Rat.add_lt_add_right (c := q)).2 h; rwa [Rat.add_assoc, Rat.neg_add_cancel, Rat.add_zero, Rat.zero_add] at this
    · intro h; have := (Rat.add_lt_add_right (c := -q)).2 h; rwa [Rat.add_neg_cancel] at this
  have e2 : 0 < p + -q ↔ q < p := by
    constructor
    · intro h; have := (Rat.add_lt_add_right (c := q)).2 h; rwa [Rat.add_assoc, Rat.neg_add_cancel, Rat.add_zero, Rat.zero_add] at this
    · intro h; have := (Rat.add_lt_add_right (c := -q)).2 h; rwa [Rat.add_neg_cancel] at this
  simp only [e1, e2]
theorem cmpQ_add (p q r : Rat) : cmpQ (p + r) (q + r) = cmpQ p q := by
  unfold cmpQ; simp only [Rat.add_lt_add_right]
theorem cmpQ_mul (p q r : Rat) : cmpQ (p * r) (q * r) = cmpQ p q * sgnQ r := by
  unfold sgnQ
  rcases lt_tri r 0 with h | h | h
  · rw [cmpQ_lt h]
    have hr : 0 < -r := by have := Rat.neg_lt_neg h; simpa using this
    have e : ∀ a b : Rat, a * r < b * r ↔ b < a := fun a b => by
      have := Rat.mul_lt_mul_right (a := b) (b := a) hr
      rwa [Rat.mul_neg, Rat.mul_neg, Rat.neg_lt_neg_iff] at this
    unfold cmpQ
    simp only [e]
    rcases lt_tri p q with h1 | h1 | h1
    · rw [if_pos h1, if_pos h1, if_neg (lt_asymm' h1)]; rfl
    · subst h1; rw [if_neg Rat.lt_irrefl, if_neg Rat.lt_irrefl]; rfl
    · rw [if_neg (lt_asymm' h1), if_pos h1, if_neg (lt_asymm' h1), if_pos h1]; rfl
  · subst h; rw [Rat.mul_zero, Rat.mul_zero, cmpQ_self, Int.mul_zero]
  · rw [cmpQ_gt h, Int.mul_one]
    unfold cmpQ; simp only [Rat.mul_lt_mul_right h]

theorem sign_q {w : World} {v : Value} {p : Rat} (hp : FQ w v p) :
    Calls Tryz.prog 210 #[v] w fun e w' => e = .returned (.int .i64 (sgnQ p)) ∧ Below w.heap.size w w' := by
  obtain ⟨x1, y1, rfl, hx1, hy1⟩ := hp
  exact sgnF_q p ▸ fsign_any hx1 hy1

set_option maxHeartbeats 3200000 in
set_option maxRecDepth 100000 in
theorem sign_clo {w : World} {v : Value} {p : Rat} (hp : FQ w v p) :
    Calls Tryz.prog 209 #[v] w fun e w' => e = .returned (.tuple #[.int .i64 (sgnQ p), .int .i64 0]) ∧ Below w.heap.size w w' := by
  obtain ⟨a1, k1, a2, k2, rfl⟩ := hp.form
  have hb0 : Below w.heap.size w (w.alloc (.cells #[.bool (ng p), .slice a1 (ln (tp p)) k1, .slice a2 (ln p.den) k2] 167)) := (Below.refl _ _).alloc (Nat.le_refl _) _
  have HC := Lib.hid (sign_q (hp.below hb0))
  have HB := Lib.hid hb0
  clear hp hb0
  go_enter Tryz.func209, Tryz.ntmps209
  go_wp2_with fail
  refine HC.out.mono ?_
  rintro e w1 ⟨rfl, hb1⟩
  replace HB := Lib.hid (HB.out.trans (hb1.mono HB.out.size))
  clear hb1 HC
  go_wp2_with fail
  go_ret2
  exact ⟨rfl, HB.out⟩

set_option maxHeartbeats 1600000 in
theorem Sign_q (p : Rat) (hp : QOk p) (w : World) (hm : ML w) :
    Calls Tryz.prog 156 #[.string (qstr p)] w fun e w' => e = .returned (.tuple #[.int .i64 (sgnQ p), .int .i64 0]) ∧ Below w.heap.size w w' := by
  have e1 : ∀ args w, (callFunc 209 args).run Tryz.prog w = .ok (.enter 209 args) w := enters_of Tryz.func209 (by kernel_rfl) rfl
  have HC := Lib.hid (withOne_okI 209 #[] e1 (qstr p) w (qsmall hp) hm (qstr_chk hp) (.int .i64 (sgnQ p)) (.int .i64 0)
    (fun _ _ _ hv => sign_clo (fq_of hv)))
  clear hm hp
  go_enter Tryz.func156, Tryz.ntmps156
  go_wp2_with fail
  refine HC.out.mono ?_
  rintro e w1 ⟨rfl, hb⟩
  have HB := Lib.hid hb
  clear hb HC
  go_wp2_with fail
  go_ret2
  exact ⟨rfl, HB.out⟩

theorem cmpQ_range (p q : Rat) : cmpQ p q = -1 ∨ cmpQ p q = 0 ∨ cmpQ p q = 1 := by
  rcases lt_tri p q with h | h | h
  · exact .inl (cmpQ_lt h)
  · exact .inr (.inl (cmpQ_zero.2 h))
  · exact .inr (.inr (cmpQ_gt h))

end Go.Proofs.YtgnmhijffppkoaaGreatDoor
