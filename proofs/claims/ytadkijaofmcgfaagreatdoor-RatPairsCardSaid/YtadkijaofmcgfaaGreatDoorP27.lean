/-
  How rational numbers compare: rat's Cmp, Sign, Min and Max.
-/
import Derived.Test.YtadkijaofmcgfaaGreatDoorP26
import Derived.Test.YtadkijaofmcgfaaGreatDoorP23
import Derived.Test.YtadkijaofmcgfaaGreatDoorP21
namespace Go.Proofs.YtadkijaofmcgfaaGreatDoor
open Go.RowKit NV
open Go.Lib (decDigits)

/-- How two rational numbers compare, and the sign of one. -/
def cmpQ (p q : Rat) : Int := if p < q then -1 else if q < p then 1 else 0
def sgnQ (p : Rat) : Int := cmpQ p 0

theorem lt_nat (p q : Rat) : p < q ↔ (if ng p then -((tp p * q.den : Nat) : Int) else ((tp p * q.den : Nat) : Int)) < (if ng q then -((tp q * p.den : Nat) : Int) else ((tp q * p.den : Nat) : Int)) := by
  rw [Rat.lt_iff, num_of p, num_of q]
  cases ng p <;> cases ng q <;> simp [Int.neg_mul]

theorem cmp_core (m1 m2 : Bool) (a b x y : Nat) (z1 : x = 0 ↔ a = 0) (z2 : y = 0 ↔ b = 0) (g1 : m1 = true → a ≠ 0) (g2 : m2 = true → b ≠ 0) :
    (if sgnF m1 a = sgnF m2 b then (if m1 then cmpN y x else cmpN x y) else Lib.compareInt (sgnF m1 a) (sgnF m2 b)) =
    if (if m1 then -(x : Int) else (x : Int)) < (if m2 then -(y : Int) else (y : Int)) then -1 else if (if m2 then -(y : Int) else (y : Int)) < (if m1 then -(x : Int) else (x : Int)) then 1 else 0 := by
  unfold sgnF Lib.compareInt cmpN
  by_cases ha : a = 0
  · have hx := z1.2 ha
    have hm : m1 = false := by
      cases m1
      · rfl
      · exact absurd ha (g1 rfl)
    subst ha hx hm
    by_cases hb : b = 0
    · have hy := z2.2 hb
      have hm : m2 = false := by
        cases m2
        · rfl
        · exact absurd hb (g2 rfl)
      subst hb hy hm
      simp
    · have hy : y ≠ 0 := fun e => hb (z2.1 e)
      cases m2 <;> simp [hb] <;> (repeat' split) <;> omega
  · have hx : x ≠ 0 := fun e => ha (z1.1 e)
    by_cases hb : b = 0
    · have hy := z2.2 hb
      have hm : m2 = false := by
        cases m2
        · rfl
        · exact absurd hb (g2 rfl)
      subst hb hy hm
      cases m1 <;> simp [ha] <;> (repeat' split) <;> omega
    · have hy : y ≠ 0 := fun e => hb (z2.1 e)
      cases m1 <;> cases m2 <;> simp [ha, hb] <;> (repeat' split) <;> omega

theorem cmpF_q (p q : Rat) : cmpF (ng p) (tp p) p.den (ng q) (tp q) q.den = cmpQ p q := by
  have h1 := lt_nat p q
  have h2 := lt_nat q p
  have z1 : tp p * q.den = 0 ↔ tp p = 0 := by
    have := q.den_pos
    rw [Nat.mul_eq_zero]; omega
  have z2 : tp q * p.den = 0 ↔ tp q = 0 := by
    have := p.den_pos
    rw [Nat.mul_eq_zero]; omega
  have g1 : ng p = true → tp p ≠ 0 := ng_zero
  have g2 : ng q = true → tp q ≠ 0 := ng_zero
  unfold cmpF cmpQ
  simp only [h1, h2]
  exact cmp_core (ng p) (ng q) (tp p) (tp q) _ _ z1 z2 g1 g2

theorem sgnF_q (p : Rat) : sgnF (ng p) (tp p) = sgnQ p := by
  have h1 := lt_nat p 0
  have h2 := lt_nat 0 p
  rw [show ng (0 : Rat) = false from rfl, show tp (0 : Rat) = 0 from rfl, show (0 : Rat).den = 1 from rfl, Nat.mul_one, Nat.zero_mul] at h1 h2
  have g1 : ng p = true → tp p ≠ 0 := ng_zero
  unfold sgnQ cmpQ sgnF
  simp only [h1, h2]
  generalize tp p = a at *
  by_cases ha : a = 0
  · have hm : ng p = false := by
      cases h : ng p
      · rfl
      · exact absurd ha (g1 h)
    rw [hm]; subst ha; simp
  · cases ng p <;> simp [ha] <;> (repeat' split) <;> omega

theorem cmpQ_self (p : Rat) : cmpQ p p = 0 := by unfold cmpQ; rw [if_neg Rat.lt_irrefl, if_neg Rat.lt_irrefl]
theorem lt_asymm' {p q : Rat} (h : p < q) : ¬ q < p := fun h2 => absurd (Rat.le_of_lt h) (Rat.not_le.2 h2)
theorem cmpQ_lt {p q : Rat} (h : p < q) : cmpQ p q = -1 := if_pos h
theorem cmpQ_gt {p q : Rat} (h : q < p) : cmpQ p q = 1 := by unfold cmpQ; rw [if_neg (lt_asymm' h), if_pos h]
theorem lt_tri (p q : Rat) : p < q ∨ p = q ∨ q < p := by
  by_cases h : p < q
  · exact .inl h
  · by_cases h2 : q < p
    · exact .inr (.inr h2)
    · exact .inr (.inl (Rat.le_antisymm (Rat.not_lt.1 h2) (Rat.not_lt.1 h)))
theorem cmpQ_neg (p q : Rat) : cmpQ q p = -cmpQ p q := by
  rcases lt_tri p q with h | h | h
  · rw [cmpQ_lt h, cmpQ_gt h]; rfl
  · subst h; rw [cmpQ_self]; rfl
  · rw [cmpQ_lt h, cmpQ_gt h]
theorem cmpQ_zero {p q : Rat} : cmpQ p q = 0 ↔ p = q := by
  rcases lt_tri p q with h | h | h
  · rw [cmpQ_lt h]; exact ⟨fun e => by simp at e, fun e => absurd (e ▸ h) Rat.lt_irrefl⟩
  · exact ⟨fun _ => h, fun _ => by rw [h, cmpQ_self]⟩
  · rw [cmpQ_gt h]; exact ⟨fun e => by simp at e, fun e => absurd (e ▸ h) Rat.lt_irrefl⟩
theorem cmpQ_le {p q : Rat} : cmpQ p q ≤ 0 ↔ p ≤ q := by
  rcases lt_tri p q with h | h | h
  · rw [cmpQ_lt h]; exact ⟨fun _ => Rat.le_of_lt h, fun _ => by omega⟩
  · subst h; rw [cmpQ_self]; exact ⟨fun _ => Rat.le_refl, fun _ => by omega⟩
  · rw [cmpQ_gt h]; exact ⟨fun e => by omega, fun e => absurd h (Rat.not_lt.2 e)⟩
theorem cmpQ_sub (p q : Rat) : sgnQ (p + -q) = cmpQ p q := by
  unfold sgnQ cmpQ
  have e1 : p + -q < 0 ↔ p < q := by
    constructor
    · intro h; have := (Rat.add_lt_add_right (c := q)).2 h; rwa [Rat.add_assoc, Rat.neg_add_cancel, Rat.add_zero, Rat.zero_add] at this
    · intro h; have := (Rat.add_lt_add_right (c := -q)).2 h; rwa [Rat.add_neg_cancel] at this
  have e2 : 0 < p + -q ↔ q < p := by
    constructor
    · intro h; have := (Rat.add_lt_add_right (c := q)).2 h; rwa [Rat.add_assoc, Rat.neg_add_cancel, Rat.add_zero, Rat.zero_add] at this
    · intro h; have := (Rat.add_lt_add_right (c := -q)).2 h; rwa [Rat.add_neg_cancel] at this
  simp only [e1, e2]
theorem cmpQ_add (p q r : Rat) : cmpQ (p + r) (q + r) = cmpQ p q := by
  unfold cmpQ; simp only [Rat.add_lt_add_right]
theorem cmpQ_mul (p q r : Rat) : cmpQ (p * r) (q * r) = cmpQ p q * sgnQ r := by
  unfold sgnQ
  rcases lt_tri r 0 with h | h | h
  · rw [cmpQ_lt h]
    have hr : 0 < -r := by have := Rat.neg_lt_neg h; simpa using this
    have e : ∀ a b : Rat, a * r < b * r ↔ b < a := fun a b => by
      have := Rat.mul_lt_mul_right (a := b) (b := a) hr
      rwa [Rat.mul_neg, Rat.mul_neg, Rat.neg_lt_neg_iff] at this
    unfold cmpQ
    simp only [e]
    rcases lt_tri p q with h1 | h1 | h1
    · rw [if_pos h1, if_pos h1, if_neg (lt_asymm' h1)]; rfl
    · subst h1; rw [if_neg Rat.lt_irrefl, if_neg Rat.lt_irrefl]; rfl
    · rw [if_neg (lt_asymm' h1), if_pos h1, if_neg (lt_asymm' h1), if_pos h1]; rfl
  · subst h; rw [Rat.mul_zero, Rat.mul_zero, cmpQ_self, Int.mul_zero]
  · rw [cmpQ_gt h, Int.mul_one]
    unfold cmpQ; simp only [Rat.mul_lt_mul_right h]

theorem sign_q {w : World} {v : Value} {p : Rat} (hp : FQ w v p) :
    Calls Tryz.prog 90 #[v] w fun e w' => e = .returned (.int .i64 (sgnQ p)) ∧ Below w.heap.size w w' := by
  obtain ⟨x1, y1, rfl, hx1, hy1⟩ := hp
  exact sgnF_q p ▸ fsign_any hx1 hy1

theorem cmp_q {w : World} {v u : Value} {p q : Rat} (hp : FQ w v p) (hq : FQ w u q) (lp : QL 100000 p) (lq : QL 100000 q) :
    Calls Tryz.prog 79 #[v, u] w fun e w' => e = .returned (.int .i64 (cmpQ p q)) ∧ Below w.heap.size w w' := by
  obtain ⟨x1, y1, rfl, hx1, hy1⟩ := hp
  obtain ⟨x2, y2, rfl, hx2, hy2⟩ := hq
  rw [← cmpF_q, cmpF]
  by_cases hs : sgnF (ng p) (tp p) = sgnF (ng q) (tp q)
  · rw [if_pos hs]
    cases hm : ng p with
    | true =>
      rw [hm] at hs
      exact fcmp_M hx1 hy1 hx2 hy2 lp.1 lp.2 lq.1 lq.2 hs rfl
    | false =>
      rw [hm] at hs
      exact fcmp_P hx1 hy1 hx2 hy2 lp.1 lp.2 lq.1 lq.2 hs rfl
  · rw [if_neg hs]
    exact fcmp_D hx1 hy1 hx2 hy2 lp.1 lp.2 lq.1 lq.2 hs

set_option maxHeartbeats 3200000 in
set_option maxRecDepth 100000 in
theorem cmp_clo {w : World} {v u : Value} {p q : Rat} (hp : FQ w v p) (hq : FQ w u q) (lp : QL 445 p) (lq : QL 445 q) :
    Calls Tryz.prog 78 #[v, u] w fun e w' => e = .returned (.tuple #[.int .i64 (cmpQ p q), .int .i64 0]) ∧ Below w.heap.size w w' := by
  obtain ⟨a1, k1, a2, k2, rfl⟩ := hp.form
  obtain ⟨a3, k3, a4, k4, rfl⟩ := hq.form
  obtain ⟨hb0, hq1, hq2⟩ := two_frac w (ng p) (ng q) (.slice a1 (ln (tp p)) k1) (.slice a2 (ln p.den) k2) (.slice a3 (ln (tp q)) k3) (.slice a4 (ln q.den) k4)
  have HC := Lib.hid (cmp_q (hp.below hb0) (hq.below hb0) (lp.mono (by omega)) (lq.mono (by omega)))
  have HB := Lib.hid hb0
  clear hp hq hb0 hq1 hq2 lp lq
  go_enter Tryz.func78, Tryz.ntmps78
  go_wp2_with fail
  refine HC.out.mono ?_
  rintro e w1 ⟨rfl, hb1⟩
  replace HB := Lib.hid (HB.out.trans (hb1.mono HB.out.size))
  clear hb1 HC
  go_wp2_with fail
  go_ret2
  exact ⟨rfl, HB.out⟩

set_option maxHeartbeats 3200000 in
set_option maxRecDepth 100000 in
theorem sign_clo {w : World} {v : Value} {p : Rat} (hp : FQ w v p) :
    Calls Tryz.prog 89 #[v] w fun e w' => e = .returned (.tuple #[.int .i64 (sgnQ p), .int .i64 0]) ∧ Below w.heap.size w w' := by
  obtain ⟨a1, k1, a2, k2, rfl⟩ := hp.form
  have hb0 : Below w.heap.size w (w.alloc (.cells #[.bool (ng p), .slice a1 (ln (tp p)) k1, .slice a2 (ln p.den) k2] 49)) := (Below.refl _ _).alloc (Nat.le_refl _) _
  have HC := Lib.hid (sign_q (hp.below hb0))
  have HB := Lib.hid hb0
  clear hp hb0
  go_enter Tryz.func89, Tryz.ntmps89
  go_wp2_with fail
  refine HC.out.mono ?_
  rintro e w1 ⟨rfl, hb1⟩
  replace HB := Lib.hid (HB.out.trans (hb1.mono HB.out.size))
  clear hb1 HC
  go_wp2_with fail
  go_ret2
  exact ⟨rfl, HB.out⟩

set_option maxHeartbeats 1600000 in
theorem Cmp_q (p q : Rat) (hp : QOk p) (hq : QOk q) (w : World) (hm : ML w) :
    Calls Tryz.prog 20 #[.string (qstr p), .string (qstr q)] w fun e w' => e = .returned (.tuple #[.int .i64 (cmpQ p q), .int .i64 0]) ∧ Below w.heap.size w w' := by
  have e1 : ∀ args w, (callFunc 78 args).run Tryz.prog w = .ok (.enter 78 args) w := enters_of Tryz.func78 (by kernel_rfl) rfl
  have HC := Lib.hid (withTwo_okI 78 e1 (qstr p) (qstr q) w (qsmall hp) (qsmall hq) hm (ml_pos hm) (qstr_chk hp) (qstr_chk hq) (.int .i64 (cmpQ p q)) (.int .i64 0)
    (fun W v u hb hv hu => cmp_clo (fq_of hv) (fq_of hu) hp.ql hq.ql))
  clear hm hp hq
  go_enter Tryz.func20, Tryz.ntmps20
  go_wp2_with fail
  refine HC.out.mono ?_
  rintro e w1 ⟨rfl, hb⟩
  have HB := Lib.hid hb
  clear hb HC
  go_wp2_with fail
  go_ret2
  exact ⟨rfl, HB.out⟩

set_option maxHeartbeats 1600000 in
theorem Sign_q (p : Rat) (hp : QOk p) (w : World) (hm : ML w) :
    Calls Tryz.prog 26 #[.string (qstr p)] w fun e w' => e = .returned (.tuple #[.int .i64 (sgnQ p), .int .i64 0]) ∧ Below w.heap.size w w' := by
  have e1 : ∀ args w, (callFunc 89 args).run Tryz.prog w = .ok (.enter 89 args) w := enters_of Tryz.func89 (by kernel_rfl) rfl
  have HC := Lib.hid (withOne_okI 89 #[] e1 (qstr p) w (qsmall hp) hm (qstr_chk hp) (.int .i64 (sgnQ p)) (.int .i64 0)
    (fun _ _ _ hv => sign_clo (fq_of hv)))
  clear hm hp
  go_enter Tryz.func26, Tryz.ntmps26
  go_wp2_with fail
  refine HC.out.mono ?_
  rintro e w1 ⟨rfl, hb⟩
  have HB := Lib.hid hb
  clear hb HC
  go_wp2_with fail
  go_ret2
  exact ⟨rfl, HB.out⟩

theorem cmpQ_range (p q : Rat) : cmpQ p q = -1 ∨ cmpQ p q = 0 ∨ cmpQ p q = 1 := by
  rcases lt_tri p q with h | h | h
  · exact .inl (cmpQ_lt h)
  · exact .inr (.inl (cmpQ_zero.2 h))
  · exact .inr (.inr (cmpQ_gt h))

set_option maxHeartbeats 800000 in
theorem Min_clo (x : Int) (w : World) : Calls Tryz.prog 98 #[.int .i64 x] w fun e w' => e = .returned (.bool (decide (x < 0))) ∧ w = w' := by
  by_cases h : x < 0
  · rw [decide_eq_true h]
    go_enter Tryz.func98, Tryz.ntmps98
    go_wp2_with fail
    go_ret
    exact ⟨ret_bool (by simp <;> omega), rfl⟩
  · rw [decide_eq_false h]
    go_enter Tryz.func98, Tryz.ntmps98
    go_wp2_with fail
    go_ret
    exact ⟨ret_bool (by simp <;> omega), rfl⟩

set_option maxHeartbeats 3200000 in
theorem sel_Min (p q : Rat) (hp : QOk p) (hq : QOk q) (w : World) (hm : ML w) :
    Calls Tryz.prog 80 #[.string (qstr p), .string (qstr q), .func (.func 98) #[] #[]] w fun e w' => e = .returned (.tuple #[.string (if cmpQ p q < 0 then qstr p else qstr q), .int .i64 0]) ∧ Below w.heap.size w w' := by
  have HC := Lib.hid (Cmp_q p q hp hq w hm)
  have eg : ∀ args w, (callFunc 98 args).run Tryz.prog w = .ok (.enter 98 args) w := enters_of Tryz.func98 (by kernel_rfl) rfl
  generalize cmpQ p q = x at *
  have HS := Lib.hid (fun W => Min_clo x W)
  generalize qstr p = s at *
  generalize qstr q = t at *
  clear hp hq hm
  by_cases h : x < 0
  · rw [if_pos h]
    rw [decide_eq_true h] at HS
    clear h
    go_enter Tryz.func80, Tryz.ntmps80
    go_wp2_with fail
    refine HC.out.mono ?_
    rintro e w1 ⟨rfl, hb⟩
    have HB := Lib.hid hb
    clear hb HC
    go_wp2_with (go_at_fn 98; refine (HS.out _).mono ?_; rintro e w2 ⟨rfl, rfl⟩)
    go_ret2
    exact ⟨rfl, HB.out⟩
  · rw [if_neg h]
    rw [decide_eq_false h] at HS
    clear h
    go_enter Tryz.func80, Tryz.ntmps80
    go_wp2_with fail
    refine HC.out.mono ?_
    rintro e w1 ⟨rfl, hb⟩
    have HB := Lib.hid hb
    clear hb HC
    go_wp2_with (go_at_fn 98; refine (HS.out _).mono ?_; rintro e w2 ⟨rfl, rfl⟩)
    go_ret2
    exact ⟨rfl, HB.out⟩

set_option maxHeartbeats 1600000 in
theorem Min_q (p q : Rat) (hp : QOk p) (hq : QOk q) (w : World) (hm : ML w) :
    Calls Tryz.prog 34 #[.string (qstr p), .string (qstr q)] w fun e w' => e = .returned (.tuple #[.string (if cmpQ p q < 0 then qstr p else qstr q), .int .i64 0]) ∧ Below w.heap.size w w' := by
  have HC := Lib.hid (sel_Min p q hp hq w hm)
  generalize (if cmpQ p q < 0 then qstr p else qstr q) = r at *
  clear hp hq hm
  go_enter Tryz.func34, Tryz.ntmps34
  go_wp2_with fail
  refine HC.out.mono ?_
  rintro e w1 ⟨rfl, hb⟩
  have HB := Lib.hid hb
  clear hb HC
  go_wp2_with fail
  go_ret2
  exact ⟨rfl, HB.out⟩

set_option maxHeartbeats 800000 in
theorem Max_clo (x : Int) (w : World) : Calls Tryz.prog 81 #[.int .i64 x] w fun e w' => e = .returned (.bool (decide (0 < x))) ∧ w = w' := by
  by_cases h : 0 < x
  · rw [decide_eq_true h]
    go_enter Tryz.func81, Tryz.ntmps81
    go_wp2_with fail
    go_ret
    exact ⟨ret_bool (by simp <;> omega), rfl⟩
  · rw [decide_eq_false h]
    go_enter Tryz.func81, Tryz.ntmps81
    go_wp2_with fail
    go_ret
    exact ⟨ret_bool (by simp <;> omega), rfl⟩

set_option maxHeartbeats 3200000 in
theorem sel_Max (p q : Rat) (hp : QOk p) (hq : QOk q) (w : World) (hm : ML w) :
    Calls Tryz.prog 80 #[.string (qstr p), .string (qstr q), .func (.func 81) #[] #[]] w fun e w' => e = .returned (.tuple #[.string (if 0 < cmpQ p q then qstr p else qstr q), .int .i64 0]) ∧ Below w.heap.size w w' := by
  have HC := Lib.hid (Cmp_q p q hp hq w hm)
  have eg : ∀ args w, (callFunc 81 args).run Tryz.prog w = .ok (.enter 81 args) w := enters_of Tryz.func81 (by kernel_rfl) rfl
  generalize cmpQ p q = x at *
  have HS := Lib.hid (fun W => Max_clo x W)
  generalize qstr p = s at *
  generalize qstr q = t at *
  clear hp hq hm
  by_cases h : 0 < x
  · rw [if_pos h]
    rw [decide_eq_true h] at HS
    clear h
    go_enter Tryz.func80, Tryz.ntmps80
    go_wp2_with fail
    refine HC.out.mono ?_
    rintro e w1 ⟨rfl, hb⟩
    have HB := Lib.hid hb
    clear hb HC
    go_wp2_with (go_at_fn 81; refine (HS.out _).mono ?_; rintro e w2 ⟨rfl, rfl⟩)
    go_ret2
    exact ⟨rfl, HB.out⟩
  · rw [if_neg h]
    rw [decide_eq_false h] at HS
    clear h
    go_enter Tryz.func80, Tryz.ntmps80
    go_wp2_with fail
    refine HC.out.mono ?_
    rintro e w1 ⟨rfl, hb⟩
    have HB := Lib.hid hb
    clear hb HC
    go_wp2_with (go_at_fn 81; refine (HS.out _).mono ?_; rintro e w2 ⟨rfl, rfl⟩)
    go_ret2
    exact ⟨rfl, HB.out⟩

set_option maxHeartbeats 1600000 in
theorem Max_q (p q : Rat) (hp : QOk p) (hq : QOk q) (w : World) (hm : ML w) :
    Calls Tryz.prog 21 #[.string (qstr p), .string (qstr q)] w fun e w' => e = .returned (.tuple #[.string (if 0 < cmpQ p q then qstr p else qstr q), .int .i64 0]) ∧ Below w.heap.size w w' := by
  have HC := Lib.hid (sel_Max p q hp hq w hm)
  generalize (if 0 < cmpQ p q then qstr p else qstr q) = r at *
  clear hp hq hm
  go_enter Tryz.func21, Tryz.ntmps21
  go_wp2_with fail
  refine HC.out.mono ?_
  rintro e w1 ⟨rfl, hb⟩
  have HB := Lib.hid hb
  clear hb HC
  go_wp2_with fail
  go_ret2
  exact ⟨rfl, HB.out⟩


end Go.Proofs.YtadkijaofmcgfaaGreatDoor
