/-
  rat's withOne and withTwo of ints. rat's Make of two texts without an error. exact.Fraction's Sign and Compare. How rational numbers compare: rat's Cmp, Sign, Min and Max. rat's Floor, Ceil, Abs, Parts and Check of a number.
-/
import Derived.Test.YteojekiocecdnaaGreatDoorHI
import Derived.Test.YteojekiocecdnaaGreatDoorP15
import Derived.Test.YteojekiocecdnaaGreatDoorP16
namespace Go.Proofs.YteojekiocecdnaaGreatDoor
open Go.RowKit NV

set_option maxHeartbeats 1600000 in
/-- withOne returns the error of the text. -/
theorem withOne_errI (fv : Value) (s : ByteArray) (w : World) (hs : s.size ≤ 1000000) (hm : ML w) (h0 : rchk s ≠ 0) :
    Calls Tryz.prog 173 #[.string s, fv] w fun e w' => e = .returned (.tuple #[.int .i64 0, .int .i64 ((rchk s : Nat) : Int)]) ∧ Below w.heap.size w w' := by
  have HR := Lib.hid (read_any s w hs hm)
  have hz : (((rchk s : Nat) : Int) != 0) = true := by rw [bne_iff_ne]; omega
  clear hm h0
  go_enter Tryz.func173, Tryz.ntmps173
  go_wp2_with fail
  refine HR.out.mono ?_
  rintro e w1 ⟨⟨m, a1, L1, k1, a2, L2, k2, rfl, -⟩, hb⟩
  have HB := Lib.hid (hb.alloc hb.size (.cells #[.bool m, .slice a1 L1 k1, .slice a2 L2 k2] 192))
  clear hb HR
  go_wp2_with fail
  go_ret2
  exact ⟨rfl, HB.out⟩

set_option maxHeartbeats 3200000 in
/-- withOne returns what the function makes of the number. -/
theorem withOne_okI (g : Nat) (lb : Array Value) (eg : ∀ args w, (callFunc g args).run Tryz.prog w = .ok (.enter g args) w) (s : ByteArray) (w : World) (hs : s.size ≤ 1000000) (hm : ML w) (h0 : rchk s = 0) (r1 r2 : Value)
    (hp : ∀ W v, Below w.heap.size w W → FNum W v (minusB (numS s)) (dv (restS (numS s)).data.toList) (dv (denS s).data.toList) → Calls Tryz.prog g (#[v] ++ lb) W fun e w' => e = .returned (.tuple #[r1, r2]) ∧ Below W.heap.size W w') :
    Calls Tryz.prog 173 #[.string s, .func (.func g) #[] lb] w fun e w' => e = .returned (.tuple #[r1, r2]) ∧ Below w.heap.size w w' := by
  have HR := Lib.hid (read_any s w hs hm)
  have hz : (((rchk s : Nat) : Int) != 0) = false := by rw [h0]; rfl
  have HP := Lib.hid hp
  have H0 := Lib.hid h0
  clear hm h0 hp
  go_enter Tryz.func173, Tryz.ntmps173
  go_wp2_with fail
  refine HR.out.mono ?_
  rintro e w1 ⟨⟨m, a1, L1, k1, a2, L2, k2, rfl, hn⟩, hb⟩
  obtain ⟨hm, hn1, hn2⟩ := hn H0.out
  have hb2 : Below w1.heap.size w1 (w1.alloc (.cells #[.bool m, .slice a1 L1 k1, .slice a2 L2 k2] 192)) := (Below.refl _ _).alloc (Nat.le_refl _) _
  have HB := Lib.hid (hb.alloc hb.size (.cells #[.bool m, .slice a1 L1 k1, .slice a2 L2 k2] 192))
  have HC := Lib.hid (HP.out (w1.alloc (.cells #[.bool m, .slice a1 L1 k1, .slice a2 L2 k2] 192)) (.agg #[.bool m, .slice a1 L1 k1, .slice a2 L2 k2]) HB.out ⟨_, _, by rw [hm], hn1.below hb2, hn2.below hb2⟩)
  clear hb HR HP hm hn1 hn2 hb2 hn
  go_wp2_with fail
  have HB2 := HB
  go_wp2_with (go_at_fn g; refine HC.out.mono ?_; rintro e w2 ⟨rfl, hb⟩)
  go_ret2
  exact ⟨rfl, HB2.out.trans (hb.mono HB2.out.size)⟩

/-- Block b holds a text. -/
def TxI (w : World) (b : Nat) (t : ByteArray) : Prop := w.heap[b]? = some (.cells #[.string t] 22 (0, 0))
theorem TxI.keep {w w' : World} {b : Nat} {t : ByteArray} (hf : TxI w b t) (hb : Below w.heap.size w w') : TxI w' b t := (hb.block _ (Array.getElem?_eq_some_iff.1 hf).1).trans hf
theorem TxI.c0 {w : World} {b : Nat} {t : ByteArray} (hf : TxI w b t) : w.cell? ⟨b, 0, none⟩ = some (.string t) := by rw [Lib.cell_of_heap hf]; rfl

open Go.RowKit NV
open Go.Lib (decDigits)

theorem chkI_digs {s : ByteArray} (h : chkI s = 0) : Digs (Lib.trimPrefix s.data.toList [45]) ∧ (restS s).size ≤ 4000 := by
  have hi : intOk s = true := by
    cases hi : intOk s with
    | true => rfl
    | false => rw [(chkI_cases s).1 hi] at h; simp at h
  obtain ⟨h1, h2⟩ := (chkI_cases s).2 hi
  rw [h] at h1
  obtain ⟨_, d, _⟩ := good_parts h2
  refine ⟨by rw [← rest_list]; exact d, ?_⟩
  rw [Go.Lib.size_eq]
  exact (dec_of_chk h1.symm).2

theorem rest_size (s : ByteArray) : s.size ≤ (restS s).size + 1 := by
  unfold restS
  split
  · rw [ByteArray.size_extract]; omega
  · omega

set_option maxHeartbeats 6400000 in
set_option maxRecDepth 100000 in
theorem Make_ok (s t : ByteArray) (w : World) (htab : Tab w) (h1 : chkI s = 0) (h2 : chk t.data.toList = 0) (h3 : dv t.data.toList ≠ 0) :
    Calls Tryz.prog 97 #[.string s, .string t] w (RQ (mkQ (minusB s) (dv (restS s).data.toList) (dv t.data.toList)) w) := by
  obtain ⟨d1, z1⟩ := chkI_digs h1
  have zr := rest_size s
  obtain ⟨e2, z2⟩ := dec_of_chk h2
  rw [← Go.Lib.size_eq] at z2
  have d2 : Digs t.data.toList := by rw [← e2]; exact digs_dec _
  have hne : (t.toList == [48]) = false := by
    rw [toList_eq]
    rw [decide_eq_false]
    intro e
    rw [e] at h3
    exact h3 rfl
  have HC1 := Lib.hid (checkInteger_any s w (by omega))
  rw [h1] at HC1
  have HC2 := Lib.hid (check_any t w (by omega))
  rw [h2] at HC2
  have hpa := fun W => rparse_any s t W (by omega) (by omega) d1 d2
  rw [prefix_minus, ← rest_list] at hpa
  have HPA := Lib.hid hpa
  have l1 : ln (dv (restS s).data.toList) ≤ 445 := digs_ln (by rw [rest_list]; exact d1) (by rw [← Go.Lib.size_eq]; omega)
  have l2 : ln (dv t.data.toList) ≤ 445 := digs_ln d2 (by rw [← Go.Lib.size_eq]; omega)
  have HT := Lib.hid htab
  have HL := Lib.hid (And.intro l1 (And.intro l2 h3))
  clear h1 h2 h3 d1 z1 zr e2 z2 d2 htab hpa l1 l2
  generalize dv (restS s).data.toList = n at *
  generalize dv t.data.toList = d at *
  go_enter Tryz.func97, Tryz.ntmps97
  go_wp2_with fail
  refine HC1.out.mono ?_
  rintro e w1 ⟨rfl, rfl⟩
  go_wp2_with fail
  refine HC2.out.mono ?_
  rintro e w1 ⟨rfl, rfl⟩
  go_wp2_with fail
  refine (HPA.out _).mono ?_
  rintro e w1 ⟨v, rfl, ⟨x, y, rfl, hx, hy⟩, hb1⟩
  obtain ⟨a1, k1, rfl⟩ := slice_any hx
  obtain ⟨a2, k2, rfl⟩ := slice_any hy
  have hb2 : Below w1.heap.size w1 (w1.alloc (.cells #[.bool (minusB s), .slice a1 (ln n) k1, .slice a2 (ln d) k2] 192)) := (Below.refl _ _).alloc (Nat.le_refl _) _
  have HX := Lib.hid (hx.below hb2)
  have HY := Lib.hid (hy.below hb2)
  have HB := Lib.hid (hb1.trans (hb2.mono hb1.size))
  replace HT := Lib.hid (HT.out.below HB.out)
  clear hx hy hb1 hb2 HC1 HC2 HPA
  go_wp2_with fail
  generalize w1.alloc (.cells #[.bool (minusB s), .slice a1 (ln n) k1, .slice a2 (ln d) k2] 192) = w2 at HX HY HB HT ⊢
  refine (reduced_q (m := minusB s) HX.out HY.out (Nat.le_trans HL.out.1 (by omega)) (Nat.le_trans HL.out.2.1 (by omega)) HL.out.2.2).mono ?_
  rintro e w3 ⟨z, rfl, hz, hb3⟩
  obtain ⟨a5, k5, a6, k6, rfl⟩ := hz.form
  have HZ := Lib.hid hz
  replace HT := Lib.hid (HT.out.below hb3)
  replace HB := Lib.hid (HB.out.trans (hb3.mono HB.out.size))
  have HQ := Lib.hid (show QL 445 (mkQ (minusB s) n d) by
    obtain ⟨r1, r2, _⟩ := red_parts (minusB s) n HL.out.2.2
    exact ⟨by rw [r1]; exact ln_div HL.out.1, by rw [r2]; exact ln_div HL.out.2.1⟩)
  clear hz hb3 HX HY
  go_wp2_with fail
  refine (write_q HZ.out (HQ.out.mono (by omega)) HT.out).mono ?_
  rintro e w4 ⟨rfl, hb4⟩
  replace HB := Lib.hid (HB.out.trans (hb4.mono HB.out.size))
  clear hb4
  go_wp2_with fail
  go_ret2
  exact ⟨rfl, HB.out⟩

open Go.RowKit NV

/-- The sign of a fraction. -/
def sgnF (m : Bool) (n : Nat) : Int := if n = 0 then 0 else if m then -1 else 1

set_option maxHeartbeats 1600000 in
theorem fsign_any {w : World} {m : Bool} {x y : Value} {n d : Nat} (hx : Num w x n) (hy : Num w y d) :
    Calls Tryz.prog 175 #[.agg #[.bool m, x, y]] w fun e w' => e = .returned (.int .i64 (sgnF m n)) ∧ Below w.heap.size w w' := by
  obtain ⟨a1, k1, rfl⟩ := slice_any hx
  obtain ⟨a2, k2, rfl⟩ := slice_any hy
  have hb0 : Below w.heap.size w (w.alloc (.cells #[.bool m, .slice a1 (ln n) k1, .slice a2 (ln d) k2] 192)) := (Below.refl _ _).alloc (Nat.le_refl _) _
  have HZ := Lib.hid (fzero_any (m := m) (hx.below hb0) (hy.below hb0))
  have HQ := Lib.hid (FR.new w m (.slice a1 (ln n) k1) (.slice a2 (ln d) k2))
  have HB := Lib.hid hb0
  by_cases hn : n = 0
  · have HR := Lib.hid (show sgnF m n = 0 by rw [sgnF, if_pos hn])
    rw [show zeroB n = true from decide_eq_true hn] at HZ
    clear hx hy hb0 hn
    go_enter Tryz.func175, Tryz.ntmps175
    go_wp2_with fail
    refine HZ.out.mono ?_
    rintro e w1 ⟨rfl, hb1⟩
    replace HB := Lib.hid (HB.out.trans (hb1.mono HB.out.size))
    clear hb1
    go_wp2_with fail
    go_ret
    exact ⟨by rw [HR.out]; rfl, HB.out⟩
  · have HR := Lib.hid (show sgnF m n = if m then -1 else 1 by rw [sgnF, if_neg hn])
    rw [show zeroB n = false from decide_eq_false hn] at HZ
    clear hx hy hb0 hn
    go_enter Tryz.func175, Tryz.ntmps175
    go_wp2_with fail
    refine HZ.out.mono ?_
    rintro e w1 ⟨rfl, hb1⟩
    have c0 := (HQ.out.keep hb1).c0
    replace HB := Lib.hid (HB.out.trans (hb1.mono HB.out.size))
    clear hb1
    cases m with
    | false =>
      go_wp2_with fail
      go_ret
      exact ⟨by rw [HR.out]; rfl, HB.out⟩
    | true =>
      go_wp2_with fail
      go_ret
      exact ⟨by rw [HR.out]; rfl, HB.out⟩

/-- How two fractions compare. -/
def cmpF (m1 : Bool) (n1 d1 : Nat) (m2 : Bool) (n2 d2 : Nat) : Int :=
  if sgnF m1 n1 = sgnF m2 n2 then (if m1 then cmpN (n2 * d1) (n1 * d2) else cmpN (n1 * d2) (n2 * d1)) else Lib.compareInt (sgnF m1 n1) (sgnF m2 n2)

/-- A contract's worlds told from an earlier one. -/
theorem lift_0 {f : Nat} {args : Array Value} {w0 W : World} {v : Value} (h0 : Below w0.heap.size w0 W) (hc : Calls Tryz.prog f args W fun e w' => e = .returned v ∧ Below W.heap.size W w') :
    Calls Tryz.prog f args W fun e w' => e = .returned v ∧ Below W.heap.size W w' ∧ Below w0.heap.size w0 w' :=
  hc.mono fun _ _ ⟨h1, h3⟩ => ⟨h1, h3, h0.trans (h3.mono h0.size)⟩

open Go.RowKit NV
open Go.Lib (decDigits)

/-- How two rational numbers compare, and the sign of one. -/
def cmpQ (p q : Rat) : Int := if p < q then -1 else if q < p then 1 else 0
def sgnQ (p : Rat) : Int := cmpQ p 0

theorem lt_nat (p q : Rat) : p < q ↔ (if ng p then -((tp p * q.den : Nat) : Int) else ((tp p * q.den : Nat) : Int)) < (if ng q then -((tp q * p.den : Nat) : Int) else ((tp q * p.den : Nat) : Int)) := by
  rw [Rat.lt_iff, num_of p, num_of q]
  cases ng p <;> cases ng q <;> simp [Int.neg_mul]

theorem cmp_core (m1 m2 : Bool) (a b x y : Nat) (z1 : x = 0 ↔ a = 0) (z2 : y = 0 ↔ b = 0) (g1 : m1 = true → a ≠ 0) (g2 : m2 = true → b ≠ 0) :
    (if sgnF m1 a = sgnF m2 b then (if m1 then cmpN y x else cmpN x y) else Lib.compareInt (sgnF m1 a) (sgnF m2 b)) =
    if (if m1 then -(x : Int) else (x : Int)) < (if m2 then -(y : Int) else (y : Int)) then -1 else if (if m2 then -(y : Int) else (y : Int)) < (if m1 then -(x : Int) else (x : Int)) then 1 else 0 := by
  unfold sgnF Lib.compareInt cmpN
  by_cases ha : a = 0
  · have hx := z1.2 ha
    have hm : m1 = false := by
      cases m1
      · rfl
      · exact absurd ha (g1 rfl)
    subst ha hx hm
    by_cases hb : b = 0
    · have hy := z2.2 hb
      have hm : m2 = false := by
        cases m2
        · rfl
        · exact absurd hb (g2 rfl)
      subst hb hy hm
      simp
    · have hy : y ≠ 0 := fun e => hb (z2.1 e)
      cases m2 <;> simp [hb] <;> (repeat' split) <;> omega
  · have hx : x ≠ 0 := fun e => ha (z1.1 e)
    by_cases hb : b = 0
    · have hy := z2.2 hb
      have hm : m2 = false := by
        cases m2
        · rfl
        · exact absurd hb (g2 rfl)
      subst hb hy hm
      cases m1 <;> simp [ha] <;> (repeat' split) <;> omega
    · have hy : y ≠ 0 := fun e => hb (z2.1 e)
      cases m1 <;> cases m2 <;> simp [ha, hb] <;> (repeat' split) <;> omega

theorem cmpF_q (p q : Rat) : cmpF (ng p) (tp p) p.den (ng q) (tp q) q.den = cmpQ p q := by
  have h1 := lt_nat p q
  have h2 := lt_nat q p
  have z1 : tp p * q.den = 0 ↔ tp p = 0 := by
    have := q.den_pos
    rw [Nat.mul_eq_zero]; omega
  have z2 : tp q * p.den = 0 ↔ tp q = 0 := by
    have := p.den_pos
    rw [Nat.mul_eq_zero]; omega
  have g1 : ng p = true → tp p ≠ 0 := ng_zero
  have g2 : ng q = true → tp q ≠ 0 := ng_zero
  unfold cmpF cmpQ
  simp only [h1, h2]
  exact cmp_core (ng p) (ng q) (tp p) (tp q) _ _ z1 z2 g1 g2

theorem sgnF_q (p : Rat) : sgnF (ng p) (tp p) = sgnQ p := by
  have h1 := lt_nat p 0
  have h2 := lt_nat 0 p
  rw [show ng (0 : Rat) = false from rfl, show tp (0 : Rat) = 0 from rfl, show (0 : Rat).den = 1 from rfl, Nat.mul_one, Nat.zero_mul] at h1 h2
  have g1 : ng p = true → tp p ≠ 0 := ng_zero
  unfold sgnQ cmpQ sgnF
  simp only [h1, h2]
  generalize tp p = a at *
  by_cases ha : a = 0
  · have hm : ng p = false := by
      cases h : ng p
      · rfl
      · exact absurd ha (g1 h)
    rw [hm]; subst ha; simp
  · cases ng p <;> simp [ha] <;> (repeat' split) <;> omega

theorem cmpQ_self (p : Rat) : cmpQ p p = 0 := by unfold cmpQ; rw [if_neg Rat.lt_irrefl, if_neg Rat.lt_irrefl]
theorem lt_asymm' {p q : Rat} (h : p < q) : ¬ q < p := fun h2 => absurd (Rat.le_of_lt h) (Rat.not_le.2 h2)
theorem cmpQ_lt {p q : Rat} (h : p < q) : cmpQ p q = -1 := if_pos h
theorem cmpQ_gt {p q : Rat} (h : q < p) : cmpQ p q = 1 := by unfold cmpQ; rw [if_neg (lt_asymm' h), if_pos h]
theorem lt_tri (p q : Rat) : p < q ∨ p = q ∨ q < p := by
  by_cases h : p < q
  · exact .inl h
  · by_cases h2 : q < p
    · exact .inr (.inr h2)
    · exact .inr (.inl (Rat.le_antisymm (Rat.not_lt.1 h2) (Rat.not_lt.1 h)))
theorem cmpQ_neg (p q : Rat) : cmpQ q p = -cmpQ p q := by
  rcases lt_tri p q with h | h | h
  · rw [cmpQ_lt h, cmpQ_gt h]; rfl
  · subst h; rw [cmpQ_self]; rfl
  · rw [cmpQ_lt h, cmpQ_gt h]
theorem cmpQ_zero {p q : Rat} : cmpQ p q = 0 ↔ p = q := by
  rcases lt_tri p q with h | h | h
  · rw [cmpQ_lt h]; exact ⟨fun e => by simp at e, fun e => absurd (e ▸ h) Rat.lt_irrefl⟩
  · exact ⟨fun _ => h, fun _ => by rw [h, cmpQ_self]⟩
  · rw [cmpQ_gt h]; exact ⟨fun e => by simp at e, fun e => absurd (e ▸ h) Rat.lt_irrefl⟩
theorem cmpQ_le {p q : Rat} : cmpQ p q ≤ 0 ↔ p ≤ q := by
  rcases lt_tri p q with h | h | h
  · rw [cmpQ_lt h]; exact ⟨fun _ => Rat.le_of_lt h, fun _ => by omega⟩
  · subst h; rw [cmpQ_self]; exact ⟨fun _ => Rat.le_refl, fun _ => by omega⟩
  · rw [cmpQ_gt h]; exact ⟨fun e => by omega, fun e => absurd h (Rat.not_lt.2 e)⟩
theorem cmpQ_sub (p q : Rat) : sgnQ (p + -q) = cmpQ p q := by
  unfold sgnQ cmpQ
  have e1 : p + -q < 0 ↔ p < q := by
    constructor
    · intro h; have := (Rat.add_lt_add_right (c := q)).2 h; rwa [Rat.add_assoc, Rat.neg_add_cancel, Rat.add_zero, Rat.zero_add] at this
    · intro h; have := (Rat.add_lt_add_right (c := -q)).2 h; rwa [Rat.add_neg_cancel] at this
  have e2 : 0 < p + -q ↔ q < p := by
    constructor
    · intro h; have := (Rat.add_lt_add_right (c := q)).2 h; rwa [Rat.add_assoc, Rat.neg_add_cancel, Rat.add_zero, Rat.zero_add] at this
    · intro h; have := (Rat.add_lt_add_right (c := -q)).2 h; rwa [Rat.add_neg_cancel] at this
  simp only [e1, e2]
theorem cmpQ_add (p q r : Rat) : cmpQ (p + r) (q + r) = cmpQ p q := by
  unfold cmpQ; simp only [Rat.add_lt_add_right]
theorem cmpQ_mul (p q r : Rat) : cmpQ (p * r) (q * r) = cmpQ p q * sgnQ r := by
  unfold sgnQ
  rcases lt_tri r 0 with h | h | h
  · rw [cmpQ_lt h]
    have hr : 0 < -r := by have := Rat.neg_lt_neg h; simpa using this
    have e : ∀ a b : Rat, a * r < b * r ↔ b < a := fun a b => by
      have := Rat.mul_lt_mul_right (a := b) (b := a) hr
      rwa [Rat.mul_neg, Rat.mul_neg, Rat.neg_lt_neg_iff] at this
    unfold cmpQ
    simp only [e]
    rcases lt_tri p q with h1 | h1 | h1
    · rw [if_pos h1, if_pos h1, if_neg (lt_asymm' h1)]; rfl
    · subst h1; rw [if_neg Rat.lt_irrefl, if_neg Rat.lt_irrefl]; rfl
    · rw [if_neg (lt_asymm' h1), if_pos h1, if_neg (lt_asymm' h1), if_pos h1]; rfl
  · subst h; rw [Rat.mul_zero, Rat.mul_zero, cmpQ_self, Int.mul_zero]
  · rw [cmpQ_gt h, Int.mul_one]
    unfold cmpQ; simp only [Rat.mul_lt_mul_right h]

theorem sign_q {w : World} {v : Value} {p : Rat} (hp : FQ w v p) :
    Calls Tryz.prog 175 #[v] w fun e w' => e = .returned (.int .i64 (sgnQ p)) ∧ Below w.heap.size w w' := by
  obtain ⟨x1, y1, rfl, hx1, hy1⟩ := hp
  exact sgnF_q p ▸ fsign_any hx1 hy1

set_option maxHeartbeats 3200000 in
set_option maxRecDepth 100000 in
theorem sign_clo {w : World} {v : Value} {p : Rat} (hp : FQ w v p) :
    Calls Tryz.prog 174 #[v] w fun e w' => e = .returned (.tuple #[.int .i64 (sgnQ p), .int .i64 0]) ∧ Below w.heap.size w w' := by
  obtain ⟨a1, k1, a2, k2, rfl⟩ := hp.form
  have hb0 : Below w.heap.size w (w.alloc (.cells #[.bool (ng p), .slice a1 (ln (tp p)) k1, .slice a2 (ln p.den) k2] 192)) := (Below.refl _ _).alloc (Nat.le_refl _) _
  have HC := Lib.hid (sign_q (hp.below hb0))
  have HB := Lib.hid hb0
  clear hp hb0
  go_enter Tryz.func174, Tryz.ntmps174
  go_wp2_with fail
  refine HC.out.mono ?_
  rintro e w1 ⟨rfl, hb1⟩
  replace HB := Lib.hid (HB.out.trans (hb1.mono HB.out.size))
  clear hb1 HC
  go_wp2_with fail
  go_ret2
  exact ⟨rfl, HB.out⟩

set_option maxHeartbeats 1600000 in
theorem Sign_q (p : Rat) (hp : QOk p) (w : World) (hm : ML w) :
    Calls Tryz.prog 115 #[.string (qstr p)] w fun e w' => e = .returned (.tuple #[.int .i64 (sgnQ p), .int .i64 0]) ∧ Below w.heap.size w w' := by
  have e1 : ∀ args w, (callFunc 174 args).run Tryz.prog w = .ok (.enter 174 args) w := enters_of Tryz.func174 (by kernel_rfl) rfl
  have HC := Lib.hid (withOne_okI 174 #[] e1 (qstr p) w (qsmall hp) hm (qstr_chk hp) (.int .i64 (sgnQ p)) (.int .i64 0)
    (fun _ _ _ hv => sign_clo (fq_of hv)))
  clear hm hp
  go_enter Tryz.func115, Tryz.ntmps115
  go_wp2_with fail
  refine HC.out.mono ?_
  rintro e w1 ⟨rfl, hb⟩
  have HB := Lib.hid hb
  clear hb HC
  go_wp2_with fail
  go_ret2
  exact ⟨rfl, HB.out⟩

theorem cmpQ_range (p q : Rat) : cmpQ p q = -1 ∨ cmpQ p q = 0 ∨ cmpQ p q = 1 := by
  rcases lt_tri p q with h | h | h
  · exact .inl (cmpQ_lt h)
  · exact .inr (.inl (cmpQ_zero.2 h))
  · exact .inr (.inr (cmpQ_gt h))

open Go.RowKit NV
open Go.Lib (decDigits)

/-- The greatest integer that is not greater than q. -/
def flQ (q : Rat) : Rat := ((q.floor : Int) : Rat)

theorem fl_parts (q : Rat) : (flQ q).den = 1 ∧ ng (flQ q) = ng q ∧ tp (flQ q) = tp q / q.den + (if ng q = true ∧ tp q % q.den ≠ 0 then 1 else 0) := by
  have hd := q.den_pos
  have hf : (flQ q).num = q.num / (q.den : Int) := by
    show (q.floor : Int) = _
    exact Rat.floor_def q
  refine ⟨rfl, ?_, ?_⟩
  · unfold ng
    rw [hf]
    apply decide_eq_decide.2
    constructor
    · intro h
      by_cases h2 : q.num < 0
      · exact h2
      · have : 0 ≤ q.num / (q.den : Int) := Int.ediv_nonneg (by omega) (by omega)
        omega
    · intro h; exact Int.ediv_neg_of_neg_of_pos h (by omega)
  · have e : tp (flQ q) = (q.num / (q.den : Int)).natAbs := by unfold tp; rw [hf]
    rw [e, num_of q]
    generalize q.den = d at *
    generalize tp q = n at *
    cases h : ng q with
    | false =>
      rw [if_neg (by simp), if_neg (by simp), Nat.add_zero, ← Int.natCast_ediv, Int.natAbs_natCast]
    | true =>
      rw [if_pos rfl]
      by_cases hz : n % d = 0
      · rw [if_neg (by simp [hz]), Nat.add_zero]
        obtain ⟨k, rfl⟩ := Nat.dvd_of_mod_eq_zero hz
        rw [Nat.mul_div_cancel_left _ hd, Int.natCast_mul, ← Int.mul_neg, Int.mul_ediv_cancel_left _ (by omega)]
        simp
      · rw [if_pos ⟨rfl, hz⟩]
        have h1 : -(n : Int) / (d : Int) = -((n / d : Nat) : Int) - 1 := by
          have hm := Nat.mod_lt n hd
          have hdm := Nat.div_add_mod n d
          have : -(n : Int) = (d : Int) * (-((n / d : Nat) : Int) - 1) + ((d - n % d : Nat) : Int) := by
            have hc : (n : Int) = (d : Int) * ((n / d : Nat) : Int) + ((n % d : Nat) : Int) := by rw [← Int.natCast_mul, ← Int.natCast_add, hdm]
            rw [hc, Int.mul_sub, Int.mul_neg, Int.mul_one, Int.ofNat_sub (Nat.le_of_lt hm)]
            omega
          rw [this, Int.add_comm, Int.add_mul_ediv_left _ _ (by omega), Int.ediv_eq_zero_of_lt (by omega) (by omega)]
          omega
        rw [h1]; generalize n / d = t; omega

/-- q without its sign. -/
def absQ (q : Rat) : Rat := if ng q then -q else q
theorem abs_parts (q : Rat) : (absQ q).den = q.den ∧ ng (absQ q) = false ∧ tp (absQ q) = tp q := by
  unfold absQ
  obtain ⟨h1, h2, h3⟩ := neg_parts q
  cases h : ng q
  · simp [h]
  · rw [if_pos rfl]; exact ⟨h2, by rw [h3, h]; rfl, h1⟩

theorem inv_pow (q : Rat) (k : Nat) : (q⁻¹) ^ k = (q ^ k)⁻¹ := by
  induction k with
  | zero => rw [Rat.pow_zero, Rat.pow_zero]; exact (Rat.inv_eq_of_mul_eq_one (Rat.mul_one 1)).symm
  | succ k ih => rw [Rat.pow_succ, Rat.pow_succ, ih, Rat.inv_mul_rev, Rat.mul_comm]

theorem QL.abs {M : Nat} {p : Rat} (hp : QL M p) : QL M (absQ p) := by
  obtain ⟨h1, h2, h3⟩ := abs_parts p
  exact ⟨by rw [h3]; exact hp.1, by rw [h1]; exact hp.2⟩

theorem QL.floor {M : Nat} {p : Rat} (hp : QL M p) : QL (M + 1) (flQ p) := by
  obtain ⟨h1, h2, h3⟩ := fl_parts p
  constructor
  · rw [h3]
    have : ln (if ng p = true ∧ tp p % p.den ≠ 0 then 1 else 0) ≤ M := by
      split
      · rename_i h
        rw [ln_one]
        have : tp p ≠ 0 := ng_zero h.1
        have := ln_pos this
        have := hp.1
        omega
      · rw [ln_zero]; omega
    exact ln_add (ln_div hp.1) this
  · rw [h1, ln_one]; omega

set_option maxHeartbeats 1600000 in
/-- rat.Check of any text. -/
theorem qcheck_any (s : ByteArray) (w : World) (hs : s.size ≤ 1000000) (hm : ML w) :
    Calls Tryz.prog 171 #[.string s] w fun e w' => e = .returned (.int .i64 ((rchk s : Nat) : Int)) ∧ Below w.heap.size w w' := by
  have HR := Lib.hid (read_any s w hs hm)
  clear hm
  go_enter Tryz.func171, Tryz.ntmps171
  go_wp2_with fail
  refine HR.out.mono ?_
  rintro e w1 ⟨⟨m, a1, L1, k1, a2, L2, k2, rfl, -⟩, hb⟩
  have HB := Lib.hid (hb.alloc hb.size (.cells #[.bool m, .slice a1 L1 k1, .slice a2 L2 k2] 192))
  have HB2 := Lib.hid hb
  clear hb HR
  go_wp2_with fail
  go_ret
  exact ⟨rfl, by first | exact HB.out | exact HB2.out⟩

set_option maxHeartbeats 1600000 in
/-- Parts of a number. -/
theorem Parts_q (p : Rat) (hp : QOk p) (w : World) (hm : ML w) :
    Calls Tryz.prog 114 #[.string (qstr p)] w fun e w' => e = .returned (.tuple #[.string (istr (ng p) (tp p)), .string (dstr p.den), .int .i64 0]) ∧ Below w.heap.size w w' := by
  have hk := qcheck_any (qstr p) w (qsmall hp) hm
  rw [qstr_chk hp] at hk
  have HK := Lib.hid hk
  obtain ⟨q1, q2, _⟩ := qstr_parts p
  have hsz : (qstr p).size < 4294967281 := by have := qstr_size hp; omega
  have HC := Lib.hid (fun W (h : Below w.heap.size w W) => cut_any (qstr p) W hsz (ml_keep hm (ml_pos hm) h))
  rw [q1, q2] at HC
  generalize (decide (cutAt (qstr p).data.toList < (qstr p).size)) = D at *
  generalize qstr p = s at *
  clear hk q1 q2 hsz hp hm
  go_enter Tryz.func114, Tryz.ntmps114
  go_wp2_with fail
  refine HK.out.mono ?_
  rintro e w1 ⟨rfl, hb1⟩
  have HB := Lib.hid hb1
  clear hb1 HK
  go_wp2_with fail
  refine (HC.out _ HB.out).mono ?_
  rintro e w2 ⟨rfl, q, rfl⟩
  have HB2 := Lib.hid (below_drewN HB.out q)
  clear HC
  go_wp2_with fail
  go_ret3
  exact ⟨rfl, HB2.out⟩

end Go.Proofs.YteojekiocecdnaaGreatDoor
