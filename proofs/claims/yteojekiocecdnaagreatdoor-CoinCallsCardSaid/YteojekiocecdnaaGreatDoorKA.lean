/-
  Tossing a coin: mathematics. The cell of a toss: what compare says, what halve does. The states of a toss. A toss from its start to its end.
-/
import Derived.Test.YteojekiocecdnaaGreatDoorB13
import Derived.Test.YteojekiocecdnaaGreatDoorGN
import Derived.Test.YteojekiocecdnaaGreatDoorB1
import Derived.Laws.EntriesVeiled
namespace Go.Proofs.YteojekiocecdnaaGreatDoor
open Go.RowKit NV

/-- Where the probability lies behind one more bit. -/
def halvF (D p : Nat) (c : UInt8) : Nat := if c = 48 then 2 * p else if 2 * p < D then 0 else 2 * p - D
/-- What a toss comes to: whether it is decided, the value, the bits used. -/
def tossF (D : Nat) : List UInt8 → Nat → Nat → Bool × Nat × Nat
  | [], p, u => if p = 0 then (true, 0, u) else if D ≤ p then (true, 1, u) else (false, 0, u)
  | c :: r, p, u => if p = 0 then (true, 0, u) else if D ≤ p then (true, 1, u) else tossF D r (halvF D p c) (u + 1)

theorem toss_zero (D : Nat) (l : List UInt8) (u : Nat) : tossF D l 0 u = (true, 0, u) := by cases l <;> simp [tossF]
theorem toss_one {D p : Nat} (h0 : p ≠ 0) (h : D ≤ p) (l : List UInt8) (u : Nat) : tossF D l p u = (true, 1, u) := by cases l <;> simp [tossF, h0, h]
theorem toss_nil {D p : Nat} (h0 : p ≠ 0) (h : ¬ D ≤ p) (u : Nat) : tossF D [] p u = (false, 0, u) := by simp [tossF, h0, h]
theorem toss_cons {D p : Nat} (h0 : p ≠ 0) (h : ¬ D ≤ p) (c : UInt8) (r : List UInt8) (u : Nat) : tossF D (c :: r) p u = tossF D r (halvF D p c) (u + 1) := by simp [tossF, h0, h]

/-- Whether it is decided, and the value, by the number of the bits. -/
theorem toss_val {D : Nat} (hD : 0 < D) : ∀ (l : List UInt8) (p u : Nat), IsBits l →
    (p * 2 ^ l.length ≤ bv l * D → (tossF D l p u).1 = true ∧ (tossF D l p u).2.1 = 0) ∧
    (¬ p * 2 ^ l.length ≤ bv l * D → (bv l + 1) * D ≤ p * 2 ^ l.length → (tossF D l p u).1 = true ∧ (tossF D l p u).2.1 = 1) ∧
    (¬ p * 2 ^ l.length ≤ bv l * D → ¬ (bv l + 1) * D ≤ p * 2 ^ l.length → (tossF D l p u).1 = false ∧ (tossF D l p u).2.1 = 0) := by
  intro l
  induction l with
  | nil =>
    intro p u _
    have e0 : bv [] = 0 := rfl
    rw [e0]
    simp only [List.length_nil, Nat.pow_zero, Nat.mul_one, Nat.zero_mul, Nat.zero_add, Nat.one_mul]
    by_cases h0 : p = 0
    · subst h0
      rw [toss_zero]
      exact ⟨fun _ => ⟨rfl, rfl⟩, fun h => absurd (Nat.le_refl _) h, fun h => absurd (Nat.le_refl _) h⟩
    · by_cases h1 : D ≤ p
      · rw [toss_one h0 h1]
        exact ⟨fun h => by omega, fun _ _ => ⟨rfl, rfl⟩, fun _ h => absurd h1 h⟩
      · rw [toss_nil h0 h1]
        exact ⟨fun h => by omega, fun _ h => absurd h h1, fun _ _ => ⟨rfl, rfl⟩⟩
  | cons c r ih =>
    intro p u hb
    have hr : IsBits r := fun x hx => hb x (List.mem_cons_of_mem _ hx)
    have hv := bv_lt r hr
    have hbc := bv_cons c r
    have hlen : (c :: r).length = r.length + 1 := rfl
    rw [hlen, hbc, Nat.pow_succ]
    obtain ⟨P, hP⟩ : ∃ P, P = 2 ^ r.length := ⟨_, rfl⟩
    obtain ⟨V, hV⟩ : ∃ V, V = bv r := ⟨_, rfl⟩
    have ihh := ih (halvF D p c) (u + 1) hr
    rw [← hP, ← hV] at ihh
    rw [← hP, ← hV] at hv
    rw [← hP, ← hV]
    have hPp : 0 < P := by rw [hP]; exact Nat.pow_pos (by omega)
    have hc : (c.toNat - 48 = 0 ∧ c = 48) ∨ (c.toNat - 48 = 1 ∧ ¬ c = 48) := by
      rcases hb c (List.mem_cons_self ..) with rfl | rfl
      · exact .inl ⟨rfl, rfl⟩
      · exact .inr ⟨rfl, by decide⟩
    by_cases h0 : p = 0
    · subst h0
      rw [toss_zero]
      refine ⟨fun _ => ⟨rfl, rfl⟩, fun h => absurd (by simp) h, fun h => absurd (by simp) h⟩
    · by_cases h1 : D ≤ p
      · rw [toss_one h0 h1]
        have hle : (c.toNat - 48) * P + V + 1 ≤ P * 2 := by
          rcases hc with ⟨h, _⟩ | ⟨h, _⟩ <;> rw [h] <;> omega
        have h2 : ((c.toNat - 48) * P + V + 1) * D ≤ P * 2 * p := Nat.mul_le_mul hle h1
        have h3 : ((c.toNat - 48) * P + V + 1) * D = ((c.toNat - 48) * P + V) * D + D := Nat.succ_mul _ _
        have h4 : p * (P * 2) = P * 2 * p := Nat.mul_comm _ _
        exact ⟨fun h => by omega, fun _ _ => ⟨rfl, rfl⟩, fun _ h => absurd (by omega) h⟩
      · rw [toss_cons h0 h1]
        -- the conditions come down to those of the rest
        have key : ∀ q W : Nat, (halvF D p c = q) → W = (c.toNat - 48) * P + V →
            ((p * (P * 2) ≤ W * D) ↔ (q * P ≤ V * D)) ∧ (¬ q * P ≤ V * D → (((W + 1) * D ≤ p * (P * 2)) ↔ ((V + 1) * D ≤ q * P))) := by
          intro q W hq hW
          subst hW
          have e2 : p * (P * 2) = 2 * p * P := by rw [Nat.mul_comm P 2, ← Nat.mul_assoc, Nat.mul_comm p 2]
          rw [e2]
          rcases hc with ⟨hc1, hc2⟩ | ⟨hc1, hc2⟩
          · have hq2 : q = 2 * p := by rw [← hq, halvF, if_pos hc2]
            rw [hc1, hq2, Nat.zero_mul, Nat.zero_add]
            exact ⟨Iff.rfl, fun _ => Iff.rfl⟩
          · rw [hc1, Nat.one_mul]
            have eD : (P + V) * D = P * D + V * D := Nat.add_mul _ _ _
            have eD1 : (P + V + 1) * D = P * D + (V + 1) * D := by rw [Nat.add_assoc, Nat.add_mul]
            rw [eD, eD1]
            by_cases h2 : 2 * p < D
            · have hq2 : q = 0 := by rw [← hq, halvF, if_neg hc2, if_pos h2]
              subst hq2
              have h3 : 2 * p * P ≤ P * D := by rw [Nat.mul_comm]; exact Nat.mul_le_mul_left _ (by omega)
              simp only [Nat.zero_mul]
              refine ⟨⟨fun _ => Nat.zero_le _, fun _ => by omega⟩, fun h => absurd (Nat.zero_le _) h⟩
            · have hq2 : q + D = 2 * p := by
                have : q = 2 * p - D := by rw [← hq, halvF, if_neg hc2, if_neg h2]
                omega
              have h3 : 2 * p * P = q * P + P * D := by rw [← hq2, Nat.add_mul, Nat.mul_comm D P]
              rw [h3]
              exact ⟨⟨fun h => by omega, fun h => by omega⟩, fun _ => ⟨fun h => by omega, fun h => by omega⟩⟩
        obtain ⟨k1, k2⟩ := key _ _ rfl rfl
        refine ⟨fun h => ihh.1 (k1.1 h), fun h h' => ?_, fun h h' => ?_⟩
        · have hn : ¬ halvF D p c * P ≤ V * D := fun e => h (k1.2 e)
          exact ihh.2.1 hn ((k2 hn).1 h')
        · have hn : ¬ halvF D p c * P ≤ V * D := fun e => h (k1.2 e)
          exact ihh.2.2 hn (fun e => h' ((k2 hn).2 e))

/-- Between how many and how many bits are used. -/
theorem toss_used {D : Nat} : ∀ (l : List UInt8) (p u : Nat), u ≤ (tossF D l p u).2.2 ∧ (tossF D l p u).2.2 ≤ u + l.length := by
  intro l
  induction l with
  | nil =>
    intro p u
    by_cases h0 : p = 0
    · subst h0; rw [toss_zero]; exact ⟨Nat.le_refl _, Nat.le_add_right _ _⟩
    · by_cases h1 : D ≤ p
      · rw [toss_one h0 h1]; exact ⟨Nat.le_refl _, Nat.le_add_right _ _⟩
      · rw [toss_nil h0 h1]; exact ⟨Nat.le_refl _, Nat.le_add_right _ _⟩
  | cons c r ih =>
    intro p u
    by_cases h0 : p = 0
    · subst h0; rw [toss_zero]; exact ⟨Nat.le_refl _, Nat.le_add_right _ _⟩
    · by_cases h1 : D ≤ p
      · rw [toss_one h0 h1]; exact ⟨Nat.le_refl _, Nat.le_add_right _ _⟩
      · rw [toss_cons h0 h1]
        have := ih (halvF D p c) (u + 1)
        simp only [List.length_cons]
        omega

/-- A toss that is not decided has the value 0 and uses every bit. -/
theorem toss_open {D : Nat} : ∀ (l : List UInt8) (p u : Nat), (tossF D l p u).1 = false → (tossF D l p u) = (false, 0, u + l.length) := by
  intro l
  induction l with
  | nil =>
    intro p u h
    by_cases h0 : p = 0
    · subst h0; rw [toss_zero] at h; cases h
    · by_cases h1 : D ≤ p
      · rw [toss_one h0 h1] at h; cases h
      · rw [toss_nil h0 h1]; rfl
  | cons c r ih =>
    intro p u h
    by_cases h0 : p = 0
    · subst h0; rw [toss_zero] at h; cases h
    · by_cases h1 : D ≤ p
      · rw [toss_one h0 h1] at h; cases h
      · rw [toss_cons h0 h1] at h ⊢
        rw [ih _ _ h]
        simp only [List.length_cons, Prod.mk.injEq, true_and]
        omega

/-- More bits: a toss that is decided stays, one that isn't goes on behind them. -/
theorem toss_more {D : Nat} : ∀ (l m : List UInt8) (p u : Nat), ((tossF D l p u).1 = true → tossF D (l ++ m) p u = tossF D l p u) ∧ ((tossF D l p u).1 = false → (tossF D (l ++ m) p u).1 = true → u + l.length < (tossF D (l ++ m) p u).2.2) := by
  intro l
  induction l with
  | nil =>
    intro m p u
    by_cases h0 : p = 0
    · subst h0; simp [toss_zero]
    · by_cases h1 : D ≤ p
      · simp [toss_one h0 h1]
      · rw [toss_nil h0 h1]
        refine ⟨fun h => (by cases h), fun _ h => ?_⟩
        cases m with
        | nil => rw [List.append_nil, toss_nil h0 h1] at h; cases h
        | cons c r =>
          rw [List.nil_append, toss_cons h0 h1]
          have := (toss_used (D := D) r (halvF D p c) (u + 1)).1
          simp only [List.length_nil]
          omega
  | cons c r ih =>
    intro m p u
    by_cases h0 : p = 0
    · subst h0; simp [toss_zero]
    · by_cases h1 : D ≤ p
      · simp [toss_one h0 h1]
      · rw [List.cons_append, toss_cons h0 h1, toss_cons h0 h1]
        have := ih m (halvF D p c) (u + 1)
        refine ⟨this.1, fun h h' => ?_⟩
        have := this.2 h h'
        simp only [List.length_cons]
        omega

/-- The bits that are used decide, and no fewer. -/
theorem toss_least {D : Nat} : ∀ (l : List UInt8) (p u : Nat), (tossF D l p u).1 = true →
    tossF D (l.take ((tossF D l p u).2.2 - u)) p u = tossF D l p u ∧ (∀ k, k < (tossF D l p u).2.2 - u → (tossF D (l.take k) p u).1 = false) ∧ ((tossF D l p u).2.2 = u → p = 0 ∨ D ≤ p) := by
  intro l
  induction l with
  | nil =>
    intro p u h
    by_cases h0 : p = 0
    · subst h0; simp [toss_zero]
    · by_cases h1 : D ≤ p
      · simp [toss_one h0 h1, h1]
      · rw [toss_nil h0 h1] at h; cases h
  | cons c r ih =>
    intro p u h
    by_cases h0 : p = 0
    · subst h0; simp [toss_zero]
    · by_cases h1 : D ≤ p
      · simp [toss_one h0 h1, h1]
      · rw [toss_cons h0 h1] at h ⊢
        have hu := (toss_used (D := D) r (halvF D p c) (u + 1)).1
        obtain ⟨i1, i2, i3⟩ := ih (halvF D p c) (u + 1) h
        obtain ⟨U, hU⟩ : ∃ U, U = (tossF D r (halvF D p c) (u + 1)).2.2 := ⟨_, rfl⟩
        rw [← hU] at hu i1 i2 ⊢
        have e : U - u = (U - (u + 1)) + 1 := by omega
        refine ⟨?_, fun k hk => ?_, fun e => by omega⟩
        · rw [e, List.take_succ_cons, toss_cons h0 h1]
          exact i1
        · cases k with
          | zero => rw [List.take_zero, toss_nil h0 h1]
          | succ k =>
            rw [List.take_succ_cons, toss_cons h0 h1]
            exact i2 k (by omega)

open Go.RowKit NV
open Go.Lib (decDigits)

/-- Where the probability lies. -/
def sideF (D p : Nat) : Int := if p = 0 then 0 else if D ≤ p then 2 else 1
theorem zero_is (p : Nat) : ((dstr p).toList == [48]) = decide (p = 0) := dstr_is p 48 (by decide)

set_option maxHeartbeats 1600000 in
theorem compare_clo {w : World} {bp bb p D : Nat} (hp : Boxed w bp 22 (.string (dstr p))) (hb : Boxed w bb 22 (.string (dstr D))) (okp : Ok p) (okD : Ok D) :
    Calls Tryz.prog 184 #[.pointer (some ⟨bp, 0, none⟩), .pointer (some ⟨bb, 0, none⟩)] w fun e w' => e = .returned (.int .i64 (sideF D p)) ∧ Below w.heap.size w w' := by
  have c1 := hp.cell
  have c2 := hb.cell
  have HC := Lib.hid (Cmp_ok p D okp okD w)
  have hz := zero_is p
  clear hp hb okp okD
  by_cases h0 : p = 0
  · rw [decide_eq_true h0] at hz
    have HR := Lib.hid (show (0 : Int) = sideF D p by unfold sideF; rw [if_pos h0])
    clear h0
    generalize dstr p = t1 at *
    generalize dstr D = t2 at *
    go_enter Tryz.func184, Tryz.ntmps184
    go_wp2_with fail
    go_ret
    exact ⟨ret_int HR.out, Below.refl _ _⟩
  · rw [decide_eq_false h0] at hz
    by_cases h1 : D ≤ p
    · have HR := Lib.hid (show (2 : Int) = sideF D p by unfold sideF; rw [if_neg h0, if_pos h1])
      have hc : 0 ≤ cmpN p D := by unfold cmpN; split <;> (try split) <;> omega
      clear h0 h1
      generalize cmpN p D = cm at *
      generalize dstr p = t1 at *
      generalize dstr D = t2 at *
      go_enter Tryz.func184, Tryz.ntmps184
      go_wp2_with fail
      refine HC.out.mono ?_
      rintro e w1 ⟨rfl, hb1⟩
      have HB := Lib.hid hb1
      clear hb1 HC
      go_wp2_with fail
      go_ret
      exact ⟨ret_int HR.out, HB.out⟩
    · have HR := Lib.hid (show (1 : Int) = sideF D p by unfold sideF; rw [if_neg h0, if_neg h1])
      have hc : ¬ 0 ≤ cmpN p D := by rw [cmpN_lt (by omega)]; omega
      clear h0 h1
      generalize cmpN p D = cm at *
      generalize dstr p = t1 at *
      generalize dstr D = t2 at *
      go_enter Tryz.func184, Tryz.ntmps184
      go_wp2_with fail
      refine HC.out.mono ?_
      rintro e w1 ⟨rfl, hb1⟩
      have HB := Lib.hid hb1
      clear hb1 HC
      go_wp2_with fail
      go_ret
      exact ⟨ret_int HR.out, HB.out⟩

theorem ch_box {w w1 : World} {bp : Nat} (hb : Below w.heap.size w w1) (v : Value) : Ch (fun j => j = bp) w (w1.setCell ⟨bp, 0, none⟩ v) :=
  (Ch.below hb).trans (Ch.setCell _ _ _ rfl)
theorem box_below {w w1 : World} {b : Nat} {t : TypeId} {v : Value} (h : Boxed w b t v) (hb : Below w.heap.size w w1) : Boxed w1 b t v := (hb.block b h.lt).trans h

set_option maxHeartbeats 1600000 in
theorem halve_zero {w : World} {bp bb p : Nat} {x : Value} (hp : Boxed w bp 22 (.string (dstr p))) (_hb : Boxed w bb 22 x) (okp : Ok (p + p)) (htab : Tab w) :
    Calls Tryz.prog 185 #[.int .u8 48, .pointer (some ⟨bp, 0, none⟩), .pointer (some ⟨bb, 0, none⟩)] w fun e w' => e = .returned (.tuple #[]) ∧ Boxed w' bp 22 (.string (dstr (p + p))) ∧ Ch (fun j => j = bp) w w' := by
  have okp1 : Ok p := okp.mono (Nat.le_add_left _ _)
  have c1 := hp.cell
  have HA := Lib.hid (Add_ok p p okp1 okp1 okp w htab)
  have HP := Lib.hid hp
  clear hp okp okp1 htab
  generalize dstr p = t1 at *
  generalize dstr (p + p) = t2 at *
  go_enter Tryz.func185, Tryz.ntmps185
  go_wp2_with fail
  refine HA.out.mono ?_
  rintro e w1 ⟨rfl, hb1⟩
  have hp1 := box_below HP.out hb1
  have d1 := hp1.frozen
  have d2 := hp1.cell
  have HF := Lib.hid (And.intro (hp1.set (.string t2)) (ch_box (bp := bp) hb1 (.string t2)))
  clear hb1 HA hp1
  go_wp2_with fail
  refine bodyPost_ret (results_none rfl _ _ _) rfl ?_
  exact ⟨rfl, HF.out.1, HF.out.2⟩

set_option maxHeartbeats 1600000 in
theorem halve_small {w : World} {bp bb p D : Nat} (hne : bb ≠ bp) (hp : Boxed w bp 22 (.string (dstr p))) (hb : Boxed w bb 22 (.string (dstr D))) (okp : Ok (p + p)) (okD : Ok D) (hlt : p + p < D) (ht : ∀ W, Ch (fun j => j = bp) w W → Tab W) :
    Calls Tryz.prog 185 #[.int .u8 49, .pointer (some ⟨bp, 0, none⟩), .pointer (some ⟨bb, 0, none⟩)] w fun e w' => e = .returned (.tuple #[]) ∧ Boxed w' bp 22 (.string (dstr 0)) ∧ Ch (fun j => j = bp) w w' := by
  have okp1 : Ok p := okp.mono (Nat.le_add_left _ _)
  have c1 := hp.cell
  have HA := Lib.hid (Add_ok p p okp1 okp1 okp w (ht w (Ch.refl _ _)))
  have HC := Lib.hid (fun W => Cmp_ok (p + p) D okp okD W)
  have hs := fun W (h : Ch (fun j => j = bp) w W) => Sub_ok D D okD okD (Nat.le_refl _) W (ht W h)
  rw [Nat.sub_self] at hs
  have HS := Lib.hid hs
  have hneg : cmpN (p + p) D < 0 := cmpN_low hlt
  have HP := Lib.hid (And.intro hp hb)
  clear hp hb okp okp1 hs ht hlt
  generalize dstr p = t1 at *
  generalize dstr (p + p) = t2 at *
  generalize dstr D = t3 at *
  generalize dstr 0 = t0 at *
  generalize cmpN (p + p) D = cm at *
  go_enter Tryz.func185, Tryz.ntmps185
  go_wp2_with fail
  refine HA.out.mono ?_
  rintro e w1 ⟨rfl, hb1⟩
  have hp1 := box_below HP.out.1 hb1
  have hq1 := box_below HP.out.2 hb1
  have d1 := hp1.frozen
  have d2 := hp1.cell
  have hp2 := hp1.set (.string t2)
  have hq2 := hq1.other hne (.string t2)
  have e1 := hp2.cell
  have e2 := hq2.cell
  have HF := Lib.hid (And.intro hp2 (And.intro hq2 (ch_box (bp := bp) hb1 (.string t2))))
  clear hb1 HA hp1 hq1 hp2 hq2 HP
  go_wp2_with fail
  refine (HC.out _).mono ?_
  rintro e w3 ⟨rfl, hb3⟩
  have hp3 := box_below HF.out.1 hb3
  have hq3 := box_below HF.out.2.1 hb3
  have g1 := hp3.frozen
  have g2 := hp3.cell
  have g3 := hq3.cell
  have hp4 := hp3.set (.string t3)
  have hq4 := hq3.other hne (.string t3)
  have i1 := hp4.cell
  have i2 := hq4.cell
  have HG := Lib.hid (And.intro hp4 (HF.out.2.2.trans (ch_box (bp := bp) hb3 (.string t3))))
  clear hb3 HC hp3 hq3 hp4 hq4 HF d1 d2 e1 e2 c1
  go_wp2_with fail
  refine (HS.out _ HG.out.2).mono ?_
  rintro e w5 ⟨rfl, hb5⟩
  have hp5 := box_below HG.out.1 hb5
  have j1 := hp5.frozen
  have j2 := hp5.cell
  have HI := Lib.hid (And.intro (hp5.set (.string t0)) (HG.out.2.trans (ch_box (bp := bp) hb5 (.string t0))))
  clear hb5 HS hp5 HG g1 g2 g3 i1 i2
  go_wp2_with fail
  go_end0
  exact ⟨rfl, HI.out.1, HI.out.2⟩

set_option maxHeartbeats 1600000 in
theorem halve_great {w : World} {bp bb p D : Nat} (hne : bb ≠ bp) (hp : Boxed w bp 22 (.string (dstr p))) (hb : Boxed w bb 22 (.string (dstr D))) (okp : Ok (p + p)) (okD : Ok D) (hle : D ≤ p + p) (ht : ∀ W, Ch (fun j => j = bp) w W → Tab W) :
    Calls Tryz.prog 185 #[.int .u8 49, .pointer (some ⟨bp, 0, none⟩), .pointer (some ⟨bb, 0, none⟩)] w fun e w' => e = .returned (.tuple #[]) ∧ Boxed w' bp 22 (.string (dstr (p + p - D))) ∧ Ch (fun j => j = bp) w w' := by
  have okp1 : Ok p := okp.mono (Nat.le_add_left _ _)
  have c1 := hp.cell
  have HA := Lib.hid (Add_ok p p okp1 okp1 okp w (ht w (Ch.refl _ _)))
  have HC := Lib.hid (fun W => Cmp_ok (p + p) D okp okD W)
  have HS := Lib.hid (fun W (h : Ch (fun j => j = bp) w W) => Sub_ok (p + p) D okp okD hle W (ht W h))
  have hneg : ¬ cmpN (p + p) D < 0 := by unfold cmpN; split <;> (try split) <;> omega
  have HP := Lib.hid (And.intro hp hb)
  clear hp hb okp okp1 ht hle
  generalize dstr p = t1 at *
  generalize dstr (p + p) = t2 at *
  generalize dstr D = t3 at *
  generalize dstr (p + p - D) = t0 at *
  generalize cmpN (p + p) D = cm at *
  go_enter Tryz.func185, Tryz.ntmps185
  go_wp2_with fail
  refine HA.out.mono ?_
  rintro e w1 ⟨rfl, hb1⟩
  have hp1 := box_below HP.out.1 hb1
  have hq1 := box_below HP.out.2 hb1
  have d1 := hp1.frozen
  have d2 := hp1.cell
  have hp2 := hp1.set (.string t2)
  have hq2 := hq1.other hne (.string t2)
  have e1 := hp2.cell
  have e2 := hq2.cell
  have HF := Lib.hid (And.intro hp2 (And.intro hq2 (ch_box (bp := bp) hb1 (.string t2))))
  clear hb1 HA hp1 hq1 hp2 hq2 HP
  go_wp2_with fail
  refine (HC.out _).mono ?_
  rintro e w3 ⟨rfl, hb3⟩
  have hp3 := box_below HF.out.1 hb3
  have hq3 := box_below HF.out.2.1 hb3
  have g2 := hp3.cell
  have g3 := hq3.cell
  have HG := Lib.hid (And.intro hp3 (HF.out.2.2.trans (Ch.below hb3)))
  clear hb3 HC hp3 hq3 HF d1 d2 e1 e2 c1
  go_wp2_with fail
  refine (HS.out _ HG.out.2).mono ?_
  rintro e w5 ⟨rfl, hb5⟩
  have hp5 := box_below HG.out.1 hb5
  have j1 := hp5.frozen
  have j2 := hp5.cell
  have HI := Lib.hid (And.intro (hp5.set (.string t0)) (HG.out.2.trans (ch_box (bp := bp) hb5 (.string t0))))
  clear hb5 HS hp5 HG g2 g3
  go_wp2_with fail
  go_end0
  exact ⟨rfl, HI.out.1, HI.out.2⟩

theorem halve_clo {w : World} {bp bb p D : Nat} {c : UInt8} (hc : c = 48 ∨ c = 49) (hne : bb ≠ bp) (hp : Boxed w bp 22 (.string (dstr p))) (hb : Boxed w bb 22 (.string (dstr D))) (okp : Ok (p + p)) (okD : Ok D) (ht : ∀ W, Ch (fun j => j = bp) w W → Tab W) :
    Calls Tryz.prog 185 #[.int .u8 ((c.toNat : Nat) : Int), .pointer (some ⟨bp, 0, none⟩), .pointer (some ⟨bb, 0, none⟩)] w fun e w' => e = .returned (.tuple #[]) ∧ Boxed w' bp 22 (.string (dstr (halvF D p c))) ∧ Ch (fun j => j = bp) w w' := by
  rcases hc with rfl | rfl
  · rw [show halvF D p 48 = p + p by unfold halvF; rw [if_pos rfl]; omega]
    exact halve_zero hp hb okp (ht w (Ch.refl _ _))
  · by_cases h : p + p < D
    · rw [show halvF D p 49 = 0 by unfold halvF; rw [if_neg (by decide), if_pos (by omega)]]
      exact halve_small hne hp hb okp okD h ht
    · rw [show halvF D p 49 = p + p - D by unfold halvF; rw [if_neg (by decide), if_neg (by omega)]; omega]
      exact halve_great hne hp hb okp okD (by omega) ht

open Go.RowKit NV
open Go.Lib (decDigits)

abbrev cloC (bp bb : Nat) : Value := .func (.func 184) #[] #[.pointer (some ⟨bp, 0, none⟩), .pointer (some ⟨bb, 0, none⟩)]
abbrev cloH (bp bb : Nat) : Value := .func (.func 185) #[] #[.pointer (some ⟨bp, 0, none⟩), .pointer (some ⟨bb, 0, none⟩)]
/-- Block t is a toss. -/
def TSt (w : World) (t bp bb : Nat) (s : ByteArray) (d : Bool) (v u : Int) : Prop :=
  w.heap[t]? = some (.cells #[cloC bp bb, cloH bp bb, .string s, .bool d, .int .i64 v, .int .i64 u] 140 (0, 0))
theorem TSt.lt {w : World} {t bp bb : Nat} {s : ByteArray} {d : Bool} {v u : Int} (h : TSt w t bp bb s d v u) : t < w.heap.size := (Array.getElem?_eq_some_iff.1 h).1
theorem TSt.below {w w1 : World} {t bp bb : Nat} {s : ByteArray} {d : Bool} {v u : Int} (h : TSt w t bp bb s d v u) (hb : Below w.heap.size w w1) : TSt w1 t bp bb s d v u := (hb.block t h.lt).trans h
theorem TSt.ch {S : Nat → Prop} {w w1 : World} {t bp bb : Nat} {s : ByteArray} {d : Bool} {v u : Int} (h : TSt w t bp bb s d v u) (hb : Ch S w w1) (hs : ¬ S t) : TSt w1 t bp bb s d v u := (hb.block t h.lt hs).trans h
theorem TSt.free {w : World} {t bp bb : Nat} {s : ByteArray} {d : Bool} {v u : Int} (h : TSt w t bp bb s d v u) (j : Nat) : w.frozen? ⟨t, j, none⟩ = false := Lib.frozen_of_heap h j

theorem e_cmp : ∀ args w, (callFunc 184 args).run Tryz.prog w = .ok (.enter 184 args) w := enters_of Tryz.func184 (by kernel_rfl) rfl
theorem e_hlv : ∀ args w, (callFunc 185 args).run Tryz.prog w = .ok (.enter 185 args) w := enters_of Tryz.func185 (by kernel_rfl) rfl

/-- The state that look comes to. -/
def nextV (t D p : Nat) : Value :=
  if p = 0 then .func (.func 186) #[.pointer (some ⟨t, 0, none⟩)] #[]
  else if D ≤ p then .func (.func 187) #[.pointer (some ⟨t, 0, none⟩)] #[]
  else .func (.func 188) #[.pointer (some ⟨t, 0, none⟩)] #[]

set_option maxHeartbeats 1600000 in
theorem look_any {w : World} {t bp bb p D : Nat} {s : ByteArray} {d : Bool} {v u : Int} (h : TSt w t bp bb s d v u) (hp : Boxed w bp 22 (.string (dstr p))) (hb : Boxed w bb 22 (.string (dstr D))) (okp : Ok p) (okD : Ok D) :
    Calls Tryz.prog 120 #[.pointer (some ⟨t, 0, none⟩)] w fun e w' => e = .returned (nextV t D p) ∧ Below w.heap.size w w' := by
  have c0 : w.cell? ⟨t, 0, none⟩ = some (cloC bp bb) := by rw [Lib.cell_of_heap h]; rfl
  have hc := compare_clo hp hb okp okD
  have e1 := e_cmp
  clear h hp hb okp okD
  by_cases h0 : p = 0
  · rw [show sideF D p = 0 by unfold sideF; rw [if_pos h0]] at hc
    have HC := Lib.hid hc
    have HR := Lib.hid (show nextV t D p = .func (.func 186) #[.pointer (some ⟨t, 0, none⟩)] #[] by unfold nextV; rw [if_pos h0])
    clear h0 hc
    go_enter Tryz.func120, Tryz.ntmps120
    go_wp2_with fail
    refine HC.out.mono ?_
    rintro e w1 ⟨rfl, hb1⟩
    have HB := Lib.hid hb1
    clear hb1 HC
    go_wp2_with fail
    go_ret
    exact ⟨by rw [HR.out]; rfl, HB.out⟩
  · by_cases h1 : D ≤ p
    · rw [show sideF D p = 2 by unfold sideF; rw [if_neg h0, if_pos h1]] at hc
      have HC := Lib.hid hc
      have HR := Lib.hid (show nextV t D p = .func (.func 187) #[.pointer (some ⟨t, 0, none⟩)] #[] by unfold nextV; rw [if_neg h0, if_pos h1])
      clear h0 h1 hc
      go_enter Tryz.func120, Tryz.ntmps120
      go_wp2_with fail
      refine HC.out.mono ?_
      rintro e w1 ⟨rfl, hb1⟩
      have HB := Lib.hid hb1
      clear hb1 HC
      go_wp2_with fail
      go_ret
      exact ⟨by rw [HR.out]; rfl, HB.out⟩
    · rw [show sideF D p = 1 by unfold sideF; rw [if_neg h0, if_neg h1]] at hc
      have HC := Lib.hid hc
      have HR := Lib.hid (show nextV t D p = .func (.func 188) #[.pointer (some ⟨t, 0, none⟩)] #[] by unfold nextV; rw [if_neg h0, if_neg h1])
      clear h0 h1 hc
      go_enter Tryz.func120, Tryz.ntmps120
      go_wp2_with fail
      refine HC.out.mono ?_
      rintro e w1 ⟨rfl, hb1⟩
      have HB := Lib.hid hb1
      clear hb1 HC
      go_wp2_with fail
      go_ret
      exact ⟨by rw [HR.out]; rfl, HB.out⟩

set_option maxHeartbeats 800000 in
theorem read_nil {w : World} {t bp bb : Nat} {s : ByteArray} {d : Bool} {v u : Int} (h : TSt w t bp bb s d v u) (hs : s.size = 0) :
    Calls Tryz.prog 188 #[.pointer (some ⟨t, 0, none⟩)] w fun e w' => e = .returned .nilFunc ∧ w = w' := by
  have c2 : w.cell? ⟨t, 2, none⟩ = some (.string s) := by rw [Lib.cell_of_heap h]; rfl
  have hz := empty_of hs
  clear h hs
  go_enter Tryz.func188, Tryz.ntmps188
  go_wp2_with fail
  go_ret
  exact ⟨rfl, rfl⟩

set_option maxHeartbeats 3200000 in
set_option maxRecDepth 100000 in
theorem read_go {w : World} {B t bp bb p D : Nat} {s : ByteArray} {d : Bool} {v : Int} {u : Nat} (h : TSt w t bp bb s d v (u : Int)) (hB : B ≤ w.heap.size) (hBt : B ≤ t) (hBp : B ≤ bp) (hne : bb ≠ bp) (htp : t ≠ bp) (htb : t ≠ bb) (hlt : 0 < s.size) (hc : s[0] = 48 ∨ s[0] = 49) (hu : u ≤ 1000000)
    (hp : Boxed w bp 22 (.string (dstr p))) (hb : Boxed w bb 22 (.string (dstr D))) (okp : Ok (p + p)) (okD : Ok D) (ht : ∀ W, Below B w W → Tab W) :
    Calls Tryz.prog 188 #[.pointer (some ⟨t, 0, none⟩)] w fun e w' => e = .returned (.func (.func 120) #[.pointer (some ⟨t, 0, none⟩)] #[]) ∧ TSt w' t bp bb (s.extract 1 s.size) d v ((u + 1 : Nat) : Int) ∧ Boxed w' bp 22 (.string (dstr (halvF D p s[0]))) ∧ Boxed w' bb 22 (.string (dstr D)) ∧ Below B w w' := by
  have c1 : w.cell? ⟨t, 1, none⟩ = some (cloH bp bb) := by rw [Lib.cell_of_heap h]; rfl
  have c2 : w.cell? ⟨t, 2, none⟩ = some (.string s) := by rw [Lib.cell_of_heap h]; rfl
  have hz := not_empty_of (show s.size ≠ 0 by omega)
  have HH := Lib.hid (halve_clo (w := w.drew) hc hne hp hb okp okD (fun W hW => ht W ((Below.drew (Below.refl B w)).trans (hW.to_below hB (fun j e => by rw [e]; exact hBp)))))
  have HT := Lib.hid h
  have HQ := Lib.hid hb
  have HX := Lib.hid (And.intro hB (And.intro hBt (And.intro hBp (And.intro htp (And.intro htb hne)))))
  have e2 := e_hlv
  clear h hp hb okp okD ht hc hB hBt hBp htp htb hne
  go_enter Tryz.func188, Tryz.ntmps188
  go_wp2_with fail
  go_region_with (refine HH.out.mono ?_; rintro e w2 ⟨rfl, hp2, hch⟩)
  all_goals (
    have ht2 := TSt.ch (w := w.drew) HT.out hch (by show t ≠ bp; exact HX.out.2.2.2.1)
    have hq2 := hch.boxed (by show bb ≠ bp; exact HX.out.2.2.2.2.2) (show Boxed w.drew bb _ _ from HQ.out)
    have d2 : w2.cell? ⟨t, 2, none⟩ = some (.string s) := by rw [Lib.cell_of_heap ht2]; rfl
    have d5 : w2.cell? ⟨t, 5, none⟩ = some (.int .i64 (u : Int)) := by rw [Lib.cell_of_heap ht2]; rfl
    have f2 := ht2.free 2
    have f5 := ht2.free 5
    have ht3 := heap_setCell_same w2 t 2 _ _ (.string (s.extract 1 s.size)) ht2
    have d5' : (w2.setCell ⟨t, 2, none⟩ (.string (s.extract 1 s.size))).cell? ⟨t, 5, none⟩ = some (.int .i64 (u : Int)) := by rw [Lib.cell_of_heap ht3]; rfl
    have f5' : (w2.setCell ⟨t, 2, none⟩ (.string (s.extract 1 s.size))).frozen? ⟨t, 5, none⟩ = false := Lib.frozen_of_heap ht3 5
    have ht4 := heap_setCell_same _ t 5 _ _ (.int .i64 ((u + 1 : Nat) : Int)) ht3
    have hb4 : Below B w ((w2.setCell ⟨t, 2, none⟩ (.string (s.extract 1 s.size))).setCell ⟨t, 5, none⟩ (.int .i64 ((u + 1 : Nat) : Int))) :=
      (((Below.drew (Below.refl B w)).trans (hch.to_below HX.out.1 (fun j e => by rw [e]; exact HX.out.2.2.1))).setCell (p := ⟨t, 2, none⟩) HX.out.2.1 _).setCell (p := ⟨t, 5, none⟩) HX.out.2.1 _
    have hp4 : Boxed ((w2.setCell ⟨t, 2, none⟩ (.string (s.extract 1 s.size))).setCell ⟨t, 5, none⟩ (.int .i64 ((u + 1 : Nat) : Int))) bp _ _ :=
      (heap_setCell_other _ ⟨t, 5, none⟩ bp _ (fun e => HX.out.2.2.2.1 e.symm)).trans ((heap_setCell_other _ ⟨t, 2, none⟩ bp _ (fun e => HX.out.2.2.2.1 e.symm)).trans hp2)
    have hq4 : Boxed ((w2.setCell ⟨t, 2, none⟩ (.string (s.extract 1 s.size))).setCell ⟨t, 5, none⟩ (.int .i64 ((u + 1 : Nat) : Int))) bb _ _ :=
      (heap_setCell_other _ ⟨t, 5, none⟩ bb _ (fun e => HX.out.2.2.2.2.1 e.symm)).trans ((heap_setCell_other _ ⟨t, 2, none⟩ bb _ (fun e => HX.out.2.2.2.2.1 e.symm)).trans hq2)
    have HF := Lib.hid (And.intro ht4 (And.intro hp4 (And.intro hq4 hb4)))
    clear ht2 hq2 ht3 ht4 hb4 hp4 hq4 hp2 hch
    go_wp2_with fail
    go_ret
    exact ⟨rfl, HF.out.1, HF.out.2.1, HF.out.2.2.1, HF.out.2.2.2⟩)

set_option maxHeartbeats 800000 in
theorem end_zero {w : World} {t bp bb : Nat} {s : ByteArray} {v u : Int} (h : TSt w t bp bb s false v u) :
    Calls Tryz.prog 186 #[.pointer (some ⟨t, 0, none⟩)] w fun e w' => e = .returned .nilFunc ∧ TSt w' t bp bb s true v u ∧ Below t w w' := by
  have c3 : w.cell? ⟨t, 3, none⟩ = some (.bool false) := by rw [Lib.cell_of_heap h]; rfl
  have f3 := h.free 3
  have HF := Lib.hid (And.intro (heap_setCell_same w t 3 _ _ (.bool true) h) ((Below.refl t w).setCell (p := ⟨t, 3, none⟩) (Nat.le_refl _) (.bool true)))
  clear h
  go_enter Tryz.func186, Tryz.ntmps186
  go_wp2_with fail
  go_ret
  exact ⟨rfl, HF.out.1, HF.out.2⟩

set_option maxHeartbeats 800000 in
theorem end_one {w : World} {t bp bb : Nat} {s : ByteArray} {u : Int} (h : TSt w t bp bb s false 0 u) :
    Calls Tryz.prog 187 #[.pointer (some ⟨t, 0, none⟩)] w fun e w' => e = .returned .nilFunc ∧ TSt w' t bp bb s true 1 u ∧ Below t w w' := by
  have c3 : w.cell? ⟨t, 3, none⟩ = some (.bool false) := by rw [Lib.cell_of_heap h]; rfl
  have c4 : w.cell? ⟨t, 4, none⟩ = some (.int .i64 0) := by rw [Lib.cell_of_heap h]; rfl
  have f3 := h.free 3
  have f4 := h.free 4
  have h2 := heap_setCell_same w t 3 _ _ (.bool true) h
  have d4 : (w.setCell ⟨t, 3, none⟩ (.bool true)).cell? ⟨t, 4, none⟩ = some (.int .i64 0) := by rw [Lib.cell_of_heap h2]; rfl
  have g4 : (w.setCell ⟨t, 3, none⟩ (.bool true)).frozen? ⟨t, 4, none⟩ = false := Lib.frozen_of_heap h2 4
  have HF := Lib.hid (And.intro (heap_setCell_same _ t 4 _ _ (.int .i64 1) h2) (((Below.refl t w).setCell (p := ⟨t, 3, none⟩) (Nat.le_refl _) (.bool true)).setCell (p := ⟨t, 4, none⟩) (Nat.le_refl _) (.int .i64 1)))
  clear h h2
  go_enter Tryz.func187, Tryz.ntmps187
  go_wp2_with fail
  go_ret
  exact ⟨rfl, HF.out.1, HF.out.2⟩

open Go.RowKit NV
open Go.Lib (decDigits)

theorem equalIn_func (d : Nat) (f : Fn) (x y : Array Value) (W : World) : (Op.equalIn (d + 1) 144 (.func f x y) .nilFunc).run Tryz.prog W = .ok false W := by
  simp [Op.equalIn, run_underlying Tryz.underlying144]
theorem equalIn_nilFunc (d : Nat) (W : World) : (Op.equalIn (d + 1) 144 .nilFunc .nilFunc).run Tryz.prog W = .ok true W := by
  simp [Op.equalIn, run_underlying Tryz.underlying144]
theorem neq_func (f : Fn) (x y : Array Value) (W : World) : (binOp .neq 144 (.func f x y) .nilFunc).run Tryz.prog W = .ok (.bool true) W := by
  have h : (Op.equal 144 (.func f x y) .nilFunc).run Tryz.prog W = .ok false W := equalIn_func 9999 f x y W
  simp only [binOp]
  simp [h]
theorem neq_nilFunc (W : World) : (binOp .neq 144 .nilFunc .nilFunc).run Tryz.prog W = .ok (.bool false) W := by
  have h : (Op.equal 144 .nilFunc .nilFunc).run Tryz.prog W = .ok true W := equalIn_nilFunc 9999 W
  simp only [binOp]
  simp [h]

set_option maxHeartbeats 800000 in
theorem unit_any (x y : ByteArray) (w : World) (m : Nat) (hm : w.heap.size = m) :
    Calls Tryz.prog 119 #[.string x, .string y] w fun e w' => e = .returned (.tuple #[cloC (m + 1) m, cloH (m + 1) m]) ∧ (w.alloc (.cells #[.string y] 22)).alloc (.cells #[.string x] 22) = w' := by
  subst hm
  go_enter Tryz.func119, Tryz.ntmps119
  go_wp2_with fail
  go_ret2
  exact ⟨rfl, rfl⟩

/-- Block b is a result of a draw. -/
def DB (w : World) (b : Nat) (d : Bool) (v u : Int) : Prop := w.heap[b]? = some (.cells #[.bool d, .int .i64 v, .int .i64 u] 26 (0, 0))
theorem info_D : (Tryz.prog.info? 26).map (·.size) = some 3 := by kernel_rfl
theorem DB.load {w : World} {b : Nat} {d : Bool} {v u : Int} (h : DB w b d v u) : (loadVar 26 ⟨b, 0, none⟩).run Tryz.prog w = .ok (.agg #[.bool d, .int .i64 v, .int .i64 u]) w :=
  run_loadVar_row _ _ 26 26 _ (0, 0) _ h Tryz.underlying26 rfl info_D
theorem DB.lt {w : World} {b : Nat} {d : Bool} {v u : Int} (h : DB w b d v u) : b < w.heap.size := (Array.getElem?_eq_some_iff.1 h).1
def sd3 (w : World) (b : Nat) (d : Bool) (v u : Int) : World := ((w.setCell ⟨b, 0, none⟩ (.bool d)).setCell ⟨b, 1, none⟩ (.int .i64 v)).setCell ⟨b, 2, none⟩ (.int .i64 u)
theorem DB.st {w : World} {b : Nat} {d : Bool} {v u : Int} (h : DB w b d v u) (d' : Bool) (v' u' : Int) : DB (sd3 w b d' v' u') b d' v' u' :=
  heap_setCell_same _ b 2 _ _ _ (heap_setCell_same _ b 1 _ _ _ (heap_setCell_same w b 0 _ _ _ h))
theorem below_sd3 {B : Nat} {w w' : World} (h : Below B w w') {b : Nat} (hb : B ≤ b) (d : Bool) (v u : Int) : Below B w (sd3 w' b d v u) :=
  ((h.setCell (p := ⟨b, 0, none⟩) hb _).setCell (p := ⟨b, 1, none⟩) hb _).setCell (p := ⟨b, 2, none⟩) hb _
theorem DB.resultT {w : World} {b : Nat} {d : Bool} {v u : Int} {tmps : Array Value} (h : DB w b d v u) (ht : tmps.getD 6 undef = .pointer (some ⟨b, 0, none⟩)) : (results Tryz.f56 tmps).run Tryz.prog w = .ok (.agg #[.bool d, .int .i64 v, .int .i64 u]) w := by
  have hl := h.load
  have ht' : tmps[6]?.getD undef = .pointer (some ⟨b, 0, none⟩) := by rw [← ht]; simp
  simp [results, ht', asAddr, hl]

/-- A result of a draw, as a value. -/
abbrev tossR (T : Bool × Nat × Nat) : Value := .agg #[.bool T.1, .int .i64 ((T.2.1 : Nat) : Int), .int .i64 ((T.2.2 : Nat) : Int)]

theorem e_look : ∀ args w, (callFunc 120 args).run Tryz.prog w = .ok (.enter 120 args) w := enters_of Tryz.func120 (by kernel_rfl) rfl
theorem e_read : ∀ args w, (callFunc 188 args).run Tryz.prog w = .ok (.enter 188 args) w := enters_of Tryz.func188 (by kernel_rfl) rfl
theorem e_zero : ∀ args w, (callFunc 186 args).run Tryz.prog w = .ok (.enter 186 args) w := enters_of Tryz.func186 (by kernel_rfl) rfl
theorem e_one : ∀ args w, (callFunc 187 args).run Tryz.prog w = .ok (.enter 187 args) w := enters_of Tryz.func187 (by kernel_rfl) rfl

abbrev stV (g t : Nat) : Value := .func (.func g) #[.pointer (some ⟨t, 0, none⟩)] #[]
/-- Where a toss is. -/
def Toss (T : Bool × Nat × Nat) (t bp bb D : Nat) (nx : Value) (w : World) : Prop :=
  (∃ s p u, nx = stV 120 t ∧ TSt w t bp bb s false 0 ((u : Nat) : Int) ∧ Boxed w bp 22 (.string (dstr p)) ∧ Boxed w bb 22 (.string (dstr D)) ∧ p ≤ D + D ∧ IsBits s.data.toList ∧ s.size + u ≤ 1000 ∧ tossF D s.data.toList p u = T) ∨
  (∃ s p u, nx = stV 188 t ∧ TSt w t bp bb s false 0 ((u : Nat) : Int) ∧ Boxed w bp 22 (.string (dstr p)) ∧ Boxed w bb 22 (.string (dstr D)) ∧ p ≠ 0 ∧ ¬ D ≤ p ∧ IsBits s.data.toList ∧ s.size + u ≤ 1000 ∧ tossF D s.data.toList p u = T) ∨
  (∃ s u, nx = stV 186 t ∧ TSt w t bp bb s false 0 ((u : Nat) : Int) ∧ T = (true, 0, u)) ∨
  (∃ s u, nx = stV 187 t ∧ TSt w t bp bb s false 0 ((u : Nat) : Int) ∧ T = (true, 1, u)) ∨
  (∃ s, nx = .nilFunc ∧ TSt w t bp bb s T.1 ((T.2.1 : Nat) : Int) ((T.2.2 : Nat) : Int))
/-- How many bits a toss has left, and what state it is in. -/
def tsLen (w : World) (t : Nat) : Nat := match w.cell? ⟨t, 2, none⟩ with | some (.string s) => s.size | _ => 0
theorem tsLen_of {w : World} {t bp bb : Nat} {s : ByteArray} {d : Bool} {v u : Int} (h : TSt w t bp bb s d v u) : tsLen w t = s.size := by
  have c2 : w.cell? ⟨t, 2, none⟩ = some (.string s) := by rw [Lib.cell_of_heap h]; rfl
  unfold tsLen; rw [c2]
def nxCode : Value → Nat
  | .func (.func g) _ _ => if g = 120 then 3 else if g = 188 then 2 else 1
  | _ => 0

theorem halvF_le {D p : Nat} {c : UInt8} (h : ¬ D ≤ p) : halvF D p c ≤ D + D := by unfold halvF; split <;> (try split) <;> omega
theorem toss_step {D p u : Nat} {s : ByteArray} (h0 : p ≠ 0) (h1 : ¬ D ≤ p) (hlt : 0 < s.size) : tossF D s.data.toList p u = tossF D (s.extract 1 s.size).data.toList (halvF D p s[0]) (u + 1) ∧ (IsBits s.data.toList → IsBits (s.extract 1 s.size).data.toList ∧ (s[0] = 48 ∨ s[0] = 49)) ∧ (s.extract 1 s.size).size + 1 = s.size := by
  have hb := byte_at s 0 hlt
  have hsz := Go.Lib.size_eq s
  have he : (s.extract 1 s.size).data.toList = s.data.toList.drop 1 := by
    rw [Go.Lib.extract_data]
    exact List.take_of_length_le (by rw [List.length_drop, ← hsz]; omega)
  rw [he]
  refine ⟨?_, fun h => ⟨h.drop 1, h _ (List.mem_of_getElem? hb)⟩, by rw [ByteArray.size_extract]; omega⟩
  cases hl : s.data.toList with
  | nil => rw [hl] at hb; simp at hb
  | cons c r =>
    rw [hl] at hb
    have hc : c = s[0] := by simpa using hb
    rw [toss_cons h0 h1, List.drop_succ_cons, List.drop_zero, hc]
theorem toss_end {D p u : Nat} {s : ByteArray} (h0 : p ≠ 0) (h1 : ¬ D ≤ p) (hs : s.size = 0) : tossF D s.data.toList p u = (false, 0, u) := by
  have hl : s.data.toList = [] := List.eq_nil_of_length_eq_zero (by rw [← Go.Lib.size_eq]; exact hs)
  rw [hl, toss_nil h0 h1]

theorem look_toss {w : World} {T : Bool × Nat × Nat} {t bp bb D p u : Nat} {s : ByteArray} (h : TSt w t bp bb s false 0 ((u : Nat) : Int)) (hp : Boxed w bp 22 (.string (dstr p))) (hb : Boxed w bb 22 (.string (dstr D))) (okD : Ok (D + D)) (hpD : p ≤ D + D) (hbits : IsBits s.data.toList) (hsz : s.size + u ≤ 1000) (hT : tossF D s.data.toList p u = T) :
    Calls Tryz.prog 120 #[.pointer (some ⟨t, 0, none⟩)] w fun e w' => ∃ v, e = .returned v ∧ Toss T t bp bb D v w' ∧ 4 * tsLen w' t + nxCode v < 4 * s.size + 3 ∧ (v = .nilFunc ∨ ∃ g, v = stV g t) ∧ Below w.heap.size w w' := by
  refine (look_any h hp hb (okD.mono hpD) (okD.mono (Nat.le_add_left _ _))).mono ?_
  rintro e w' ⟨rfl, hbw⟩
  have h' := h.below hbw
  have hl := tsLen_of h'
  by_cases h0 : p = 0
  · refine ⟨_, rfl, .inr (.inr (.inl ⟨s, u, by unfold nextV; rw [if_pos h0], h', ?_⟩)), ?_, .inr ⟨_, by unfold nextV; rw [if_pos h0]⟩, hbw⟩
    · rw [← hT, h0, toss_zero]
    · rw [hl]; unfold nextV; rw [if_pos h0]; show 4 * s.size + 1 < _; omega
  · by_cases h1 : D ≤ p
    · refine ⟨_, rfl, .inr (.inr (.inr (.inl ⟨s, u, by unfold nextV; rw [if_neg h0, if_pos h1], h', ?_⟩))), ?_, .inr ⟨_, by unfold nextV; rw [if_neg h0, if_pos h1]⟩, hbw⟩
      · rw [← hT, toss_one h0 h1]
      · rw [hl]; unfold nextV; rw [if_neg h0, if_pos h1]; show 4 * s.size + 1 < _; omega
    · refine ⟨_, rfl, .inr (.inl ⟨s, p, u, by unfold nextV; rw [if_neg h0, if_neg h1], h', box_below hp hbw, box_below hb hbw, h0, h1, hbits, hsz, hT⟩), ?_, .inr ⟨_, by unfold nextV; rw [if_neg h0, if_neg h1]⟩, hbw⟩
      rw [hl]; unfold nextV; rw [if_neg h0, if_neg h1]; show 4 * s.size + 2 < _; omega

/-- One step of a toss. -/
theorem step_toss {w : World} {T : Bool × Nat × Nat} {B t bp bb D : Nat} {nx : Value} (h : Toss T t bp bb D nx w) (hnn : nx ≠ .nilFunc) (hB : B ≤ w.heap.size) (hBt : B ≤ t) (hBp : B ≤ bp) (hne : bb ≠ bp) (htp : t ≠ bp) (htb : t ≠ bb) (okD : Ok (D + D)) (ht : ∀ W, Below B w W → Tab W) :
    ∃ g, nx = stV g t ∧ (∀ args w, (callFunc g args).run Tryz.prog w = .ok (.enter g args) w) ∧
      Calls Tryz.prog g #[.pointer (some ⟨t, 0, none⟩)] w fun e w' => ∃ v, e = .returned v ∧ Toss T t bp bb D v w' ∧ 4 * tsLen w' t + nxCode v < 4 * tsLen w t + nxCode nx ∧ (v = .nilFunc ∨ ∃ g, v = stV g t) ∧ Below B w w' := by
  rcases h with ⟨s, p, u, rfl, h, hp, hb, hpD, hbits, hsz, hT⟩ | ⟨s, p, u, rfl, h, hp, hb, h0, h1, hbits, hsz, hT⟩ | ⟨s, u, rfl, h, hT⟩ | ⟨s, u, rfl, h, hT⟩ | ⟨s, rfl, h⟩
  · refine ⟨_, rfl, e_look, (look_toss h hp hb okD hpD hbits hsz hT).mono ?_⟩
    rintro e w' ⟨v, he, hv, hm, hf, hbw⟩
    exact ⟨v, he, hv, by rw [tsLen_of h]; exact hm, hf, hbw.mono hB⟩
  · refine ⟨_, rfl, e_read, ?_⟩
    by_cases hz : s.size = 0
    · refine (read_nil h hz).mono ?_
      rintro e w' ⟨rfl, rfl⟩
      refine ⟨_, rfl, .inr (.inr (.inr (.inr ⟨s, rfl, ?_⟩))), ?_, .inl rfl, Below.refl _ _⟩
      · rw [← hT, toss_end h0 h1 hz]; exact h
      · rw [tsLen_of h]; show 4 * s.size + 0 < 4 * s.size + 2; omega
    · have hlt : 0 < s.size := by omega
      obtain ⟨e1, e2, e3⟩ := toss_step (D := D) (u := u) h0 h1 hlt
      obtain ⟨b1, b2⟩ := e2 hbits
      refine (read_go h hB hBt hBp hne htp htb hlt b2 (by omega) hp hb (okD.mono (by omega)) (okD.mono (Nat.le_add_left _ _)) ht).mono ?_
      rintro e w' ⟨rfl, h', hp', hb', hbw⟩
      refine ⟨_, rfl, .inl ⟨_, _, _, rfl, h', hp', hb', halvF_le h1, b1, by omega, by rw [← e1]; exact hT⟩, ?_, .inr ⟨_, rfl⟩, hbw⟩
      rw [tsLen_of h, tsLen_of h']; show 4 * _ + 3 < 4 * s.size + 2; omega
  · refine ⟨_, rfl, e_zero, (end_zero h).mono ?_⟩
    rintro e w' ⟨rfl, h', hbw⟩
    refine ⟨_, rfl, .inr (.inr (.inr (.inr ⟨s, rfl, by rw [hT]; exact h'⟩))), ?_, .inl rfl, hbw.mono hBt⟩
    rw [tsLen_of h, tsLen_of h']; show 4 * s.size + 0 < 4 * s.size + 1; omega
  · refine ⟨_, rfl, e_one, (end_one h).mono ?_⟩
    rintro e w' ⟨rfl, h', hbw⟩
    refine ⟨_, rfl, .inr (.inr (.inr (.inr ⟨s, rfl, by rw [hT]; exact h'⟩))), ?_, .inl rfl, hbw.mono hBt⟩
    rw [tsLen_of h, tsLen_of h']; show 4 * s.size + 0 < 4 * s.size + 1; omega
  · exact absurd rfl hnn

set_option maxHeartbeats 3200000 in
set_option maxRecDepth 100000 in
theorem tossed_any {N D : Nat} {b : ByteArray} (hN : N ≤ D) (okD : Ok (D + D)) (hb : IsBits b.data.toList) (hs : b.size ≤ 256) (w : World) (htab : Tab w) :
    Calls Tryz.prog 56 #[.string (dstr N), .string (dstr D), .string b] w fun e w' => e = .returned (tossR (tossF D b.data.toList N 0)) ∧ Below w.heap.size w w' := by
  have HTAB := Lib.hid (fun W (h : Below w.heap.size w W) => htab.below h)
  have HU := Lib.hid (fun W (h : W.heap.size = w.heap.size + 2) => unit_any (dstr N) (dstr D) W _ h)
  have hND : N ≤ D + D := by omega
  have HST := Lib.hid (And.intro hND (And.intro hb (show b.size + 0 ≤ 1000 by omega)))
  obtain ⟨T, hT⟩ : ∃ T, tossF D b.data.toList N 0 = T := ⟨_, rfl⟩
  have HT := Lib.hid hT
  rw [hT]
  have hl0 : ∀ o : Obj, (w.alloc o).heap.size = w.heap.size + 1 := fun o => by simp
  generalize hx : dstr N = x at *
  generalize hy : dstr D = y at *
  have HXY := Lib.hid (And.intro hx hy)
  clear hb hs htab hND hT hx hy hN
  go_enter Tryz.func56, Tryz.ntmps56
  go_wp2_with fail
  refine (HU.out _ ?hsz).mono ?_
  case hsz => simp
  rintro e w2 ⟨rfl, hw2⟩
  have hD2 : DB w2 w.heap.size false 0 0 := by
    rw [← hw2]
    exact (Lib.alloc_old _ _ _ (by simp; try omega)).trans ((Lib.alloc_old _ _ _ (by simp; try omega)).trans ((Lib.alloc_old _ _ _ (by simp; try omega)).trans (heap_alloc_new w _)))
  have hT2 : w2.heap[w.heap.size + 1]? = some (.cells #[.nilFunc, .nilFunc, .string b, .bool false, .int .i64 0, .int .i64 0] 140 (0, 0)) := by
    rw [← hw2]
    have h1 := heap_alloc_new (w.alloc (.cells #[.bool false, .int .i64 0, .int .i64 0] 26)) (.cells #[.nilFunc, .nilFunc, .string b, .bool false, .int .i64 0, .int .i64 0] 140)
    rw [hl0] at h1
    exact (Lib.alloc_old _ _ _ (by simp; try omega)).trans ((Lib.alloc_old _ _ _ (by simp; try omega)).trans h1)
  have hbb : Boxed w2 (w.heap.size + 2) 22 (.string y) := by
    rw [← hw2]
    have h1 := (Boxed.new ((w.alloc (.cells #[.bool false, .int .i64 0, .int .i64 0] 26)).alloc (.cells #[.nilFunc, .nilFunc, .string b, .bool false, .int .i64 0, .int .i64 0] 140)) 22 (.string y)).alloc (.cells #[.string x] 22)
    simpa using h1
  have hbp : Boxed w2 (w.heap.size + 3) 22 (.string x) := by
    rw [← hw2]
    have h1 := Boxed.new (((w.alloc (.cells #[.bool false, .int .i64 0, .int .i64 0] 26)).alloc (.cells #[.nilFunc, .nilFunc, .string b, .bool false, .int .i64 0, .int .i64 0] 140)).alloc (.cells #[.string y] 22)) 22 (.string x)
    simpa using h1
  have hb2 : Below w.heap.size w w2 := by
    rw [← hw2]
    exact ((((Below.refl _ w).alloc (Nat.le_refl _) _).alloc (by simp; try omega) _).alloc (by simp; try omega) _).alloc (by simp; try omega) _
  have c0 : w2.cell? ⟨w.heap.size + 1, 0, none⟩ = some .nilFunc := by rw [Lib.cell_of_heap hT2]; rfl
  have c1 : w2.cell? ⟨w.heap.size + 1, 1, none⟩ = some .nilFunc := by rw [Lib.cell_of_heap hT2]; rfl
  have f0 : w2.frozen? ⟨w.heap.size + 1, 0, none⟩ = false := Lib.frozen_of_heap hT2 0
  have f1 : w2.frozen? ⟨w.heap.size + 1, 1, none⟩ = false := Lib.frozen_of_heap hT2 1
  have hT3 := heap_setCell_same w2 (w.heap.size + 1) 0 _ _ (cloC (w.heap.size + 2 + 1) (w.heap.size + 2)) hT2
  have c1' : (w2.setCell ⟨w.heap.size + 1, 0, none⟩ (cloC (w.heap.size + 2 + 1) (w.heap.size + 2))).cell? ⟨w.heap.size + 1, 1, none⟩ = some .nilFunc := by rw [Lib.cell_of_heap hT3]; rfl
  have f1' : (w2.setCell ⟨w.heap.size + 1, 0, none⟩ (cloC (w.heap.size + 2 + 1) (w.heap.size + 2))).frozen? ⟨w.heap.size + 1, 1, none⟩ = false := Lib.frozen_of_heap hT3 1
  have hT4 : TSt _ (w.heap.size + 1) (w.heap.size + 3) (w.heap.size + 2) b false 0 ((0 : Nat) : Int) := heap_setCell_same _ (w.heap.size + 1) 1 _ _ (cloH (w.heap.size + 2 + 1) (w.heap.size + 2)) hT3
  have hD4 : DB ((w2.setCell ⟨w.heap.size + 1, 0, none⟩ (cloC (w.heap.size + 2 + 1) (w.heap.size + 2))).setCell ⟨w.heap.size + 1, 1, none⟩ (cloH (w.heap.size + 2 + 1) (w.heap.size + 2))) w.heap.size false 0 0 :=
    (heap_setCell_other _ ⟨w.heap.size + 1, 1, none⟩ w.heap.size _ (by show w.heap.size ≠ w.heap.size + 1; omega)).trans ((heap_setCell_other _ ⟨w.heap.size + 1, 0, none⟩ w.heap.size _ (by show w.heap.size ≠ w.heap.size + 1; omega)).trans hD2)
  have hbb4 : Boxed ((w2.setCell ⟨w.heap.size + 1, 0, none⟩ (cloC (w.heap.size + 2 + 1) (w.heap.size + 2))).setCell ⟨w.heap.size + 1, 1, none⟩ (cloH (w.heap.size + 2 + 1) (w.heap.size + 2))) (w.heap.size + 2) _ _ :=
    (heap_setCell_other _ ⟨w.heap.size + 1, 1, none⟩ (w.heap.size + 2) _ (by show w.heap.size + 2 ≠ w.heap.size + 1; omega)).trans ((heap_setCell_other _ ⟨w.heap.size + 1, 0, none⟩ (w.heap.size + 2) _ (by show w.heap.size + 2 ≠ w.heap.size + 1; omega)).trans hbb)
  have hbp4 : Boxed ((w2.setCell ⟨w.heap.size + 1, 0, none⟩ (cloC (w.heap.size + 2 + 1) (w.heap.size + 2))).setCell ⟨w.heap.size + 1, 1, none⟩ (cloH (w.heap.size + 2 + 1) (w.heap.size + 2))) (w.heap.size + 3) _ _ :=
    (heap_setCell_other _ ⟨w.heap.size + 1, 1, none⟩ (w.heap.size + 3) _ (by show w.heap.size + 3 ≠ w.heap.size + 1; omega)).trans ((heap_setCell_other _ ⟨w.heap.size + 1, 0, none⟩ (w.heap.size + 3) _ (by show w.heap.size + 3 ≠ w.heap.size + 1; omega)).trans hbp)
  have HF := Lib.hid (And.intro hT4 (And.intro hD4 (And.intro hbb4 (And.intro hbp4 ((hb2.setCell (p := ⟨w.heap.size + 1, 0, none⟩) (Nat.le_add_right _ _) (cloC (w.heap.size + 2 + 1) (w.heap.size + 2))).setCell (p := ⟨w.heap.size + 1, 1, none⟩) (Nat.le_add_right _ _) (cloH (w.heap.size + 2 + 1) (w.heap.size + 2)))))))
  clear hw2 hD2 hT2 hbb hbp hb2 hT3 hT4 hD4 hbb4 hbp4 HU hl0
  go_wp2_with fail
  go_loopw [8] (fun nx wr => Toss T (w.heap.size + 1) (w.heap.size + 3) (w.heap.size + 2) D nx wr ∧ DB wr w.heap.size false 0 0 ∧ Below w.heap.size w wr ∧ (nx = .nilFunc ∨ ∃ g, nx = stV g (w.heap.size + 1))) (fun nx wr => 4 * tsLen wr (w.heap.size + 1) + nxCode nx)
  case atStart => exact ⟨.inl ⟨b, N, 0, rfl, HF.out.1, by rw [HXY.out.1]; exact HF.out.2.2.2.1, by rw [HXY.out.2]; exact HF.out.2.2.1, HST.out.1, HST.out.2.1, HST.out.2.2, HT.out⟩, HF.out.2.1, HF.out.2.2.2.2, .inr ⟨_, rfl⟩⟩
  case round =>
    obtain ⟨hTo, hDB, hbel, hnx⟩ := hrel
    clear HF c0 c1 c1' f0 f1 f1'
    rcases hnx with rfl | ⟨g0, hg0⟩
    · have hnq := neq_nilFunc wr
      have hTS : ∃ s, TSt wr (w.heap.size + 1) (w.heap.size + 3) (w.heap.size + 2) s T.1 ((T.2.1 : Nat) : Int) ((T.2.2 : Nat) : Int) := by
        rcases hTo with ⟨s, p, u, h, _⟩ | ⟨s, p, u, h, _⟩ | ⟨s, u, h, _⟩ | ⟨s, u, h, _⟩ | ⟨s, _, h⟩
        · cases h
        · cases h
        · cases h
        · cases h
        · exact ⟨s, h⟩
      obtain ⟨s, hTS⟩ := hTS
      have c3 : wr.cell? ⟨w.heap.size + 1, 3, none⟩ = some (.bool T.1) := by rw [Lib.cell_of_heap hTS]; rfl
      have c4 : wr.cell? ⟨w.heap.size + 1, 4, none⟩ = some (.int .i64 ((T.2.1 : Nat) : Int)) := by rw [Lib.cell_of_heap hTS]; rfl
      have c5 : wr.cell? ⟨w.heap.size + 1, 5, none⟩ = some (.int .i64 ((T.2.2 : Nat) : Int)) := by rw [Lib.cell_of_heap hTS]; rfl
      have d0 : wr.cell? ⟨w.heap.size, 0, none⟩ = some (.bool false) := by rw [Lib.cell_of_heap hDB]; rfl
      have d1 : wr.cell? ⟨w.heap.size, 1, none⟩ = some (.int .i64 0) := by rw [Lib.cell_of_heap hDB]; rfl
      have d2 : wr.cell? ⟨w.heap.size, 2, none⟩ = some (.int .i64 0) := by rw [Lib.cell_of_heap hDB]; rfl
      have g0 : wr.frozen? ⟨w.heap.size, 0, none⟩ = false := Lib.frozen_of_heap hDB 0
      have g1 : wr.frozen? ⟨w.heap.size, 1, none⟩ = false := Lib.frozen_of_heap hDB 1
      have g2 : wr.frozen? ⟨w.heap.size, 2, none⟩ = false := Lib.frozen_of_heap hDB 2
      have HDB := Lib.hid (And.intro hDB hbel)
      clear hTo hTS hDB hbel
      go_wp2_with fail
      exact bodyPost_ret ((HDB.out.1.st T.1 ((T.2.1 : Nat) : Int) ((T.2.2 : Nat) : Int)).resultT rfl) rfl ⟨rfl, below_sd3 HDB.out.2 (Nat.le_refl _) _ _ _⟩
    · have hlt := hDB.lt
      have hts : w.heap.size + 1 ≤ wr.heap.size := by omega
      obtain ⟨g, hg, eg, hcall⟩ := step_toss hTo (by rw [hg0]; simp) hts (Nat.le_refl _) (by omega) (by omega) (by omega) (by omega) okD (fun W hW => HTAB.out W (hbel.trans (hW.mono (Nat.le_succ _))))
      subst hg
      have HC := Lib.hid hcall
      have HK := Lib.hid (And.intro hDB (And.intro hbel hts))
      clear hTo hcall hDB hbel hg0 hlt hts
      have hnq := neq_func (.func g) #[.pointer (some ⟨w.heap.size + 1, 0, none⟩)] #[] wr
      go_wp2_with fail
      refine HC.out.mono ?_
      rintro e w3 ⟨v, rfl, hv, hm, hf, hbw⟩
      have HF := Lib.hid (And.intro hv (And.intro (show DB w3 w.heap.size false 0 0 from (hbw.block _ (Nat.lt_succ_self _)).trans HK.out.1) (HK.out.2.1.trans (hbw.mono (Nat.le_succ _)))))
      have HM := Lib.hid hm
      clear hv hm hbw HC HK hnq
      rcases hf with rfl | ⟨g', rfl⟩
      · go_wp2_with fail
        go_roundw
        case rel => exact ⟨HF.out.1, HF.out.2.1, HF.out.2.2, .inl rfl⟩
        case measure => exact HM.out
      · go_wp2_with fail
        go_roundw
        case rel => exact ⟨HF.out.1, HF.out.2.1, HF.out.2.2, .inr ⟨_, rfl⟩⟩
        case measure => exact HM.out

end Go.Proofs.YteojekiocecdnaaGreatDoor
