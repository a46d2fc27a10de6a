/-
  Mathematics of distributions of rational numbers: sums, sets, runs that stop at the first error.
-/
import Derived.Test.YtofanopnibbaeaaGreatDoorHL
import Derived.Test.YtofanopnibbaeaaGreatDoorHE
namespace Go.Proofs.YtofanopnibbaeaaGreatDoor
open Go.RowKit NV
open Go.Lib (decDigits)

/-- Sums of the first values of a sequence. -/
def sm (g : Nat → Rat) : Nat → Rat
  | 0 => 0
  | k + 1 => sm g k + g k
theorem sm_le {g h : Nat → Rat} : ∀ {n : Nat}, (∀ i, i < n → g i ≤ h i) → sm g n ≤ sm h n
  | 0, _ => Rat.le_refl
  | n + 1, H => by
    have h1 := sm_le (n := n) (fun i hi => H i (by omega))
    have h2 := H n (by omega)
    show sm g n + g n ≤ sm h n + h n
    grind
theorem sm_eq {g h : Nat → Rat} : ∀ {n : Nat}, (∀ i, i < n → g i = h i) → sm g n = sm h n
  | 0, _ => rfl
  | n + 1, H => by
    show sm g n + g n = sm h n + h n
    rw [sm_eq (n := n) (fun i hi => H i (by omega)), H n (by omega)]
theorem sm_add {g h : Nat → Rat} : ∀ {n : Nat}, sm (fun i => g i + h i) n = sm g n + sm h n
  | 0 => by show (0 : Rat) = 0 + 0; grind
  | n + 1 => by
    have := sm_add (g := g) (h := h) (n := n)
    show sm (fun i => g i + h i) n + (g n + h n) = (sm g n + g n) + (sm h n + h n)
    grind
theorem sm_mul {f : Rat} {g : Nat → Rat} : ∀ {n : Nat}, sm (fun i => f * g i) n = f * sm g n
  | 0 => by show (0 : Rat) = f * 0; grind
  | n + 1 => by
    have := sm_mul (f := f) (g := g) (n := n)
    show sm (fun i => f * g i) n + f * g n = f * (sm g n + g n)
    grind
theorem sm_zero : ∀ {n : Nat}, sm (fun _ => 0) n = 0
  | 0 => rfl
  | n + 1 => by
    have := sm_zero (n := n)
    show sm (fun _ => 0) n + 0 = 0
    grind
theorem sm_nonneg {g : Nat → Rat} {n : Nat} (h : ∀ i, i < n → 0 ≤ g i) : 0 ≤ sm g n := by
  have := sm_le (g := fun _ => 0) h
  rw [sm_zero] at this
  exact this

/-- The greater one of 0 and a number. -/
def mx0 (q : Rat) : Rat := if 0 < q then q else 0
theorem mx0_ge (q : Rat) : q ≤ mx0 q := by unfold mx0; grind
theorem mx0_nonneg (q : Rat) : 0 ≤ mx0 q := by unfold mx0; grind

/-- What a statement of sets says: a and b are the probabilities of the outcomes of the first list. -/
theorem sets_le {a b : Nat → Rat} {f : Rat} {n : Nat} (s : Nat → Bool) :
    sm (fun i => if s i then a i else 0) n ≤ f * sm (fun i => if s i then b i else 0) n + sm (fun i => mx0 (a i - f * b i)) n := by
  rw [← sm_mul, ← sm_add]
  refine sm_le fun i _ => ?_
  have h1 := mx0_ge (a i - f * b i)
  have h2 := mx0_nonneg (a i - f * b i)
  show (if s i then a i else 0) ≤ f * (if s i then b i else 0) + mx0 (a i - f * b i)
  cases s i
  · simp only [Bool.false_eq_true, if_false]; grind
  · simp only [if_true]; grind
theorem sets_eq {a b : Nat → Rat} {f : Rat} {n : Nat} :
    sm (fun i => if decide (f * b i < a i) then a i else 0) n = f * sm (fun i => if decide (f * b i < a i) then b i else 0) n + sm (fun i => mx0 (a i - f * b i)) n := by
  rw [← sm_mul, ← sm_add]
  refine sm_eq fun i _ => ?_
  show (if decide (f * b i < a i) then a i else 0) = f * (if decide (f * b i < a i) then b i else 0) + mx0 (a i - f * b i)
  unfold mx0
  by_cases h : f * b i < a i
  · rw [decide_eq_true h, if_pos rfl, if_pos rfl, if_pos (by grind)]; grind
  · rw [decide_eq_false h]; simp only [Bool.false_eq_true, if_false]; rw [if_neg (by grind)]; grind
theorem sets_pos {g : Nat → Rat} {n : Nat} : 0 ≤ sm (fun i => mx0 (g i)) n := sm_nonneg fun _ _ => mx0_nonneg _
theorem sets_one {a b : Nat → Rat} {f : Rat} {n : Nat} (hf : 0 ≤ f) (ha : ∀ i, i < n → 0 ≤ a i) (hb : ∀ i, i < n → 0 ≤ b i) (h1 : sm a n = 1) : sm (fun i => mx0 (a i - f * b i)) n ≤ 1 := by
  rw [← h1]
  refine sm_le fun i hi => ?_
  have h2 := Rat.mul_nonneg hf (hb i hi)
  have h3 := ha i hi
  show mx0 (a i - f * b i) ≤ a i
  unfold mx0
  grind

/-- The first error. -/
def fstE (f : Nat → Nat) : Nat → Nat
  | 0 => 0
  | n + 1 => if fstE f n ≠ 0 then fstE f n else f n
theorem fstE_step {f : Nat → Nat} {k : Nat} (h : fstE f k = 0) : fstE f (k + 1) = f k := by
  show (if fstE f k ≠ 0 then fstE f k else f k) = f k
  rw [if_neg (by omega)]
theorem fstE_up {f : Nat → Nat} {k : Nat} (h : fstE f k ≠ 0) : ∀ e, fstE f (k + e) = fstE f k
  | 0 => rfl
  | e + 1 => by
    have ih := fstE_up h e
    show (if fstE f (k + e) ≠ 0 then fstE f (k + e) else f (k + e)) = _
    rw [ih, if_pos h]
theorem fstE_at {f : Nat → Nat} {k n : Nat} (h : fstE f k = 0) (h1 : f k ≠ 0) (hk : k < n) : fstE f n = f k := by
  have h2 := fstE_step h
  have h3 := fstE_up (f := f) (k := k + 1) (by rw [h2]; exact h1) (n - (k + 1))
  rw [show k + 1 + (n - (k + 1)) = n by omega, h2] at h3
  exact h3
theorem fstE_all {f : Nat → Nat} : ∀ {n : Nat}, fstE f n = 0 → ∀ k, k < n → f k = 0
  | 0, _, k, hk => absurd hk (Nat.not_lt_zero _)
  | n + 1, h, k, hk => by
    have h' : (if fstE f n ≠ 0 then fstE f n else f n) = 0 := h
    by_cases h0 : fstE f n = 0
    · rw [if_neg (by omega)] at h'
      rcases Nat.lt_or_ge k n with h1 | h1
      · exact fstE_all h0 k h1
      · obtain rfl : k = n := by omega
        exact h'
    · rw [if_pos h0] at h'; exact absurd h' h0
theorem fstE_zero {f : Nat → Nat} : ∀ {n : Nat}, (∀ k, k < n → f k = 0) → fstE f n = 0
  | 0, _ => rfl
  | n + 1, h => by rw [fstE_step (fstE_zero (n := n) (fun k hk => h k (by omega)))]; exact h n (by omega)
theorem fstE_congr {f g : Nat → Nat} : ∀ {n : Nat}, (∀ k, k < n → f k = g k) → fstE f n = fstE g n
  | 0, _ => rfl
  | n + 1, h => by
    show (if fstE f n ≠ 0 then fstE f n else f n) = (if fstE g n ≠ 0 then fstE g n else g n)
    rw [fstE_congr (n := n) (fun k hk => h k (by omega)), h n (by omega)]

/-- A run that stops at the first error. -/
def runO {α : Type} (f : Nat → α → Option α) (s0 : α) : Nat → Option α
  | 0 => some s0
  | k + 1 => (runO f s0 k).bind (f k)
theorem runO_step {α : Type} {f : Nat → α → Option α} {s0 s : α} {k : Nat} (h : runO f s0 k = some s) : runO f s0 (k + 1) = f k s := by
  show (runO f s0 k).bind (f k) = _
  rw [h]; rfl
theorem runO_none {α : Type} {f : Nat → α → Option α} {s0 : α} {k : Nat} (h : runO f s0 k = none) : ∀ e, runO f s0 (k + e) = none
  | 0 => h
  | e + 1 => by
    show (runO f s0 (k + e)).bind (f (k + e)) = none
    rw [runO_none h e]; rfl
theorem runO_fail {α : Type} {f : Nat → α → Option α} {s0 s : α} {k n : Nat} (h : runO f s0 k = some s) (hf : f k s = none) (hk : k < n) : runO f s0 n = none := by
  have h2 := runO_none (f := f) (s0 := s0) (k := k + 1) (by rw [runO_step h]; exact hf) (n - (k + 1))
  rw [show k + 1 + (n - (k + 1)) = n by omega] at h2
  exact h2
theorem runO_some {α : Type} {f : Nat → α → Option α} {s0 : α} {n : Nat} {t : α} (h : runO f s0 n = some t) : ∀ k, k ≤ n → ∃ s, runO f s0 k = some s := by
  intro k hk
  cases hr : runO f s0 k with
  | some s => exact ⟨s, rfl⟩
  | none =>
    have := runO_none hr (n - k)
    rw [show k + (n - k) = n by omega, h] at this
    cases this
theorem runO_congr {α : Type} {f g : Nat → α → Option α} {s0 : α} : ∀ {n : Nat}, (∀ k s, k < n → f k s = g k s) → runO f s0 n = runO g s0 n
  | 0, _ => rfl
  | n + 1, h => by
    show (runO f s0 n).bind (f n) = (runO g s0 n).bind (g n)
    rw [runO_congr (n := n) (fun k s hk => h k s (by omega))]
    cases runO g s0 n with
    | none => rfl
    | some s => exact h n s (by omega)
/-- A run without an error. -/
theorem runO_sm {g : Nat → Rat} {f : Nat → Rat → Option Rat} {n : Nat} (h : ∀ k, k < n → f k (sm g k) = some (sm g k + g k)) : runO f 0 n = some (sm g n) := by
  induction n with
  | zero => rfl
  | succ n ih => rw [runO_step (ih (fun k hk => h k (by omega))), h n (by omega)]; rfl

instance decQOk (q : Rat) : Decidable (QOk q) := inferInstanceAs (Decidable ((decDigits (tp q)).length ≤ 4000 ∧ (decDigits q.den).length ≤ 4000))
/-- A number, if it has not too many digits. -/
def okQ (q : Rat) : Option Rat := if QOk q then some q else none
theorem okQ_some {q t : Rat} (h : okQ q = some t) : q = t ∧ QOk q := by
  unfold okQ at h
  by_cases hq : QOk q
  · rw [if_pos hq] at h; exact ⟨Option.some.inj h, hq⟩
  · rw [if_neg hq] at h; cases h
theorem okQ_yes {q : Rat} (h : QOk q) : okQ q = some q := if_pos h
/-- What a function returns of a number, if there is one. -/
def oQ : Option Rat → ByteArray × Nat
  | some q => (qstr q, 0)
  | none => (⟨#[]⟩, 5)
theorem wQ_oQ (q : Rat) : wQ q = oQ (okQ q) := by
  unfold okQ
  by_cases h : QOk q
  · rw [if_pos h, wQ_ok h]; rfl
  · rw [if_neg h]; exact wQ_no h

end Go.Proofs.YtofanopnibbaeaaGreatDoor
