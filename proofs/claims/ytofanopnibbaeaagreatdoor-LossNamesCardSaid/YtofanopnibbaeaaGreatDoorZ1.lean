/-
  Mathematics of distributions of rational numbers: sums, sets, runs that stop at the first error.
-/
import Derived.Test.YtofanopnibbaeaaGreatDoorHL
import Derived.Test.YtofanopnibbaeaaGreatDoorHE
namespace Go.Proofs.YtofanopnibbaeaaGreatDoor
open Go.RowKit NV
open Go.Lib (decDigits)

/-- Sums of the first values of a sequence. -/
def sm (g : Nat → Rat) : Nat → Rat
  | 0 => 0
  | k + 1 => sm g k + g k
/-- A run that stops at the first error. -/
def runO {α : Type} (f : Nat → α → Option α) (s0 : α) : Nat → Option α
  | 0 => some s0
  | k + 1 => (runO f s0 k).bind (f k)
theorem runO_step {α : Type} {f : Nat → α → Option α} {s0 s : α} {k : Nat} (h : runO f s0 k = some s) : runO f s0 (k + 1) = f k s := by
  show (runO f s0 k).bind (f k) = _
  rw [h]; rfl
theorem runO_none {α : Type} {f : Nat → α → Option α} {s0 : α} {k : Nat} (h : runO f s0 k = none) : ∀ e, runO f s0 (k + e) = none
  | 0 => h
  | e + 1 => by
    show (runO f s0 (k + e)).bind (f (k + e)) = none
    rw [runO_none h e]; rfl
theorem runO_some {α : Type} {f : Nat → α → Option α} {s0 : α} {n : Nat} {t : α} (h : runO f s0 n = some t) : ∀ k, k ≤ n → ∃ s, runO f s0 k = some s := by
  intro k hk
  cases hr : runO f s0 k with
  | some s => exact ⟨s, rfl⟩
  | none =>
    have := runO_none hr (n - k)
    rw [show k + (n - k) = n by omega, h] at this
    cases this
instance decQOk (q : Rat) : Decidable (QOk q) := inferInstanceAs (Decidable ((decDigits (tp q)).length ≤ 4000 ∧ (decDigits q.den).length ≤ 4000))
/-- A number, if it has not too many digits. -/
def okQ (q : Rat) : Option Rat := if QOk q then some q else none
theorem okQ_some {q t : Rat} (h : okQ q = some t) : q = t ∧ QOk q := by
  unfold okQ at h
  by_cases hq : QOk q
  · rw [if_pos hq] at h; exact ⟨Option.some.inj h, hq⟩
  · rw [if_neg hq] at h; cases h
theorem okQ_yes {q : Rat} (h : QOk q) : okQ q = some q := if_pos h
/-- What a function returns of a number, if there is one. -/
def oQ : Option Rat → ByteArray × Nat
  | some q => (qstr q, 0)
  | none => (⟨#[]⟩, 5)
theorem wQ_oQ (q : Rat) : wQ q = oQ (okQ q) := by
  unfold okQ
  by_cases h : QOk q
  · rw [if_pos h, wQ_ok h]; rfl
  · rw [if_neg h]; exact wQ_no h

end Go.Proofs.YtofanopnibbaeaaGreatDoor
