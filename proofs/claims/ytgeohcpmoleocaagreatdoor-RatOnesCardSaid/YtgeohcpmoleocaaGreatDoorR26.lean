/-
  RatPairs returns true for any two texts.
-/
import Derived.Test.YtgeohcpmoleocaaGreatDoorHE
namespace Go.Proofs.YtgeohcpmoleocaaGreatDoor
open Go.RowKit NV
open Go.Lib (decDigits)

theorem both_plain {F G : Nat} {args : Array Value} (h : ∃ T : ByteArray × Nat, (∀ w, Tab w → ML w → Calls Tryz.prog F args w (PR T w)) ∧ (∀ w, Calls Tryz.prog G args w (PR T w))) :
    ∃ (a : ByteArray) (c : Int), (∀ w, Tab w → ML w → Calls Tryz.prog F args w fun e w' => e = .returned (.tuple #[.string a, .int .i64 c]) ∧ Below w.heap.size w w') ∧ (∀ w, Calls Tryz.prog G args w fun e w' => e = .returned (.tuple #[.string a, .int .i64 c]) ∧ Below w.heap.size w w') := by
  obtain ⟨T, h1, h2⟩ := h
  exact ⟨T.1, (T.2 : Int), h1, h2⟩

theorem allL_sizes {d : Nat} {s t : ByteArray} (h : allL d [s, t] = true) : s.size ≤ d ∧ t.size ≤ d := by
  unfold allL at h
  rw [List.all_eq_true] at h
  exact ⟨by simpa using h s (by simp), by simpa using h t (by simp)⟩

end Go.Proofs.YtgeohcpmoleocaaGreatDoor
