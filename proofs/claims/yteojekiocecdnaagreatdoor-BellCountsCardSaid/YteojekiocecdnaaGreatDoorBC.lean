/-
  Cell; Same of lists of bit strings; lives of layer 3. lives of layer 3; All of other numbers.
-/
import Derived.Test.YteojekiocecdnaaGreatDoorBB
import Derived.Test.YteojekiocecdnaaGreatDoorHL
import Derived.Deep.QuietTactic
import Derived.BigQuiet
namespace Go.Proofs.YteojekiocecdnaaGreatDoor
open Go.RowKit NV
open Go.Lib (decDigits)

theorem Ok.le {a b : Nat} (h : Ok b) (hab : a ≤ b) : Ok a := h.mono hab
theorem qok_mk {m : Bool} {k d : Nat} (hk : Ok k) (hd : Ok d) (h0 : d ≠ 0) : QOk (mkQ m k d) := by
  obtain ⟨h1, h2, _⟩ := red_parts m k h0
  exact ⟨by rw [h1]; exact hk.le (Nat.div_le_self _ _), by rw [h2]; exact hd.le (Nat.div_le_self _ _)⟩

/-- The fraction k / 2^n. -/
def cQ (k n : Nat) : Rat := mkQ false k (2 ^ n)
theorem cQ_ok {k n : Nat} (hn : n ≤ 256) (hk : k ≤ 2 ^ n) : QOk (cQ k n) :=
  qok_mk (ok_two (n := n) (by omega) hk) (ok_two (n := n) (by omega) (Nat.le_refl _)) (Nat.pos_iff_ne_zero.1 (Nat.pow_pos (by omega)))

theorem makeC {k n : Nat} (hn : n ≤ 256) (hk : k ≤ 2 ^ n) (w : World) (htab : Tab w) :
    Calls Tryz.prog 97 #[.string (dstr k), .string (dstr (2 ^ n))] w fun e w' => e = .returned (.tuple #[.string (qstr (cQ k n)), .int .i64 0]) ∧ Below w.heap.size w w' :=
  rq_done (r := cQ k n) (Make_q (m := false) (ok_two (n := n) (by omega) hk) (ok_two (n := n) (by omega) (Nat.le_refl _)) (Nat.pos_iff_ne_zero.1 (Nat.pow_pos (by omega))) (by simp) w htab) rfl (cQ_ok hn hk)

open Go.RowKit NV
open Go.Lib (decDigits)

def q58 : Rat := ⟨5, 8, by decide, by decide⟩
def q18 : Rat := ⟨1, 8, by decide, by decide⟩
theorem s58 : qstr q58 = ⟨#[53, 47, 56]⟩ := (frac_str false 5 8 (by omega) (by omega) (by omega)).trans rfl
theorem s18 : qstr q18 = ⟨#[49, 47, 56]⟩ := (frac_str false 1 8 (by omega) (by omega) (by omega)).trans rfl
theorem c58 : cQ 5 3 = q58 := by decide +kernel
theorem c18 : cQ 1 3 = q18 := by decide +kernel

theorem bits101 : IsBits (⟨#[49, 48, 49]⟩ : ByteArray).data.toList := by
  intro c hc
  simp at hc
  rcases hc with rfl | rfl | rfl <;> simp

theorem lit4 (w : World) : SArr (w.alloc (.cells #[.string ⟨#[48, 48]⟩, .string ⟨#[48, 49]⟩, .string ⟨#[49, 48]⟩, .string ⟨#[49, 49]⟩] 23)) w.heap.size 4 (fun j => wstr j 2) := by
  refine ⟨_, heap_alloc_new w _, rfl, fun j hj => ?_⟩
  match j, hj with
  | 0, _ => rfl
  | 1, _ => rfl
  | 2, _ => rfl
  | 3, _ => rfl

end Go.Proofs.YteojekiocecdnaaGreatDoor
