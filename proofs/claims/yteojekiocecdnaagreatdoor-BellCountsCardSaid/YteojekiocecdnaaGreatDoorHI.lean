/-
  rat's withOne and withTwo of texts. The functions that rat hands to withOne and withTwo. rat's Add, Sub, Mul, Div, Neg, Inv of numbers. rat's Pow of a number.
-/
import Derived.Test.YteojekiocecdnaaGreatDoorHA
import Derived.Test.YteojekiocecdnaaGreatDoorP16
namespace Go.Proofs.YteojekiocecdnaaGreatDoor
open Go.RowKit NV

theorem ml_keep {w w' : World} (hm : ML w) (h0 : 0 < w.heap.size) (hb : Below w.heap.size w w') : ML w' := by
  obtain ⟨m, hm⟩ := hm
  exact ⟨m, (hb.cell (p := ⟨0, 0, none⟩) h0).trans hm⟩
theorem ml_pos {w : World} (hm : ML w) : 0 < w.heap.size := by
  obtain ⟨m, hm⟩ := hm
  by_cases h : 0 < w.heap.size
  · exact h
  · have : w.heap = #[] := Array.eq_empty_of_size_eq_zero (by omega)
    simp [World.cell?, this] at hm

/-- Block b holds a text. -/
def Tx (w : World) (b : Nat) (t : ByteArray) : Prop := w.heap[b]? = some (.cells #[.string t] 22 (0, 0))
theorem Tx.keep {w w' : World} {b : Nat} {t : ByteArray} (hf : Tx w b t) (hb : Below w.heap.size w w') : Tx w' b t := (hb.block _ (Array.getElem?_eq_some_iff.1 hf).1).trans hf
theorem Tx.c0 {w : World} {b : Nat} {t : ByteArray} (hf : Tx w b t) : w.cell? ⟨b, 0, none⟩ = some (.string t) := by rw [Lib.cell_of_heap hf]; rfl

open Go.RowKit NV
open Go.Lib (decDigits)

theorem FQ.form {w : World} {v : Value} {q : Rat} (h : FQ w v q) : ∃ a1 k1 a2 k2, v = .agg #[.bool (ng q), .slice a1 (ln (tp q)) k1, .slice a2 (ln q.den) k2] := by
  obtain ⟨x, y, rfl, hx, hy⟩ := h
  obtain ⟨a1, k1, rfl⟩ := slice_any hx
  obtain ⟨a2, k2, rfl⟩ := slice_any hy
  exact ⟨a1, k1, a2, k2, rfl⟩

theorem lift_q {f : Nat} {args : Array Value} {w0 W : World} {q : Rat} (h0 : Below w0.heap.size w0 W) (hc : Calls Tryz.prog f args W fun e w' => ∃ v, e = .returned v ∧ FQ w' v q ∧ Below W.heap.size W w') :
    Calls Tryz.prog f args W fun e w' => ∃ v, e = .returned v ∧ FQ w' v q ∧ Below W.heap.size W w' ∧ Below w0.heap.size w0 w' :=
  hc.mono fun _ _ ⟨v, h1, h2, h3⟩ => ⟨v, h1, h2, h3, h0.trans (h3.mono h0.size)⟩

/-- What the functions return of a number. -/
def RQ (q : Rat) (w : World) (e : Ending) (w' : World) : Prop := e = .returned (.tuple #[.string (wQ q).1, .int .i64 ((wQ q).2 : Int)]) ∧ Below w.heap.size w w'

open Go.RowKit NV
open Go.Lib (decDigits)

theorem fq_of {w : World} {v : Value} {q : Rat} (h : FNum w v (minusB (numS (qstr q))) (dv (restS (numS (qstr q))).data.toList) (dv (denS (qstr q)).data.toList)) : FQ w v q := by
  obtain ⟨_, _, h1, _, h2, h3⟩ := qstr_parts q
  exact fnum_of h h1.symm h2.symm h3.symm

theorem qsmall {q : Rat} (h : QOk q) : (qstr q).size ≤ 1000000 := Nat.le_trans (qstr_size h) (by omega)

theorem one_ok' : QOk 1 := ⟨one_ok, one_ok⟩
theorem zero_ok' : QOk 0 := ⟨zero_ok, one_ok⟩
theorem dstr_one : dstr 1 = ⟨#[49]⟩ := by rw [dstr, dec_one]
theorem dstr_zero : dstr 0 = ⟨#[48]⟩ := by rw [dstr, dec_small (by omega)]; rfl
theorem qstr_one : qstr 1 = ⟨#[49]⟩ := by
  unfold qstr rstr
  rw [show (1 : Rat).den = 1 from rfl, show ng 1 = false from rfl, show tp 1 = 1 from rfl, if_pos rfl, if_neg (by simp), dstr_one]
theorem qstr_zero : qstr 0 = ⟨#[48]⟩ := by
  unfold qstr rstr
  rw [show (0 : Rat).den = 1 from rfl, show ng 0 = false from rfl, show tp 0 = 0 from rfl, if_pos rfl, if_neg (by simp), dstr_zero]

open Go.RowKit NV
open Go.Lib (decDigits)

/-- Block b holds an int. -/
def Iv (w : World) (b : Nat) (n : Int) : Prop := w.heap[b]? = some (.cells #[.int .i64 n] 3 (0, 0))
theorem Iv.keep {w w' : World} {b : Nat} {n : Int} (hf : Iv w b n) (hb : Below w.heap.size w w') : Iv w' b n := (hb.block _ (Array.getElem?_eq_some_iff.1 hf).1).trans hf
theorem Iv.c0 {w : World} {b : Nat} {n : Int} (hf : Iv w b n) : w.cell? ⟨b, 0, none⟩ = some (.int .i64 n) := by rw [Lib.cell_of_heap hf]; rfl

theorem pow_fits {q : Rat} {k : Nat} : (fitB (tp q ^ k) && fitB (q.den ^ k)) = true ↔ QOk (q ^ k) := by
  obtain ⟨h1, h2, _⟩ := pow_parts q k
  unfold QOk
  rw [h1, h2, Bool.and_eq_true, fitB_iff, fitB_iff]

theorem wQ_no {q : Rat} (h : ¬ QOk q) : wQ q = (⟨#[]⟩, 5) := if_neg h

/-- The tail of Pow's function: the power, and its text. -/
theorem pow_num {w : World} {q : Rat} {k : Nat} {m : Bool} {v u : Value} (h : QOk (q ^ k)) (hh : Ok (tp q ^ k) → Ok (q.den ^ k) → m = (ng q && decide (k % 2 = 1)) ∧ Num w v (tp q ^ k) ∧ Num w u (q.den ^ k)) :
    FQ w (.agg #[.bool m, v, u]) (q ^ k) := by
  obtain ⟨h1, h2, h3⟩ := pow_parts q k
  have h' := h
  unfold QOk at h'
  rw [h1, h2] at h'
  obtain ⟨e1, e2, e3⟩ := hh h'.1 h'.2
  exact fnum_of ⟨_, _, rfl, e2, e3⟩ (h3.trans e1.symm) h1 h2

theorem wrap_neg {k : Nat} (h1 : 0 < k) (h2 : k ≤ 9223372036854775808) : ∃ t : Int, IntKind.u64.wrap (-(k : Int)) = t ∧ IntKind.u64.wrap (-t) = (k : Int) := by
  refine ⟨18446744073709551616 - (k : Int), ?_, ?_⟩
  · simp [IntKind.wrap, IntKind.signed, IntKind.bits]; omega
  · simp [IntKind.wrap, IntKind.signed, IntKind.bits]; omega

end Go.Proofs.YteojekiocecdnaaGreatDoor
