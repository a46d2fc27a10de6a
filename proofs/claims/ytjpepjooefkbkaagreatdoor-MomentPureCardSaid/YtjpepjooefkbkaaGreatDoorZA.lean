/-
  Mathematics of distributions of rational numbers: sums, sets, runs that stop at the first error. Lists of masses in memory, and what Check says of them. Package dist: checkNotNegative, fold, checkSum, Check. Masses in a map, told as a list sorted by keys. Package dist: masses by their keys; collect. Package dist: checkSum, Check, collect, Make. The reference of layer 8: find, At, Check.
-/
import Derived.Test.YtjpepjooefkbkaaGreatDoorHL
import Derived.Test.YtjpepjooefkbkaaGreatDoorHE
import Derived.Sort.Walk0
import Derived.Deep.AppendLies
import Derived.Test.YtjpepjooefkbkaaGreatDoorHF
import Derived.Test.YtjpepjooefkbkaaGreatDoorB1
import Derived.BigQuiet
import Derived.Deep.QuietTactic
import Derived.Maps.Views
import Derived.Maps.OwnSet
import Derived.Maps.StringElems
import Derived.Sort.KeysCollected
import Derived.Sort.OwnSorted
import Derived.Test.YtjpepjooefkbkaaGreatDoorProg
import Derived.Test.YtjpepjooefkbkaaGreatDoorHH
import Derived.Test.YtjpepjooefkbkaaGreatDoorHI
namespace Go.Proofs.YtjpepjooefkbkaaGreatDoor
section
open Go.RowKit NV
open Go.Lib (decDigits)
def sm (g : Nat → Rat) : Nat → Rat
 | 0 => 0
 | k + 1 => sm g k + g k
theorem sm_le {g h : Nat → Rat} : ∀ {n : Nat}, (∀ i, i < n → g i ≤ h i) → sm g n ≤ sm h n
 | 0, _ => Rat.le_refl
 | n + 1, H => by
  have h1 := sm_le (n := n) (fun i hi => H i (by omega))
  have h2 := H n (by omega)
  show sm g n + g n ≤ sm h n + h n
  grind
theorem sm_eq {g h : Nat → Rat} : ∀ {n : Nat}, (∀ i, i < n → g i = h i) → sm g n = sm h n
 | 0, _ => rfl
 | n + 1, H => by
  show sm g n + g n = sm h n + h n
  rw [sm_eq (n := n) (fun i hi => H i (by omega)), H n (by omega)]
theorem sm_add {g h : Nat → Rat} : ∀ {n : Nat}, sm (fun i => g i + h i) n = sm g n + sm h n
 | 0 => by show (0 : Rat) = 0 + 0; grind
 | n + 1 => by
  have := sm_add (g := g) (h := h) (n := n)
  show sm (fun i => g i + h i) n + (g n + h n) = (sm g n + g n) + (sm h n + h n)
  grind
theorem sm_mul {f : Rat} {g : Nat → Rat} : ∀ {n : Nat}, sm (fun i => f * g i) n = f * sm g n
 | 0 => by show (0 : Rat) = f * 0; grind
 | n + 1 => by
  have := sm_mul (f := f) (g := g) (n := n)
  show sm (fun i => f * g i) n + f * g n = f * (sm g n + g n)
  grind
theorem sm_zero : ∀ {n : Nat}, sm (fun _ => 0) n = 0
 | 0 => rfl
 | n + 1 => by
  have := sm_zero (n := n)
  show sm (fun _ => 0) n + 0 = 0
  grind
theorem sm_nonneg {g : Nat → Rat} {n : Nat} (h : ∀ i, i < n → 0 ≤ g i) : 0 ≤ sm g n := by
 have := sm_le (g := fun _ => 0) h
 rw [sm_zero] at this
 exact this
def mx0 (q : Rat) : Rat := if 0 < q then q else 0
theorem mx0_nonneg (q : Rat) : 0 ≤ mx0 q := by unfold mx0; grind
def fstE (f : Nat → Nat) : Nat → Nat
 | 0 => 0
 | n + 1 => if fstE f n ≠ 0 then fstE f n else f n
theorem fstE_step {f : Nat → Nat} {k : Nat} (h : fstE f k = 0) : fstE f (k + 1) = f k := by
 show (if fstE f k ≠ 0 then fstE f k else f k) = f k
 rw [if_neg (by omega)]
theorem fstE_up {f : Nat → Nat} {k : Nat} (h : fstE f k ≠ 0) : ∀ e, fstE f (k + e) = fstE f k
 | 0 => rfl
 | e + 1 => by
  have ih := fstE_up h e
  show (if fstE f (k + e) ≠ 0 then fstE f (k + e) else f (k + e)) = _
  rw [ih, if_pos h]
theorem fstE_at {f : Nat → Nat} {k n : Nat} (h : fstE f k = 0) (h1 : f k ≠ 0) (hk : k < n) : fstE f n = f k := by
 have h2 := fstE_step h
 have h3 := fstE_up (f := f) (k := k + 1) (by rw [h2]; exact h1) (n - (k + 1))
 rw [show k + 1 + (n - (k + 1)) = n by omega, h2] at h3
 exact h3
theorem fstE_all {f : Nat → Nat} : ∀ {n : Nat}, fstE f n = 0 → ∀ k, k < n → f k = 0
 | 0, _, k, hk => absurd hk (Nat.not_lt_zero _)
 | n + 1, h, k, hk => by
  have h' : (if fstE f n ≠ 0 then fstE f n else f n) = 0 := h
  by_cases h0 : fstE f n = 0
  ·rw [if_neg (by omega)] at h'
   rcases Nat.lt_or_ge k n with h1 | h1
   ·exact fstE_all h0 k h1
   ·obtain rfl : k = n := by omega
    exact h'
  ·rw [if_pos h0] at h'; exact absurd h' h0
theorem fstE_zero {f : Nat → Nat} : ∀ {n : Nat}, (∀ k, k < n → f k = 0) → fstE f n = 0
 | 0, _ => rfl
 | n + 1, h => by rw [fstE_step (fstE_zero (n := n) (fun k hk => h k (by omega)))]; exact h n (by omega)
def runO {α : Type} (f : Nat → α → Option α) (s0 : α) : Nat → Option α
 | 0 => some s0
 | k + 1 => (runO f s0 k).bind (f k)
theorem runO_step {α : Type} {f : Nat → α → Option α} {s0 s : α} {k : Nat} (h : runO f s0 k = some s) : runO f s0 (k + 1) = f k s := by
 show (runO f s0 k).bind (f k) = _
 rw [h]; rfl
theorem runO_none {α : Type} {f : Nat → α → Option α} {s0 : α} {k : Nat} (h : runO f s0 k = none) : ∀ e, runO f s0 (k + e) = none
 | 0 => h
 | e + 1 => by
  show (runO f s0 (k + e)).bind (f (k + e)) = none
  rw [runO_none h e]; rfl
theorem runO_fail {α : Type} {f : Nat → α → Option α} {s0 s : α} {k n : Nat} (h : runO f s0 k = some s) (hf : f k s = none) (hk : k < n) : runO f s0 n = none := by
 have h2 := runO_none (f := f) (s0 := s0) (k := k + 1) (by rw [runO_step h]; exact hf) (n - (k + 1))
 rw [show k + 1 + (n - (k + 1)) = n by omega] at h2
 exact h2
theorem runO_some {α : Type} {f : Nat → α → Option α} {s0 : α} {n : Nat} {t : α} (h : runO f s0 n = some t) : ∀ k, k ≤ n → ∃ s, runO f s0 k = some s := by
 intro k hk
 cases hr : runO f s0 k with
 | some s => exact ⟨s, rfl⟩
 | none =>
  have := runO_none hr (n - k)
  rw [show k + (n - k) = n by omega, h] at this
  cases this
theorem runO_sm {g : Nat → Rat} {f : Nat → Rat → Option Rat} {n : Nat} (h : ∀ k, k < n → f k (sm g k) = some (sm g k + g k)) : runO f 0 n = some (sm g n) := by
 induction n with
 | zero => rfl
 | succ n ih => rw [runO_step (ih (fun k hk => h k (by omega))), h n (by omega)]; rfl
instance decQOk (q : Rat) : Decidable (QOk q) := inferInstanceAs (Decidable ((decDigits (tp q)).length ≤ 4000 ∧ (decDigits q.den).length ≤ 4000))
def okQ (q : Rat) : Option Rat := if QOk q then some q else none
theorem okQ_some {q t : Rat} (h : okQ q = some t) : q = t ∧ QOk q := by
 unfold okQ at h
 by_cases hq : QOk q
 ·rw [if_pos hq] at h; exact ⟨Option.some.inj h, hq⟩
 ·rw [if_neg hq] at h; cases h
theorem okQ_yes {q : Rat} (h : QOk q) : okQ q = some q := if_pos h
def oQ : Option Rat → ByteArray × Nat
 | some q => (qstr q, 0)
 | none => (⟨#[]⟩, 5)
theorem wQ_oQ (q : Rat) : wQ q = oQ (okQ q) := by
 unfold okQ
 by_cases h : QOk q
 ·rw [if_pos h, wQ_ok h]; rfl
 ·rw [if_neg h]; exact wQ_no h
end

section
open Go.RowKit NV
open Go.Lib (decDigits)
abbrev MI := ByteArray × ByteArray
abbrev kZ (x : MI) : List UInt8 := x.1.data.toList
theorem ba_extZ {a b : ByteArray} (h : a.data.toList = b.data.toList) : a = b := ByteArray.ext (Array.toList_inj.1 h)
theorem errneZ {c : Nat} (h : c ≠ 0) : (((c : Nat) : Int) != 0) = true := by rw [bne_iff_ne]; omega
theorem addZ_block (a : Addr) (j : Nat) : (a.add j).block = a.block := by unfold Addr.add; split <;> rfl
def cellsZ (l : List MI) : List Value := l.flatMap (fun m => [.string m.1, .string m.2])
theorem cellsZ_app (l m : List MI) : cellsZ (l ++ m) = cellsZ l ++ cellsZ m := by unfold cellsZ; rw [List.flatMap_append]
theorem cellsZ_get : ∀ (l : List MI) (k : Nat) (m : MI), l[k]? = some m → (cellsZ l)[k * 2]? = some (.string m.1) ∧ (cellsZ l)[k * 2 + 1]? = some (.string m.2)
 | [], k, m, h => by simp at h
 | a :: l, 0, m, h => by
  have e : cellsZ (a :: l) = [.string a.1, .string a.2] ++ cellsZ l := by unfold cellsZ; rw [List.flatMap_cons]
  obtain rfl : a = m := by simpa using h
  rw [e]; exact ⟨rfl, rfl⟩
 | a :: l, k + 1, m, h => by
  have e : cellsZ (a :: l) = [.string a.1, .string a.2] ++ cellsZ l := by unfold cellsZ; rw [List.flatMap_cons]
  have h2 := cellsZ_get l k m (by simpa using h)
  rw [e, Nat.succ_mul]
  exact h2
theorem infoZ : (Tryz.prog.info? 41).map (fun i => (i.zero, i.size, i.bytes)) = some (some (.agg #[.string ⟨#[]⟩, .string ⟨#[]⟩]), 2, 32) := by kernel_rfl
def MR (w : World) (ao : Option Addr) (N : Nat) (L : List MI) : Prop :=
 L.length = N ∧ (N = 0 ∨ ∃ a, ao = some a ∧ a.block < w.heap.size ∧ ∀ j x, L[j]? = some x → w.cell? (a.add (j * 2)) = some (.string x.1) ∧ w.cell? ⟨(a.add (j * 2)).block, (a.add (j * 2)).off + 1, none⟩ = some (.string x.2))
theorem MR.len {w : World} {ao : Option Addr} {N : Nat} {L : List MI} (h : MR w ao N L) : L.length = N := h.1
theorem MR.below {w w' : World} {ao : Option Addr} {N : Nat} {L : List MI} (h : MR w ao N L) (hb : Below w.heap.size w w') : MR w' ao N L := by
 refine ⟨h.1, ?_⟩
 rcases h.2 with h2 | ⟨a, h1, h2, h3⟩
 ·exact .inl h2
 ·exact .inr ⟨a, h1, Nat.lt_of_lt_of_le h2 hb.size, fun j x hx => ⟨(hb.cell (p := a.add (j * 2)) (by rw [addZ_block]; exact h2)).trans (h3 j x hx).1, (hb.cell (p := ⟨(a.add (j * 2)).block, (a.add (j * 2)).off + 1, none⟩) (by show (a.add (j * 2)).block < _; rw [addZ_block]; exact h2)).trans (h3 j x hx).2⟩⟩
theorem MR.form {w : World} {ao : Option Addr} {N : Nat} {L : List MI} (h : MR w ao N L) (h0 : N ≠ 0) : ∃ a, ao = some a ∧ a.block < w.heap.size ∧ ∀ j x, L[j]? = some x → w.cell? (a.add (j * 2)) = some (.string x.1) ∧ w.cell? ⟨(a.add (j * 2)).block, (a.add (j * 2)).off + 1, none⟩ = some (.string x.2) := by
 rcases h.2 with h2 | h2
 ·exact absurd h2 h0
 ·exact h2
theorem MR.at {w : World} {ao : Option Addr} {N k : Nat} {L : List MI} (h : MR w ao N L) (hk : k < N) : ∃ a x, ao = some a ∧ L[k]? = some x ∧ a.block < w.heap.size ∧ w.cell? (a.add (k * 2)) = some (.string x.1) ∧ w.cell? ⟨(a.add (k * 2)).block, (a.add (k * 2)).off + 1, none⟩ = some (.string x.2) := by
 obtain ⟨a, h1, h2, h3⟩ := h.form (by omega)
 have hx : L[k]? = some (L[k]'(by rw [h.1]; exact hk)) := List.getElem?_eq_getElem _
 exact ⟨a, _, h1, hx, h2, (h3 k _ hx).1, (h3 k _ hx).2⟩
theorem MR.nil {w : World} {ao : Option Addr} : MR w ao 0 [] := ⟨rfl, .inl rfl⟩
theorem MR.own {w : World} {base N : Nat} {v : Value} {L : List MI} (h : w.ownsRow base 41 2 v N (cellsZ L)) (hl : L.length = N) : ∃ ao cap, v = .slice ao N cap ∧ MR w ao N L := by
 rcases h.2 with ⟨hv, h0⟩ | ⟨g, cap, cur, hv, hg, hh, _⟩
 ·exact ⟨_, _, by rw [h0]; exact hv, hl, .inl h0⟩
 ·refine ⟨_, _, hv, hl, .inr ⟨_, rfl, (Array.getElem?_eq_some_iff.1 hh).1, fun j x hx => ?_⟩⟩
  obtain ⟨h1, h2⟩ := cellsZ_get L j x hx
  subst hv
  have a := h.cells (g := g) rfl (j * 2) _ h1
  have b := h.cells (g := g) rfl (j * 2 + 1) _ h2
  rw [Addr.add_lit, Nat.zero_add] at a b
  refine ⟨by rw [Addr.add_lit, Nat.zero_add]; exact a, ?_⟩
  rw [Addr.add_lit, Nat.zero_add]; exact b
theorem rowM_below {w w' : World} {base n sz : Nat} {v : Value} {xs : List Value} {e : TypeId} (h : w.ownsRow base e sz v n xs) (hb : Below w.heap.size w w') : w'.ownsRow base e sz v n xs :=
 h.kept (row := none) ⟨hb.os, hb.tape, hb.output, hb.size, fun k hk _ => hb.block k hk⟩ (Classical.em _)
theorem rowM_base {w : World} {base base' n sz : Nat} {v : Value} {xs : List Value} {e : TypeId} (h : w.ownsRow base e sz v n xs) (hb : base' ≤ base) : w.ownsRow base' e sz v n xs := by
 refine ⟨h.1, ?_⟩
 rcases h.2 with hn | ⟨g, cap, cur, hv, hg, rest⟩
 ·exact .inl hn
 ·exact .inr ⟨g, cap, cur, hv, Nat.le_trans hb hg, rest⟩
theorem rowM_shape {w : World} {base n sz : Nat} {v : Value} {xs : List Value} {e : TypeId} (h : w.ownsRow base e sz v n xs) : ∃ ao c, v = .slice ao n c ∧ (n ≠ 0 → ∃ g, ao = some ⟨g, 0, none⟩ ∧ base ≤ g ∧ g < w.heap.size) := by
 rcases h.2 with ⟨hv, h0⟩ | ⟨g, cap, cur, hv, hg, hh, _⟩
 ·exact ⟨_, _, by rw [h0]; exact hv, fun h => absurd h0 h⟩
 ·exact ⟨_, _, hv, fun _ => ⟨g, rfl, hg, (Array.getElem?_eq_some_iff.1 hh).1⟩⟩
def ML2 (L : List MI) : Prop := ∀ x, x ∈ L → x.1.size ≤ 1000000 ∧ x.2.size ≤ 1000000
def ratS (s : ByteArray) : Rat := mkQ (minusB (numS s)) (dv (restS (numS s)).data.toList) (dv (denS s).data.toList)
theorem ratS_q (q : Rat) : ratS (qstr q) = q := by
 obtain ⟨_, _, h3, _, h5, h6⟩ := qstr_parts q
 unfold ratS
 rw [h3, h5, h6, mkQ_self]
theorem ratS_ok {s : ByteArray} (h : rchk s = 0) : s = qstr (ratS s) ∧ QOk (ratS s) := by
 obtain ⟨q, rfl, ho⟩ := rchk_rat h
 rw [ratS_q]; exact ⟨rfl, ho⟩
def getZ (L : List MI) (k : Nat) : MI := L.getD k (⟨#[]⟩, ⟨#[]⟩)
theorem getZ_of {L : List MI} {k : Nat} {x : MI} (h : L[k]? = some x) : getZ L k = x := by unfold getZ; rw [List.getD_eq_getElem?_getD, h]; rfl
def qZ (L : List MI) (k : Nat) : Rat := ratS (getZ L k).2
def eC (L : List MI) (k : Nat) : Nat :=
 if rchk (getZ L k).2 ≠ 0 then rchk (getZ L k).2 else if sgnQ (qZ L k) ≤ 0 then 2 else if k ≠ 0 ∧ kZ (getZ L k) ≤ kZ (getZ L (k - 1)) then 9 else 0
def eS (s : ByteArray) : Nat := if rchk s ≠ 0 then rchk s else if sgnQ (ratS s) < 0 then 2 else 0
def eN (L : List MI) (k : Nat) : Nat := eS (getZ L k).2
def addS (g : Nat → Rat) (k : Nat) (s : Rat) : Option Rat := okQ (s + g k)
def sumE (g : Nat → Rat) (n : Nat) : Nat :=
 match runO (addS g) 0 n with
 | none => 5
 | some s => if s = 1 then 0 else 15
def chkZ (L : List MI) : Nat := if fstE (eC L) L.length ≠ 0 then fstE (eC L) L.length else sumE (qZ L) L.length
end

section
open Go.RowKit NV
open Go.Lib (decDigits)
def sE (s : ByteArray) : Int := if rchk s = 0 then sgnQ (ratS s) else 0
theorem rSign_any (s : ByteArray) (hs : s.size ≤ 140737488351232) (w : World) :
  Calls Tryz.prog 45 #[.string s] w fun e w' => e = .returned (.tuple #[.int .i64 (sE s), .int .i64 ((rchk s : Nat) : Int)]) ∧ Below w.heap.size w w' := by
 by_cases h0 : rchk s = 0
 ·unfold sE
  rw [if_pos h0, h0]
  obtain ⟨h1, h2⟩ := ratS_ok h0
  have h := rSign_q w h2
  rw [← h1] at h
  exact h
 ·unfold sE
  rw [if_neg h0]
  exact rSign_err1 w hs rfl h0
theorem eS_is (s : ByteArray) : eS s = if rchk s ≠ 0 then rchk s else if sE s < 0 then 2 else 0 := by
 unfold eS sE
 by_cases h0 : rchk s = 0
 ·rw [if_pos h0]
 ·rw [if_pos h0, if_pos h0]
theorem Ch.at {S : Nat → Prop} {w w' : World} (h : Ch S w w') {a : Addr} (hl : a.block < w.heap.size) (hb : ¬ S a.block) : w'.cell? a = w.cell? a := by
 unfold World.cell?
 rw [h.block _ hl hb]
theorem MR.ch {S : Nat → Prop} {w w' : World} {ao : Option Addr} {N : Nat} {L : List MI} (h : MR w ao N L) (hc : Ch S w w') (hS : ∀ a, ao = some a → N ≠ 0 → ¬ S a.block) : MR w' ao N L := by
 refine ⟨h.1, ?_⟩
 rcases h.2 with h2 | ⟨a, h1, h2, h3⟩
 ·exact .inl h2
 ·by_cases h0 : N = 0
  ·exact .inl h0
  have hb := hS a h1 h0
  exact .inr ⟨a, h1, Nat.lt_of_lt_of_le h2 hc.size, fun j x hx => ⟨(hc.at (a := a.add (j * 2)) (by rw [addZ_block]; exact h2) (by rw [addZ_block]; exact hb)).trans (h3 j x hx).1, (hc.at (a := ⟨(a.add (j * 2)).block, (a.add (j * 2)).off + 1, none⟩) (by show (a.add (j * 2)).block < _; rw [addZ_block]; exact h2) (by show ¬ S (a.add (j * 2)).block; rw [addZ_block]; exact hb)).trans (h3 j x hx).2⟩⟩
end

section
open Go.RowKit NV Go.Maps Go.Sort
open Go.Lib (decDigits)
def setZ (k t : ByteArray) : List MI → List MI
 | [] => [(k, t)]
 | y :: r => if k.data.toList < kZ y then (k, t) :: y :: r else if k.data.toList = kZ y then (k, t) :: r else y :: setZ k t r
abbrev SrtZ (S : List MI) : Prop := S.Pairwise (fun a b => kZ a < kZ b)
def encZ (S : List MI) : List (Lit × DataW Unit) := S.map fun x => (.string (kZ x), .lit (.string x.2.data.toList))
def mapZ (S : List MI) : DataW Unit := .map (encZ S)
theorem set_mem {k t : ByteArray} : ∀ {S : List MI} {x : MI}, x ∈ setZ k t S → x = (k, t) ∨ x ∈ S
 | [], x, h => .inl (by simpa [setZ] using h)
 | y :: r, x, h => by
  unfold setZ at h
  split at h
  ·rcases List.mem_cons.1 h with h | h
   ·exact .inl h
   ·exact .inr h
  ·split at h
   ·rcases List.mem_cons.1 h with h | h
    ·exact .inl h
    ·exact .inr (List.mem_cons_of_mem _ h)
   ·rcases List.mem_cons.1 h with rfl | h
    ·exact .inr (List.mem_cons_self ..)
    ·rcases set_mem h with h | h
     ·exact .inl h
     ·exact .inr (List.mem_cons_of_mem _ h)
theorem set_srt {k t : ByteArray} : ∀ {S : List MI}, SrtZ S → SrtZ (setZ k t S)
 | [], _ => List.pairwise_singleton _ _
 | y :: r, h => by
  have h1 := List.pairwise_cons.1 h
  unfold setZ
  by_cases hk : k.data.toList < kZ y
  ·rw [if_pos hk]
   refine List.pairwise_cons.2 ⟨fun x hx => ?_, h⟩
   rcases List.mem_cons.1 hx with rfl | hx
   ·exact hk
   ·exact List.lt_trans hk (h1.1 x hx)
  ·rw [if_neg hk]
   by_cases he : k.data.toList = kZ y
   ·rw [if_pos he]
    exact List.pairwise_cons.2 ⟨fun x hx => by show k.data.toList < kZ x; rw [he]; exact h1.1 x hx, h1.2⟩
   ·rw [if_neg he]
    refine List.pairwise_cons.2 ⟨fun x hx => ?_, set_srt h1.2⟩
    rcases set_mem hx with rfl | hx
    ·exact (List.le_iff_lt_or_eq.1 (List.not_lt.1 hk)).resolve_right (fun e => he e.symm)
    ·exact h1.1 x hx
theorem set_len (k t : ByteArray) : ∀ S : List MI, (setZ k t S).length ≤ S.length + 1
 | [] => Nat.le_refl _
 | y :: r => by
  unfold setZ
  have := set_len k t r
  split
  ·simp
  ·split
   ·simp
   ·simp; exact this
def valZ (k : List UInt8) : List MI → ByteArray
 | [] => ⟨#[48]⟩
 | x :: L => if kZ x = k then x.2 else valZ k L
def hasZ (k : List UInt8) (L : List MI) : Bool := L.any fun x => decide (kZ x = k)
theorem val_mem {k : List UInt8} : ∀ {L : List MI}, hasZ k L = true → ∃ x, x ∈ L ∧ kZ x = k ∧ valZ k L = x.2
 | [], h => by simp [hasZ] at h
 | y :: L, h => by
  unfold valZ
  by_cases hy : kZ y = k
  ·rw [if_pos hy]; exact ⟨y, List.mem_cons_self .., hy, rfl⟩
  ·rw [if_neg hy]
   have h2 : hasZ k L = true := by unfold hasZ at h ⊢; rw [List.any_cons, decide_eq_false hy, Bool.false_or] at h; exact h
   obtain ⟨x, h3, h4, h5⟩ := val_mem h2
   exact ⟨x, List.mem_cons_of_mem _ h3, h4, h5⟩
theorem val_no {k : List UInt8} : ∀ {L : List MI}, hasZ k L = false → valZ k L = ⟨#[48]⟩
 | [], _ => rfl
 | y :: L, h => by
  unfold hasZ at h
  rw [List.any_cons, Bool.or_eq_false_iff] at h
  unfold valZ
  rw [if_neg (of_decide_eq_false h.1)]
  exact val_no h.2
theorem Ch.grownZ {S : Nat → Prop} {w w' : World} {row : Option Nat} (hg : w.grownBy w' row) (hr : ∀ r, row = some r → S r) : Ch S w w' :=
 ⟨hg.os, hg.tape, hg.output, hg.size, fun j hj hs => hg.block j hj (fun e => hs (hr j e.symm))⟩
def MapZ (w : World) (b n : Nat) (S : List MI) : Prop := w.ownsMap Tryz.prog 9 (plainElem (H := Unit) Tryz.prog 23) b n (mapZ S)
theorem MapZ.lt {w : World} {b n : Nat} {S : List MI} (h : MapZ w b n S) : b < w.heap.size := World.ownsMap.lt h
theorem MapZ.keep {w w' : World} {b n : Nat} {S : List MI} (h : MapZ w b n S) (hb : w'.heap[b]? = w.heap[b]?) : MapZ w' b n S := by
 obtain ⟨es, clock, h1, h2, h3, h4⟩ := h
 exact ⟨es, clock, hb.trans h1, h2, h3, h4⟩
theorem MapZ.below {w w' : World} {b n : Nat} {S : List MI} (h : MapZ w b n S) (hb : Below w.heap.size w w') : MapZ w' b n S := h.keep (hb.block b h.lt)
theorem MapZ.mono {w : World} {b n n' : Nat} {S : List MI} (h : MapZ w b n S) (hn : n ≤ n') : MapZ w b n' S := World.ownsMap.mono h hn
theorem MapZ.made (w : World) : MapZ (w.alloc (.map #[] 0)) w.heap.size 0 [] := World.ownsMap_made _ _ _ _
end

section
open Go.RowKit NV Go.Maps Go.Sort Go.Shelf
open Go.Lib (decDigits)
abbrev QI := ByteArray × Rat
abbrev kQ (x : QI) : List UInt8 := x.1.data.toList
def tZ (S : List QI) : List MI := S.map fun x => (x.1, qstr x.2)
def lookQ (k : List UInt8) : List QI → Rat
 | [] => 0
 | x :: L => if kQ x = k then x.2 else lookQ k L
def setQ (k : ByteArray) (r : Rat) : List QI → List QI
 | [] => [(k, r)]
 | y :: S => if k.data.toList < kQ y then (k, r) :: y :: S else if k.data.toList = kQ y then (k, r) :: S else y :: setQ k r S
theorem q0Z : qstr 0 = ⟨#[48]⟩ := by
 have h : qstr 0 = dstr 0 := by
  show rstr false 0 1 = _
  rw [rstr_eq, if_pos rfl]; rfl
 rw [h, digit_str (by omega)]; rfl
theorem set_t (k : ByteArray) (r : Rat) : ∀ S : List QI, setZ k (qstr r) (tZ S) = tZ (setQ k r S)
 | [] => rfl
 | y :: S => by
  show (if k.data.toList < kQ y then (k, qstr r) :: (y.1, qstr y.2) :: tZ S else if k.data.toList = kQ y then (k, qstr r) :: tZ S else (y.1, qstr y.2) :: setZ k (qstr r) (tZ S)) = tZ (setQ k r (y :: S))
  unfold setQ
  by_cases h1 : k.data.toList < kQ y
  ·rw [if_pos h1, if_pos h1]; rfl
  ·rw [if_neg h1, if_neg h1]
   by_cases h2 : k.data.toList = kQ y
   ·rw [if_pos h2, if_pos h2]; rfl
   ·rw [if_neg h2, if_neg h2, set_t k r S]; rfl
abbrev SrtQ (S : List QI) : Prop := S.Pairwise (fun a b => kQ a < kQ b)
theorem srt_t {S : List QI} : SrtZ (tZ S) ↔ SrtQ S := by
 unfold tZ
 show List.Pairwise _ _ ↔ List.Pairwise _ _
 rw [List.pairwise_map]
def colS (L : List MI) (k : Nat) (S : List QI) : Option (List QI) :=
 (okQ (lookQ (kZ (getZ L k)) S + qZ L k)).map fun r => setQ (getZ L k).1 r S
def colO (L : List MI) : Option (List QI) := runO (colS L) [] L.length
def outQ (S : List QI) : List QI := S.filter fun x => decide (x.2 ≠ 0)
theorem setQ_mem {k : ByteArray} {r : Rat} : ∀ {S : List QI} {x : QI}, x ∈ setQ k r S → x = (k, r) ∨ x ∈ S
 | [], x, h => .inl (by simpa [setQ] using h)
 | y :: S, x, h => by
  unfold setQ at h
  split at h
  ·rcases List.mem_cons.1 h with h | h
   ·exact .inl h
   ·exact .inr h
  ·split at h
   ·rcases List.mem_cons.1 h with h | h
    ·exact .inl h
    ·exact .inr (List.mem_cons_of_mem _ h)
   ·rcases List.mem_cons.1 h with rfl | h
    ·exact .inr (List.mem_cons_self ..)
    ·rcases setQ_mem h with h | h
     ·exact .inl h
     ·exact .inr (List.mem_cons_of_mem _ h)
theorem setQ_srt {k : ByteArray} {r : Rat} {S : List QI} (h : SrtQ S) : SrtQ (setQ k r S) := by
 rw [← srt_t, ← set_t]
 exact set_srt (srt_t.2 h)
theorem setQ_len (k : ByteArray) (r : Rat) (S : List QI) : (setQ k r S).length ≤ S.length + 1 := by
 have h := set_len k (qstr r) (tZ S)
 rw [set_t] at h
 unfold tZ at h
 rwa [List.length_map, List.length_map] at h
theorem lookQ_in {k : List UInt8} : ∀ {S : List QI}, lookQ k S = 0 ∨ ∃ x, x ∈ S ∧ kQ x = k ∧ lookQ k S = x.2
 | [] => .inl rfl
 | y :: S => by
  unfold lookQ
  by_cases h : kQ y = k
  ·rw [if_pos h]; exact .inr ⟨y, List.mem_cons_self .., h, rfl⟩
  ·rw [if_neg h]
   rcases lookQ_in (k := k) (S := S) with h2 | ⟨x, h2, h3, h4⟩
   ·exact .inl h2
   ·exact .inr ⟨x, List.mem_cons_of_mem _ h2, h3, h4⟩
theorem qok_0 : QOk 0 := small_qok (by decide) (by decide)
structure ColI (L : List MI) (k : Nat) (S : List QI) : Prop where
 srt : SrtQ S
 len : S.length ≤ k
 ok : ∀ x, x ∈ S → QOk x.2
 key : ∀ x, x ∈ S → ∃ y, y ∈ L ∧ x.1 = y.1
theorem ColI.nil (L : List MI) : ColI L 0 [] := ⟨List.Pairwise.nil, Nat.le_refl _, fun x h => by simp at h, fun x h => by simp at h⟩
theorem ColI.step {L : List MI} {k : Nat} {S S' : List QI} (h : ColI L k S) (hk : k < L.length) (hs : colS L k S = some S') : ColI L (k + 1) S' := by
 unfold colS at hs
 cases ho : okQ (lookQ (kZ (getZ L k)) S + qZ L k) with
 | none => rw [ho] at hs; cases hs
 | some r =>
  rw [ho] at hs
  obtain rfl : setQ (getZ L k).1 r S = S' := by simpa using hs
  obtain ⟨e, hok⟩ := okQ_some ho
  refine ⟨setQ_srt h.srt, Nat.le_trans (setQ_len ..) (Nat.succ_le_succ h.len), fun x hx => ?_, fun x hx => ?_⟩
  ·rcases setQ_mem hx with rfl | hx
   ·show QOk r; rw [← e]; exact hok
   ·exact h.ok x hx
  ·rcases setQ_mem hx with rfl | hx
   ·refine ⟨getZ L k, ?_, rfl⟩
    have : L[k]? = some (L[k]'hk) := List.getElem?_eq_getElem hk
    rw [getZ_of this]
    exact List.getElem_mem hk
   ·exact h.key x hx
theorem ColI.run {L : List MI} : ∀ {k : Nat} {S : List QI}, k ≤ L.length → runO (colS L) [] k = some S → ColI L k S
 | 0, S, _, h => by obtain rfl : [] = S := Option.some.inj h; exact ColI.nil L
 | k + 1, S, hk, h => by
  obtain ⟨s, hs⟩ := runO_some h k (by omega)
  rw [runO_step hs] at h
  exact (ColI.run (k := k) (by omega) hs).step (by omega) h
end

section
open Go.RowKit NV Go.Maps Go.Sort Go.Shelf
open Go.Lib (decDigits)
theorem one_strZ : qstr 1 = ⟨#[49]⟩ := by
 have h : qstr 1 = dstr 1 := by
  show rstr false 1 1 = _
  rw [rstr_eq, if_pos rfl]; rfl
 rw [h, digit_str (by omega)]; rfl
theorem run_ok {g : Nat → Rat} : ∀ {k : Nat} {s : Rat}, runO (addS g) 0 k = some s → QOk s
 | 0, s, h => by obtain rfl : (0 : Rat) = s := Option.some.inj h; exact qok_0
 | k + 1, s, h => by
  obtain ⟨s0, h0⟩ := runO_some h k (by omega)
  rw [runO_step h0] at h
  obtain ⟨e, ho⟩ := okQ_some h
  rw [← e]; exact ho
def OKM (L : List MI) : Prop := ∀ x, x ∈ L → rchk x.2 = 0
theorem OKM.at {L : List MI} (h : OKM L) {k : Nat} {x : MI} (hx : L[k]? = some x) : x.2 = qstr (qZ L k) ∧ QOk (qZ L k) := by
 have h1 := ratS_ok (h x (List.mem_of_getElem? hx))
 unfold qZ
 rw [getZ_of hx]; exact h1
theorem below_drewZ {B : Nat} {a w : World} (h : Below B a w) (n : Nat) : Below B a (w.drewN n) := h.trans ⟨rfl, rfl, rfl, Nat.le_refl _, fun _ _ => rfl⟩
theorem lt_b (x y : ByteArray) : Op.bytesLess x.toList y.toList = decide (x.data.toList < y.data.toList) := by rw [bytesLess_eq, Lib.toList_data, Lib.toList_data]
theorem eq_b (x y : ByteArray) : (x.toList == y.toList) = decide (x.data.toList = y.data.toList) := by
 rw [Lib.toList_data, Lib.toList_data]
 by_cases h : x.data.toList = y.data.toList
 ·rw [h, decide_eq_true rfl, beq_self_eq_true]
 ·rw [decide_eq_false h]; exact beq_false_of_ne h
theorem eC_cases {L : List MI} {k : Nat} {x : MI} (hx : L[k]? = some x) :
  (rchk x.2 ≠ 0 ∧ eC L k = rchk x.2) ∨ (rchk x.2 = 0 ∧ sE x.2 ≤ 0 ∧ eC L k = 2) ∨
  (rchk x.2 = 0 ∧ ¬ sE x.2 ≤ 0 ∧ k ≠ 0 ∧ kZ x ≤ kZ (getZ L (k - 1)) ∧ eC L k = 9) ∨ (rchk x.2 = 0 ∧ ¬ sE x.2 ≤ 0 ∧ (k = 0 ∨ kZ (getZ L (k - 1)) < kZ x) ∧ eC L k = 0) := by
 unfold eC qZ sE
 rw [getZ_of hx]
 by_cases h0 : rchk x.2 = 0
 ·rw [if_neg (by omega), if_pos h0]
  by_cases h1 : sgnQ (ratS x.2) ≤ 0
  ·rw [if_pos h1]; exact .inr (.inl ⟨h0, h1, rfl⟩)
  ·rw [if_neg h1]
   by_cases h2 : k ≠ 0 ∧ kZ x ≤ kZ (getZ L (k - 1))
   ·rw [if_pos h2]; exact .inr (.inr (.inl ⟨h0, h1, h2.1, h2.2, rfl⟩))
   ·rw [if_neg h2]
    refine .inr (.inr (.inr ⟨h0, h1, ?_, rfl⟩))
    by_cases hk : k = 0
    ·exact .inl hk
    ·exact .inr (List.not_le.1 fun h => h2 ⟨hk, h⟩)
 ·rw [if_pos h0, if_neg h0]; exact .inl ⟨h0, rfl⟩
theorem okm_of {L : List MI} (h0 : fstE (eC L) L.length = 0) : OKM L := fun x hx => by
 obtain ⟨k, hk, rfl⟩ := List.mem_iff_getElem.1 hx
 have h1 := fstE_all h0 k hk
 rcases eC_cases (List.getElem?_eq_getElem hk) with ⟨h2, h3⟩ | ⟨h2, _⟩ | ⟨h2, _⟩ | ⟨h2, _⟩
 ·omega
 ·exact h2
 ·exact h2
 ·exact h2
end

section
open Go.RowKit NV Go.Maps Go.Sort Go.Shelf
open Go.Lib (decDigits)
theorem rAdd_oQ (p q : Rat) (hp : QOk p) (hq : QOk q) (w : World) :
  Calls Tryz.prog 7 #[.string (qstr p), .string (qstr q)] w (PR (oQ (okQ (p + q))) w) := by
 have h := rAdd_q w hp hq
 unfold RQ at h
 rw [wQ_oQ] at h
 exact h
theorem valZ_drop {key : List UInt8} {L : List MI} : ∀ {k : Nat}, k ≤ L.length → (∀ j x, j < k → L[j]? = some x → kZ x ≠ key) → valZ key L = valZ key (L.drop k) ∧ hasZ key L = hasZ key (L.drop k)
 | 0, _, _ => ⟨rfl, rfl⟩
 | k + 1, hk, h => by
  obtain ⟨h1, h2⟩ := valZ_drop (k := k) (by omega) (fun j x hj => h j x (by omega))
  have hx : L[k]? = some (L[k]'(by omega)) := List.getElem?_eq_getElem _
  have hne := h k _ (by omega) hx
  rw [List.drop_eq_getElem_cons (by omega)] at h1 h2
  constructor
  ·rw [h1]; show (if _ then _ else _) = _; rw [if_neg hne]
  ·rw [h2]; unfold hasZ; rw [List.any_cons, decide_eq_false hne, Bool.false_or]
set_option maxHeartbeats 3200000 in
set_option maxRecDepth 100000 in
theorem rfind_any {L : List MI} {N cap : Nat} {ao : Option Addr} {key : ByteArray} {w : World} (hr : MR w ao N L) (hN : N ≤ 1000000) :
  Calls Tryz.prog 78 #[.slice ao N cap, .string key] w fun e w' => e = .returned (.tuple #[.string (valZ key.data.toList L), .bool (hasZ key.data.toList L)]) ∧ w = w' := by
 have HR := Lib.hid hr
 have HV := Lib.hid (fun (k : Nat) (h : k ≤ N) h2 => valZ_drop (key := key.data.toList) (L := L) (k := k) (by rw [hr.len]; exact h) h2)
 have HL := Lib.hid hr.len
 obtain ⟨vv, hvv⟩ : ∃ vv, vv = valZ key.data.toList L := ⟨_, rfl⟩
 obtain ⟨hh, hhh⟩ : ∃ hh, hh = hasZ key.data.toList L := ⟨_, rfl⟩
 rw [← hvv, ← hhh]
 have HE := Lib.hid (And.intro hvv hhh)
 clear hr hvv hhh
 go_enter Tryz.func78, Tryz.ntmps78
 go_wp2_with fail
 go_loop [6] (fun iv => ∃ k : Nat, k ≤ N ∧ iv = .int .i64 (k : Int) ∧ Hid (∀ j x, j < k → L[j]? = some x → kZ x ≠ key.data.toList)) (fun iv => N - (intOf iv).toNat)
 case atStart => exact ⟨0, Nat.zero_le _, rfl, Lib.hid (fun j x hj => absurd hj (Nat.not_lt_zero _))⟩
 case round =>
  obtain ⟨k, hk, rfl, HNO⟩ := hrel
  by_cases hlt : k < N
  ·obtain ⟨a, x, rfl, hx, _, c0, c1⟩ := HR.out.at hlt
   have HX := Lib.hid hx
   have HD := Lib.hid (HV.out k hk HNO.out)
   obtain ⟨x1, x2⟩ := x
   by_cases hq : x1.data.toList = key.data.toList
   ·have he : (x1.toList == key.toList) = true := (eq_b x1 key).trans (decide_eq_true hq)
    have HF := Lib.hid (show vv = x2 ∧ hh = true by
     have hlt2 : k < L.length := by rw [HL.out]; exact hlt
     obtain ⟨h1, h2⟩ := HD.out
     have hg : L[k] = (x1, x2) := Option.some.inj ((List.getElem?_eq_getElem hlt2).symm.trans HX.out)
     rw [List.drop_eq_getElem_cons hlt2, hg] at h1 h2
     refine ⟨HE.out.1.trans (h1.trans ?_), HE.out.2.trans (h2.trans ?_)⟩
     ·show (if _ then _ else _) = _; rw [if_pos hq]
     ·unfold hasZ; rw [List.any_cons, decide_eq_true hq, Bool.true_or])
    clear hx HX HD hq HNO HR HV HE
    go_wp2_with fail
    go_ret2
    exact ⟨by rw [HF.out.1, HF.out.2]; rfl, rfl⟩
   ·have he : (x1.toList == key.toList) = false := (eq_b x1 key).trans (decide_eq_false hq)
    have HQ := Lib.hid hq
    clear hx hq
    go_wp2_with fail
    go_round
    case rel => exact ⟨k + 1, by omega, by go_num, Lib.hid (fun j y hj hy => by
     rcases Nat.lt_or_ge j k with h | h
     ·exact HNO.out j y h hy
     ·obtain rfl : k = j := by omega
      rw [HX.out] at hy
      obtain rfl := Option.some.inj hy
      exact HQ.out)⟩
    case measure => simp [intOf]; omega
  ·obtain rfl : k = N := by omega
   have HF := Lib.hid (show vv = ⟨#[48]⟩ ∧ hh = false by
    obtain ⟨h1, h2⟩ := HV.out k hk HNO.out
    rw [List.drop_of_length_le (by rw [HL.out]; exact Nat.le_refl _)] at h1 h2
    exact ⟨HE.out.1.trans h1, HE.out.2.trans h2⟩)
   clear HR HV HE HNO
   go_wp2_with fail
   go_ret2
   exact ⟨by rw [HF.out.1, HF.out.2]; rfl, rfl⟩
set_option maxHeartbeats 1600000 in
set_option maxRecDepth 100000 in
theorem rAt_any {L : List MI} {N cap : Nat} {ao : Option Addr} {key : ByteArray} {w : World} (hr : MR w ao N L) (hN : N ≤ 1000000) :
  Calls Tryz.prog 37 #[.slice ao N cap, .string key] w fun e w' => e = .returned (.string (valZ key.data.toList L)) ∧ w = w' := by
 have HF := Lib.hid (rfind_any (cap := cap) (key := key) hr hN)
 generalize valZ key.data.toList L = v at *
 generalize hasZ key.data.toList L = h at *
 clear hr hN
 go_enter Tryz.func37, Tryz.ntmps37
 go_wp2_with fail
 refine HF.out.mono ?_
 rintro e w1 ⟨rfl, rfl⟩
 clear HF
 go_wp2_with fail
 go_ret
 exact ⟨rfl, rfl⟩
set_option maxHeartbeats 6400000 in
set_option maxRecDepth 100000 in
theorem rCheck_any {L : List MI} {N cap : Nat} {ao : Option Addr} {w : World} (hr : MR w ao N L) (hN : N ≤ 1000000) (hl : ML2 L) :
  Calls Tryz.prog 47 #[.slice ao N cap] w fun e w' => e = .returned (.int .i64 ((chkZ L : Nat) : Int)) ∧ Below w.heap.size w w' := by
 have HR := Lib.hid hr
 have hlen := hr.len
 have HBAD := Lib.hid (show ∀ k, k < N → fstE (eC L) k = 0 → eC L k ≠ 0 → chkZ L = eC L k from fun k hk h0 h1 => by
  have h := fstE_at h0 h1 hk
  unfold chkZ
  rw [hlen, h, if_pos h1])
 have HSUM := Lib.hid (show fstE (eC L) N = 0 → chkZ L = sumE (qZ L) N from fun h => by unfold chkZ; rw [hlen, h, if_neg (by omega)])
 have HOK := Lib.hid (show fstE (eC L) N = 0 → OKM L from fun h => okm_of (by rw [hlen]; exact h))
 have HL := Lib.hid hl
 generalize chkZ L = c at *
 clear hr hl
 go_enter Tryz.func47, Tryz.ntmps47
 go_wp2_with fail
 go_loopw [3] (fun iv wr => ∃ k : Nat, k ≤ N ∧ iv = .int .i64 (k : Int) ∧ Hid (fstE (eC L) k = 0) ∧ Below w.heap.size w wr) (fun iv _ => N - (intOf iv).toNat)
 case atStart => exact ⟨0, Nat.zero_le _, rfl, Lib.hid rfl, Below.refl _ _⟩
 case round =>
  obtain ⟨k, hk, rfl, H0, hb⟩ := hrel
  by_cases hlt : k < N
  ·have hmr := HR.out.below hb
   obtain ⟨a, x, rfl, hx, _, c0, c1⟩ := hmr.at hlt
   obtain ⟨a', ha', hal, hcell⟩ := hmr.form (by omega)
   obtain rfl : a = a' := Option.some.inj ha'
   have HC := Lib.hid (show ∀ W, Below wr.heap.size wr W → ∀ j x, L[j]? = some x → W.cell? (a.add (j * 2)) = some (.string x.1) from fun W hw j x hx => (hw.cell (p := a.add (j * 2)) (by rw [addZ_block]; exact hal)).trans (hcell j x hx).1)
   have HX := Lib.hid (And.intro (HL.out x (List.mem_of_getElem? hx)) (And.intro (eC_cases hx) hx))
   have HB := Lib.hid hb
   have HS := Lib.hid (rSign_any x.2 (Nat.le_trans HX.out.1.2 (by omega)) wr)
   have HBK := Lib.hid (HBAD.out k hlt H0.out)
   have HG := Lib.hid (show k ≠ 0 → L[k - 1]? = some (getZ L (k - 1)) from fun h => by
    have h1 : k - 1 < L.length := by omega
    rw [List.getElem?_eq_getElem h1, getZ_of (List.getElem?_eq_getElem h1)])
   have HNX := Lib.hid (fstE_step H0.out)
   clear hb hx hmr HBAD HSUM HOK HL ha' hcell HR hal
   obtain ⟨x1, x2⟩ := x
   rcases HX.out.2.1 with ⟨h1, h2⟩ | ⟨h1, h2, h3⟩ | ⟨h1, h2, h3, h4, h5⟩ | ⟨h1, h2, h3, h4⟩
   ·have hz := errneZ h1
    have HE := Lib.hid (show c = rchk x2 from (HBK.out (by rw [h2]; exact h1)).trans h2)
    generalize sE x2 = sg at *
    generalize rchk x2 = d at *
    clear h1 h2 HX HBK HNX HG HC
    go_wp2_with fail
    refine HS.out.mono ?_
    rintro e w1 ⟨rfl, hb1⟩
    have HB2 := Lib.hid (HB.out.trans (hb1.mono HB.out.size))
    clear hb1 HS HB
    go_wp2_with fail
    go_ret
    exact ⟨by rw [HE.out]; rfl, HB2.out⟩
   ·have HE := Lib.hid (show c = 2 from (HBK.out (by rw [h3]; omega)).trans h3)
    rw [h1] at HS
    generalize sE x2 = sg at *
    clear h1 h3 HX HBK HNX HG HC
    go_wp2_with fail
    refine HS.out.mono ?_
    rintro e w1 ⟨rfl, hb1⟩
    have HB2 := Lib.hid (HB.out.trans (hb1.mono HB.out.size))
    clear hb1 HS HB
    go_wp2_with fail
    go_ret
    exact ⟨by rw [HE.out]; rfl, HB2.out⟩
   ·have HE := Lib.hid (show c = 9 from (HBK.out (by rw [h5]; omega)).trans h5)
    rw [h1] at HS
    obtain ⟨j, rfl⟩ : ∃ j, k = j + 1 := ⟨k - 1, by omega⟩
    have hg := HG.out h3
    rw [Nat.add_sub_cancel] at hg h4
    generalize getZ L j = y at *
    obtain ⟨y1, y2⟩ := y
    have HCY := Lib.hid (fun W hw => HC.out W hw j _ hg)
    have HCX := Lib.hid (fun W hw => HC.out W hw (j + 1) _ HX.out.2.2)
    have hk0 : decide (0 < (((j + 1 : Nat)) : Int)) = true := decide_eq_true (by omega)
    have hj : (((j + 1 : Nat)) : Int) - 1 = (j : Int) := by omega
    generalize sE x2 = sg at *
    clear h1 h3 h5 HX HBK HNX HG HC hg
    have hl1 : Op.bytesLess y1.toList x1.toList = false := (lt_b y1 x1).trans (decide_eq_false fun h => List.lt_irrefl _ (List.lt_of_le_of_lt h4 h))
    clear h4
    go_wp2_with fail
    refine HS.out.mono ?_
    rintro e w1 ⟨rfl, hb1⟩
    have e0 := HCX.out w1 hb1
    have d0 := HCY.out w1 hb1
    have HB2 := Lib.hid (HB.out.trans (hb1.mono HB.out.size))
    clear hb1 HS HB HCY HCX
    go_wp2_with fail
    go_quiet (fail)
    go_wp2_with fail
    go_ret
    exact ⟨by rw [HE.out]; rfl, below_drewZ HB2.out _⟩
   ·rw [h1] at HS
    rw [h4] at HNX
    generalize sE x2 = sg at *
    by_cases hk1 : k = 0
    ·have hk0 : decide (0 < k) = false := decide_eq_false (by omega)
     clear h1 h3 h4 HX HBK HG HC hk1
     go_wp2_with fail
     refine HS.out.mono ?_
     rintro e w1 ⟨rfl, hb1⟩
     have HB2 := Lib.hid (HB.out.trans (hb1.mono HB.out.size))
     clear hb1 HS HB
     go_wp2_with fail
     go_quiet (fail)
     go_wp2_with fail
     go_roundw
     case rel => exact ⟨k + 1, by omega, by go_num, HNX, below_drewZ HB2.out _⟩
     case measure => simp [intOf]; omega
    ·obtain ⟨j, rfl⟩ : ∃ j, k = j + 1 := ⟨k - 1, by omega⟩
     have h6 := h3.resolve_left hk1
     have hg := HG.out hk1
     rw [Nat.add_sub_cancel] at hg h6
     generalize getZ L j = y at *
     obtain ⟨y1, y2⟩ := y
     have HCY := Lib.hid (fun W hw => HC.out W hw j _ hg)
     have HCX := Lib.hid (fun W hw => HC.out W hw (j + 1) _ HX.out.2.2)
     have hk0 : decide (0 < (((j + 1 : Nat)) : Int)) = true := decide_eq_true (by omega)
     have hl1 : Op.bytesLess y1.toList x1.toList = true := (lt_b y1 x1).trans (decide_eq_true h6)
     have hj : (((j + 1 : Nat)) : Int) - 1 = (j : Int) := by omega
     clear h1 h3 h4 h6 HX HBK HG HC hg
     go_wp2_with fail
     refine HS.out.mono ?_
     rintro e w1 ⟨rfl, hb1⟩
     have e0 := HCX.out w1 hb1
     have d0 := HCY.out w1 hb1
     have HB2 := Lib.hid (HB.out.trans (hb1.mono HB.out.size))
     clear hb1 HS HB HCY HCX
     go_wp2_with fail
     go_quiet (fail)
     go_wp2_with fail
     go_roundw
     case rel => exact ⟨j + 1 + 1, by omega, by go_num, HNX, below_drewZ HB2.out _⟩
     case measure => simp [intOf]; omega
  ·obtain rfl : k = N := by omega
   have HOKM := Lib.hid (HOK.out H0.out)
   have HE := Lib.hid (HSUM.out H0.out)
   have HB := Lib.hid hb
   have HRB := Lib.hid (HR.out.below hb)
   clear hb HR HBAD HOK HSUM HL H0 hk hlt
   obtain ⟨wo, hwo⟩ : ∃ wo, wo = wr := ⟨_, rfl⟩
   rw [← hwo] at HB HRB ⊢
   have HT5 := Lib.hid (show ∀ j s, j < k → runO (addS (qZ L)) 0 j = some s → addS (qZ L) j s = none → c = 5 from fun j s hj h1 h2 => by rw [HE.out]; unfold sumE; rw [runO_fail h1 h2 hj])
   have HT1 := Lib.hid (show ∀ s, runO (addS (qZ L)) 0 k = some s → c = if s = 1 then 0 else 15 from fun s h => by rw [HE.out]; unfold sumE; rw [h])
   have h0 := q0Z
   clear HE hwo
   go_wp2_with fail
   go_loopw [6, 7, 8] (fun sv ev iv wq => ∃ (j : Nat) (s : Rat), j ≤ k ∧ sv = .string (qstr s) ∧ ev = .int .i64 0 ∧ iv = .int .i64 (j : Int) ∧ Hid (runO (addS (qZ L)) 0 j = some s) ∧ Below wo.heap.size wo wq) (fun _ _ iv _ => k - (intOf iv).toNat)
   case atStart => exact ⟨0, 0, Nat.zero_le _, by rw [q0Z], rfl, rfl, Lib.hid rfl, Below.refl _ _⟩
   case round =>
    obtain ⟨j, s, hj, rfl, rfl, rfl, HRUN, hb⟩ := hrel
    by_cases hlt : j < k
    ·obtain ⟨a, x, rfl, hx, _, c0, c1⟩ := (HRB.out.below hb).at hlt
     obtain ⟨hx1, hx2⟩ := HOKM.out.at hx
     have HA := Lib.hid (rAdd_oQ s (qZ L j) (run_ok HRUN.out) hx2 wr)
     rw [← hx1] at HA
     have HB1 := Lib.hid hb
     have H5 := Lib.hid (HT5.out j s hlt HRUN.out)
     have HST := Lib.hid (runO_step HRUN.out)
     obtain ⟨x1, x2⟩ := x
     generalize qstr s = sq at *
     clear hb hx hx1 hx2 HRB HOKM HT5 HT1
     cases hf : okQ (s + qZ L j) with
     | none =>
      have HC := Lib.hid (H5.out hf)
      rw [hf] at HA
      clear H5 HST hf
      go_wp2_with fail
      refine HA.out.mono ?_
      rintro e w1 ⟨rfl, hb1⟩
      have HB2 := Lib.hid (HB.out.trans ((HB1.out.trans (hb1.mono HB1.out.size)).mono HB.out.size))
      clear hb1 HA HB HB1
      go_wp2_with fail
      go_ret
      exact ⟨by rw [HC.out]; rfl, HB2.out⟩
     | some t =>
      have HST2 := Lib.hid (HST.out.trans hf)
      rw [hf] at HA
      clear H5 HST hf
      go_wp2_with fail
      refine HA.out.mono ?_
      rintro e w1 ⟨rfl, hb1⟩
      have HB2 := Lib.hid (HB1.out.trans (hb1.mono HB1.out.size))
      clear hb1 HA HB1
      go_wp2_with fail
      go_roundw
      case rel => exact ⟨j + 1, t, by omega, rfl, rfl, by go_num, HST2, HB2.out⟩
      case measure => simp [intOf]; omega
    ·obtain rfl : j = k := by omega
     have HC := Lib.hid (HT1.out s HRUN.out)
     have HB2 := Lib.hid (HB.out.trans (hb.mono HB.out.size))
     clear hb HRB HOKM HT5 HT1
     by_cases h1 : s = 1
     ·have hq : ((qstr s).toList == ([49] : List UInt8)) = true := by rw [h1, one_strZ]; exact lit_eq _ _ rfl
      rw [if_pos h1] at HC
      generalize qstr s = sq at *
      go_wp2_with fail
      go_ret
      exact ⟨by rw [HC.out]; rfl, HB2.out⟩
     ·have hq : ((qstr s).toList == ([49] : List UInt8)) = false := beq_false_of_ne fun he => h1 (qstr_inj (by rw [one_strZ]; exact ba_extZ (by rw [← Lib.toList_data]; exact he)))
      rw [if_neg h1] at HC
      generalize qstr s = sq at *
      go_wp2_with fail
      go_ret
      exact ⟨by rw [HC.out]; rfl, HB2.out⟩
end

end Go.Proofs.YtjpepjooefkbkaaGreatDoor
