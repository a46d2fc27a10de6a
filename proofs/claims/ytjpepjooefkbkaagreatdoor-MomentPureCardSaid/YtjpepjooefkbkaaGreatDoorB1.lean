/-
  A range over an iterator that keeps its state in a cell of its own: an own law for the caller.
-/
import Derived.RangeFuncNested
import Derived.RangeFuncBound
import Derived.RangeFuncCalls
import Derived.RangeFuncLeaves
import Derived.Lib.Hide
namespace Go.Proofs.YtjpepjooefkbkaaGreatDoor
open Go.RowKit
structure Ch (S : Nat → Prop) (w w' : World) : Prop where
 os : w'.os = w.os
 tape : w'.tape = w.tape
 output : w'.output = w.output
 size : w.heap.size ≤ w'.heap.size
 block : ∀ j, j < w.heap.size → ¬ S j → w'.heap[j]? = w.heap[j]?
theorem Ch.refl (S : Nat → Prop) (w : World) : Ch S w w := ⟨rfl, rfl, rfl, Nat.le_refl _, fun _ _ _ => rfl⟩
theorem Ch.trans {S : Nat → Prop} {a b c : World} (h : Ch S a b) (k : Ch S b c) : Ch S a c :=
 ⟨k.os.trans h.os, k.tape.trans h.tape, k.output.trans h.output, Nat.le_trans h.size k.size, fun j hj hs => (k.block j (Nat.lt_of_lt_of_le hj h.size) hs).trans (h.block j hj hs)⟩
theorem Ch.mono {S T : Nat → Prop} {a b : World} (h : Ch S a b) (hs : ∀ j, j < a.heap.size → S j → T j) : Ch T a b := ⟨h.os, h.tape, h.output, h.size, fun j hj ht => h.block j hj (fun e => ht (hs j hj e))⟩
theorem Ch.below {S : Nat → Prop} {a b : World} (h : Below a.heap.size a b) : Ch S a b := ⟨h.os, h.tape, h.output, h.size, fun j hj _ => h.block j hj⟩
theorem Ch.to_below {S : Nat → Prop} {B : Nat} {a b : World} (h : Ch S a b) (hB : B ≤ a.heap.size) (hs : ∀ j, S j → B ≤ j) : Below B a b :=
 ⟨h.os, h.tape, h.output, h.size, fun j hj => h.block j (by omega) (fun e => by have := hs j e; omega)⟩
theorem Ch.putObj (S : Nat → Prop) (w : World) {r : Nat} (o : Obj) (hr : S r) : Ch S w (w.putObj r o) :=
 ⟨rfl, rfl, rfl, by simp, fun _ _ hs => World.putObj_heap_other (fun e => hs (by rw [e]; exact hr))⟩
theorem Ch.alloc (S : Nat → Prop) (w : World) (o : Obj) : Ch S w (w.alloc o) := Ch.below ((Below.refl _ w).alloc (Nat.le_refl _) o)
theorem Ch.drew (S : Nat → Prop) (w : World) : Ch S w w.drew := Ch.below (Below.refl _ w).drew
theorem Ch.setCell (S : Nat → Prop) (w : World) {b j : Nat} (v : Value) (hb : S b) : Ch S w (w.setCell ⟨b, j, none⟩ v) :=
 ⟨rfl, rfl, rfl, by simp [World.setCell], fun k _ hs => Below.heap_setCell _ _ _ _ (fun e => hs (by rw [e]; exact hb))⟩
theorem Ch.cell {S : Nat → Prop} {w w' : World} (h : Ch S w w') {b j : Nat} (hb : ¬ S b) {v : Value} (hc : w.cell? ⟨b, j, none⟩ = some v) : w'.cell? ⟨b, j, none⟩ = some v := by
 obtain ⟨o, ho, _⟩ := cells_of_cell hc
 have hl := (Array.getElem?_eq_some_iff.1 ho).1
 unfold World.cell? at hc ⊢
 rw [h.block b hl hb]; exact hc
theorem Ch.boxed {S : Nat → Prop} {w w' : World} (h : Ch S w w') {b : Nat} {t : TypeId} {v : Value} (hb : ¬ S b) (hc : Boxed w b t v) : Boxed w' b t v := (h.block b hc.lt hb).trans hc
def chPost (S : Nat → Prop) (I : World → Prop) (W : World) : Exit → Act → World → Prop
 | .normal, _, W' => Ch S W W' ∧ I W'
 | _, _, _ => False
theorem wpIn_rangeCh {n : Nat} {P : Program} {g : Operand} {ps : Array Tmp} {assign body : Code} {Q : Exit → Act → World → Prop} {a : Act} {w : World} (h1 : 1 ≤ n)
  {gf : Nat} {lb : Array Value} (hg : a.eval g = .func (.func gf) #[] lb) (eg : ∀ args w, (callFunc gf args).run P w = .ok (.enter gf args) w)
  (SI SB : Nat → Prop) (args : Nat → Array Value) (hps : ∀ k, (args k).size = ps.size) (N : Nat) (St I : Nat → World → Prop)
  (nI : ∀ j, SI j → j < w.heap.size) (nB : ¬ SB w.heap.size ∧ ¬ SB (w.heap.size + 1))
  (hSt : ∀ k W W', St k W → Ch (fun j => SB j ∨ j = w.heap.size ∨ j = w.heap.size + 1) W W' → St k W')
  (hI : ∀ k W W', I k W → Ch (fun j => SI j ∨ j = w.heap.size ∨ j = w.heap.size + 1) W W' → I k W')
  (hseq : ∀ (l : Nat) (J : Nat → World → Prop) (W : World), (∀ k W W', J k W → Ch SI W W' → J k W') →
   (∀ k W, J k W → St k W → k < N → YieldAt Fence.wide (n - 1 - 1) P l (args k) W fun e W' => e = .returned (.bool true) ∧ J (k + 1) W' ∧ St k W') →
   St 0 W → J 0 W → CallsIn Fence.wide (n - 1) P gf (#[.func (.yield l) #[] #[]] ++ lb) W fun e W' => (∃ v, e = .returned v) ∧ J N W')
  (s0 : St 0 w) (i0 : I 0 w) (a₁ : Nat → Act)
  (hassign : ∀ (l k : Nat) (W : World) (K : Act → World → Prop), K (a₁ k) W → assign.wpIn (Fence.wide.inRound l) (n - 1 - 1) P (Exit.then K (fun _ _ _ => False)) { tmps := (ps.zip (args k)).foldl (fun t (p, v) => t.setIfInBounds p v) a.tmps, defers := [] } W)
  (hbody : ∀ (l k : Nat) (W : World), w.heap.size + 2 ≤ W.heap.size → I k W → k < N → body.wpIn (Fence.wide.inRound l) (n - 1 - 1) P (chPost SB (I (k + 1)) W) (a₁ k) W)
  (hdone : ∀ (W : World), I N W → W.heap[w.heap.size]? = some (.deferred (some [])) → Q .normal { a with defers := { target := .collected w.heap.size, args := #[] } :: a.defers } W) :
  (Code.rangeFunc g ps assign body).wpIn Fence.wide n P Q a w := by
 refine wpIn_rangeFunc ?_
 intro fn hfn
 have hro : Fence.wide.round = none := rfl
 rw [hro]
 obtain ⟨rec, hrec⟩ : ∃ rec : LoopState → Option Code → Loop, rec = fun st pe => { state := st, pending := pe, fn, tmps := a.tmps, params := ps, assign, body, defers := w.heap.size } := ⟨_, rfl⟩
 obtain ⟨W1, hW1⟩ : ∃ W1, (w.alloc (.deferred (some []))).alloc (.loop (rec .ready none)) = W1 := ⟨_, rfl⟩
 have hL1 : W1.heap[w.heap.size + 1]? = some (.loop (rec .ready none)) := by
  rw [← hW1]; have := World.alloc_heap_new (w.alloc (.deferred (some []))) (.loop (rec .ready none)); rwa [World.size_alloc] at this
 have hK1 : W1.heap[w.heap.size]? = some (.deferred (some [])) := by
  rw [← hW1]; exact (Below.heap_alloc _ _ _ (by simp)).trans (World.alloc_heap_new w _)
 have hch : ∀ S, Ch S w W1 := fun S => by rw [← hW1]; exact (Ch.alloc S w _).trans (Ch.alloc S _ _)
 refine ⟨w.heap.size + 1, [{ target := .collected w.heap.size, args := #[] }], W1, { target := .fn (.func gf) lb, args := #[.func (.yield (w.heap.size + 1)) #[] #[]] }, W1, gf,
  #[.func (.yield (w.heap.size + 1)) #[] #[]] ++ lb, W1, ?_, ?_, ?_, ?_, fun _ => h1, ?_⟩
 ·rw [← hW1, hrec]; exact run_enterLoop_outer _ _ _ _ _
 ·simp only [resolve, hg]
  simp [go_sem]
 ·intro f' _; trivial
 ·simp [invoke, go_sem, eg]
 ·refine (hseq (w.heap.size + 1)
   (fun k W => I k W ∧ W.heap[w.heap.size + 1]? = some (.loop (rec .ready none)) ∧ W.heap[w.heap.size]? = some (.deferred (some [])))
   W1 ?_ ?_ (hSt 0 _ _ s0 (hch _)) ⟨hI 0 _ _ i0 (hch _), hL1, hK1⟩).mono ?_
  ·rintro k W W' ⟨hi, hl, hk⟩ hc
   have g1 : ¬ SI (w.heap.size + 1) := fun e => by have := nI _ e; omega
   have g2 : ¬ SI w.heap.size := fun e => by have := nI _ e; omega
   exact ⟨hI k _ _ hi (hc.mono (fun j _ e => .inl e)), (hc.block _ (Array.getElem?_eq_some_iff.1 hl).1 g1).trans hl, (hc.block _ (Array.getElem?_eq_some_iff.1 hk).1 g2).trans hk⟩
  ·rintro k W ⟨hi, hl, hk⟩ hs hlen
   have hlt : w.heap.size + 1 < W.heap.size := (Array.getElem?_eq_some_iff.1 hl).1
   have hy := run_yield (P := P) (args := args k) hl (by rw [hrec]; exact hps k)
   rw [hrec] at hy
   refine ⟨fn, _, assign, body, hy, roundIn_of_wpIn hfn (hassign _ k W _ ?_)⟩
   clear hy
   refine ⟨_, run_beginRound hl (by rw [hrec]), ?_⟩
   have hl2 : (W.putObj (w.heap.size + 1) (.loop { rec .ready none with state := .busy })).heap[w.heap.size + 1]? = some (.loop { rec .ready none with state := .busy }) := World.putObj_heap_same hlt
   have hk2 : (W.putObj (w.heap.size + 1) (.loop { rec .ready none with state := .busy })).heap[w.heap.size]? = some (.deferred (some [])) := (World.putObj_heap_other (by omega)).trans hk
   have i2 := hI k _ _ hi (Ch.putObj _ W (.loop { rec .ready none with state := .busy }) (r := w.heap.size + 1) (.inr (.inr rfl)))
   have s2 := hSt k _ _ hs (Ch.putObj _ W (.loop { rec .ready none with state := .busy }) (r := w.heap.size + 1) (.inr (.inr rfl)))
   refine wpIn_mono (hbody _ k _ (by simp; omega) i2 hlen) ?_
   rintro e a3 W3 hp
   cases e with
   | normal =>
    obtain ⟨hc, hi3⟩ := hp
    have hl3 := (hc.block _ (Array.getElem?_eq_some_iff.1 hl2).1 nB.2).trans hl2
    have hk3 := (hc.block _ (Array.getElem?_eq_some_iff.1 hk2).1 nB.1).trans hk2
    have hend := run_endRound (P := P) none hl3
    rw [hrec] at hend
    have hl4 : (W3.putObj (w.heap.size + 1) (.loop (rec .ready none))).heap[w.heap.size + 1]? = some (.loop (rec .ready none)) := World.putObj_heap_same (Array.getElem?_eq_some_iff.1 hl3).1
    have hk4 : (W3.putObj (w.heap.size + 1) (.loop (rec .ready none))).heap[w.heap.size]? = some (.deferred (some [])) := (World.putObj_heap_other (by omega)).trans hk3
    have c4 := Ch.putObj (fun j => SI j ∨ j = w.heap.size ∨ j = w.heap.size + 1) W3 (.loop (rec .ready none)) (r := w.heap.size + 1) (.inr (.inr rfl))
    have d4 := Ch.putObj (fun j => SB j ∨ j = w.heap.size ∨ j = w.heap.size + 1) W3 (.loop (rec .ready none)) (r := w.heap.size + 1) (.inr (.inr rfl))
    refine ⟨_, _, hend, rfl, ?_, ?_⟩
    ·rw [hrec] at c4 hl4 hk4 ⊢
     exact ⟨hI _ _ _ hi3 c4, hl4, hk4⟩
    ·rw [hrec] at d4
     exact hSt k _ _ (hSt k _ _ s2 (hc.mono (fun j _ e => .inl e))) d4
   | ret => exact hp.elim
   | exit id => exact hp.elim
   | goto t => exact hp.elim
   | panic ch => exact hp.elim
   | outgrown => exact hp.elim
  ·rintro e W2 ⟨⟨v, rfl⟩, hi, hl, hk⟩
   exact ⟨none, _, by have := run_endLoop (P := P) hl (by rw [hrec]; simp); rw [hrec] at this; exact this,
    hdone _ (hI _ _ _ hi (Ch.putObj _ W2 _ (.inr (.inr rfl)))) ((World.putObj_heap_other (by omega)).trans hk)⟩
end Go.Proofs.YtjpepjooefkbkaaGreatDoor
