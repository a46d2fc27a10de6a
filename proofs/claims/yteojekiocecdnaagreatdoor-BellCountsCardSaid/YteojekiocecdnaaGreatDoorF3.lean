/-
  A range over an iterator that keeps its state in a cell of its own, whose body leaves the loop: an own law for the caller.
-/
import Derived.Test.YteojekiocecdnaaGreatDoorB1
namespace Go.Proofs.YteojekiocecdnaaGreatDoor
open Go.RowKit

/-- What a round's body leaves, where it may leave the loop. -/
def chPostX (S : Nat → Prop) (G : Prop) (I : World → Prop) (Ix : Code → World → Prop) (W : World) : Exit → Act → World → Prop
  | .normal, _, W' => Ch S W W' ∧ G ∧ I W'
  | .ret, _, W' => Ch S W W' ∧ Ix .ret W'
  | .exit id, _, W' => Ch S W W' ∧ Ix (.exit id) W'
  | .goto t, _, W' => Ch S W W' ∧ Ix (.goto t) W'
  | .panic _, _, _ => False
  | .outgrown, _, _ => False

/-- A range over an iterator: SI: the iterator's own cells; SB: the body's own; St: the iterator's state; I: the caller's invariant. The body goes on only where G holds; the loop ends by the body's leaving alone. -/
theorem wpIn_rangeChX {n : Nat} {P : Program} {g : Operand} {ps : Array Tmp} {assign body : Code} {Q : Exit → Act → World → Prop} {a : Act} {w : World} (h1 : 1 ≤ n)
    {gf : Nat} {lb : Array Value} (hg : a.eval g = .func (.func gf) #[] lb) (eg : ∀ args w, (callFunc gf args).run P w = .ok (.enter gf args) w)
    (SI SB : Nat → Prop) (args : Nat → Array Value) (hps : ∀ k, (args k).size = ps.size) (G : Nat → Prop) (I : Nat → World → Prop) (Ix : Code → World → Prop)
    (nI : ∀ j, SI j → j < w.heap.size) (nB : ¬ SB w.heap.size ∧ ¬ SB (w.heap.size + 1))
    (hI : ∀ k W W', I k W → Ch (fun j => SI j ∨ j = w.heap.size ∨ j = w.heap.size + 1) W W' → I k W')
    (hIx : ∀ c W W', Ix c W → Ch (fun j => SI j ∨ j = w.heap.size ∨ j = w.heap.size + 1) W W' → Ix c W')
    (hseq : ∀ (l : Nat) (J : Nat → World → Prop) (X : World → Prop) (W : World), (∀ k W W', J k W → Ch SI W W' → J k W') → (∀ W W', X W → Ch SI W W' → X W') →
      (∀ k W, J k W → YieldAt Fence.wide (n - 1 - 1) P l (args k) W fun e W' => (e = .returned (.bool true) ∧ G k ∧ J (k + 1) W' ∧ Ch (fun j => SB j ∨ j = w.heap.size ∨ j = w.heap.size + 1) W W') ∨ (e = .returned (.bool false) ∧ X W')) →
      Ch (fun _ => False) w W → w.heap.size + 2 ≤ W.heap.size → J 0 W → CallsIn Fence.wide (n - 1) P gf (#[.func (.yield l) #[] #[]] ++ lb) W fun e W' => (∃ v, e = .returned v) ∧ X W')
    (i0 : I 0 w) (A : Nat → Act → World → Prop)
    (hA : ∀ k a W W', A k a W → Ch (fun j => SI j ∨ j = w.heap.size ∨ j = w.heap.size + 1) W W' → A k a W')
    (hassign : ∀ (l k : Nat) (W : World) (K : Act → World → Prop), w.heap.size + 2 ≤ W.heap.size → I k W → (∀ a' W', Ch SB W W' → A k a' W' → K a' W') → assign.wpIn (Fence.wide.inRound l) (n - 1 - 1) P (Exit.then K (fun _ _ _ => False)) { tmps := (ps.zip (args k)).foldl (fun t (p, v) => t.setIfInBounds p v) a.tmps, defers := [] } W)
    (hbody : ∀ (l k : Nat) (a' : Act) (W : World), w.heap.size + 2 ≤ W.heap.size → A k a' W → body.wpIn (Fence.wide.inRound l) (n - 1 - 1) P (chPostX SB (G k) (I (k + 1)) Ix W) a' W)
    (hstop : ∀ (c : Code) (W : World), Ix c W → W.heap[w.heap.size]? = some (.deferred (some [])) → c.wpIn Fence.wide n P Q { a with defers := { target := .collected w.heap.size, args := #[] } :: a.defers } W) :
    (Code.rangeFunc g ps assign body).wpIn Fence.wide n P Q a w := by
  refine wpIn_rangeFunc ?_
  intro fn hfn
  have hro : Fence.wide.round = none := rfl
  rw [hro]
  obtain ⟨rec, hrec⟩ : ∃ rec : LoopState → Option Code → Loop, rec = fun st pe => { state := st, pending := pe, fn, tmps := a.tmps, params := ps, assign, body, defers := w.heap.size } := ⟨_, rfl⟩
  obtain ⟨W1, hW1⟩ : ∃ W1, (w.alloc (.deferred (some []))).alloc (.loop (rec .ready none)) = W1 := ⟨_, rfl⟩
  have hL1 : W1.heap[w.heap.size + 1]? = some (.loop (rec .ready none)) := by
    rw [← hW1]; have := World.alloc_heap_new (w.alloc (.deferred (some []))) (.loop (rec .ready none)); rwa [World.size_alloc] at this
  have hK1 : W1.heap[w.heap.size]? = some (.deferred (some [])) := by
    rw [← hW1]; exact (Below.heap_alloc _ _ _ (by simp)).trans (World.alloc_heap_new w _)
  have hch : ∀ S, Ch S w W1 := fun S => by rw [← hW1]; exact (Ch.alloc S w _).trans (Ch.alloc S _ _)
  refine ⟨w.heap.size + 1, [{ target := .collected w.heap.size, args := #[] }], W1, { target := .fn (.func gf) lb, args := #[.func (.yield (w.heap.size + 1)) #[] #[]] }, W1, gf,
    #[.func (.yield (w.heap.size + 1)) #[] #[]] ++ lb, W1, ?_, ?_, ?_, ?_, fun _ => h1, ?_⟩
  · rw [← hW1, hrec]; exact run_enterLoop_outer _ _ _ _ _
  · simp only [resolve, hg]
    simp [go_sem]
  · intro f' _; trivial
  · simp [invoke, go_sem, eg]
  · refine (hseq (w.heap.size + 1)
      (fun k W => I k W ∧ W.heap[w.heap.size + 1]? = some (.loop (rec .ready none)) ∧ W.heap[w.heap.size]? = some (.deferred (some [])))
      (fun W => ∃ c, Ix c W ∧ W.heap[w.heap.size + 1]? = some (.loop (rec .done (some c))) ∧ W.heap[w.heap.size]? = some (.deferred (some [])))
      W1 ?_ ?_ ?_ (hch _) (by rw [← hW1]; simp) ⟨hI 0 _ _ i0 (hch _), hL1, hK1⟩).mono ?_
    · rintro k W W' ⟨hi, hl, hk⟩ hc
      have g1 : ¬ SI (w.heap.size + 1) := fun e => by have := nI _ e; omega
      have g2 : ¬ SI w.heap.size := fun e => by have := nI _ e; omega
      exact ⟨hI k _ _ hi (hc.mono (fun j _ e => .inl e)), (hc.block _ (Array.getElem?_eq_some_iff.1 hl).1 g1).trans hl, (hc.block _ (Array.getElem?_eq_some_iff.1 hk).1 g2).trans hk⟩
    · rintro W W' ⟨c, hi, hl, hk⟩ hc
      have g1 : ¬ SI (w.heap.size + 1) := fun e => by have := nI _ e; omega
      have g2 : ¬ SI w.heap.size := fun e => by have := nI _ e; omega
      exact ⟨c, hIx c _ _ hi (hc.mono (fun j _ e => .inl e)), (hc.block _ (Array.getElem?_eq_some_iff.1 hl).1 g1).trans hl, (hc.block _ (Array.getElem?_eq_some_iff.1 hk).1 g2).trans hk⟩
    · rintro k W ⟨hi, hl, hk⟩
      have hlt : w.heap.size + 1 < W.heap.size := (Array.getElem?_eq_some_iff.1 hl).1
      have hy := run_yield (P := P) (args := args k) hl (by rw [hrec]; exact hps k)
      rw [hrec] at hy
      refine ⟨fn, _, assign, body, hy, roundIn_of_wpIn hfn (hassign _ k W _ (by omega) hi ?_)⟩
      clear hy
      intro a0 V hcV hAV
      have hcW := hcV.mono (T := fun j => SB j ∨ j = w.heap.size ∨ j = w.heap.size + 1) (fun j _ e => .inl e)
      replace hl := (hcV.block _ (Array.getElem?_eq_some_iff.1 hl).1 nB.2).trans hl
      replace hk := (hcV.block _ (Array.getElem?_eq_some_iff.1 hk).1 nB.1).trans hk
      replace hlt : w.heap.size + 1 < V.heap.size := (Array.getElem?_eq_some_iff.1 hl).1
      refine ⟨_, run_beginRound hl (by rw [hrec]), ?_⟩
      have hl2 : (V.putObj (w.heap.size + 1) (.loop { rec .ready none with state := .busy })).heap[w.heap.size + 1]? = some (.loop { rec .ready none with state := .busy }) := World.putObj_heap_same hlt
      have hk2 : (V.putObj (w.heap.size + 1) (.loop { rec .ready none with state := .busy })).heap[w.heap.size]? = some (.deferred (some [])) := (World.putObj_heap_other (by omega)).trans hk
      have i2 := hA k _ _ _ hAV (Ch.putObj _ V (.loop { rec .ready none with state := .busy }) (r := w.heap.size + 1) (.inr (.inr rfl)))
      have s2 := Ch.putObj (fun j => SB j ∨ j = w.heap.size ∨ j = w.heap.size + 1) V (.loop { rec .ready none with state := .busy }) (r := w.heap.size + 1) (.inr (.inr rfl))
      refine wpIn_mono (hbody _ k _ _ (by simp; omega) i2) ?_
      have fin : ∀ (c : Code) (W3 : World), Ch SB (V.putObj (w.heap.size + 1) (.loop { rec .ready none with state := .busy })) W3 → Ix c W3 →
          (Instr.endRound (w.heap.size + 1) (some c)).run P W3 = .ok (.bool false) (W3.putObj (w.heap.size + 1) (.loop (rec .done (some c)))) ∧
          ∃ c', Ix c' (W3.putObj (w.heap.size + 1) (.loop (rec .done (some c)))) ∧ (W3.putObj (w.heap.size + 1) (.loop (rec .done (some c)))).heap[w.heap.size + 1]? = some (.loop (rec .done (some c'))) ∧ (W3.putObj (w.heap.size + 1) (.loop (rec .done (some c)))).heap[w.heap.size]? = some (.deferred (some [])) := fun c W3 hc hi3 => by
        have hl3 := (hc.block _ (Array.getElem?_eq_some_iff.1 hl2).1 nB.2).trans hl2
        have hk3 := (hc.block _ (Array.getElem?_eq_some_iff.1 hk2).1 nB.1).trans hk2
        have hend := run_endRound (P := P) (some c) hl3
        rw [hrec] at hend
        have c4 := Ch.putObj (fun j => SI j ∨ j = w.heap.size ∨ j = w.heap.size + 1) W3 (.loop (rec .done (some c))) (r := w.heap.size + 1) (.inr (.inr rfl))
        refine ⟨by rw [hrec]; exact hend, c, hIx c _ _ hi3 c4, World.putObj_heap_same (Array.getElem?_eq_some_iff.1 hl3).1, (World.putObj_heap_other (by omega)).trans hk3⟩
      rintro e a3 W3 hp
      cases e with
      | normal =>
        obtain ⟨hc, hg3, hi3⟩ := hp
        have hl3 := (hc.block _ (Array.getElem?_eq_some_iff.1 hl2).1 nB.2).trans hl2
        have hk3 := (hc.block _ (Array.getElem?_eq_some_iff.1 hk2).1 nB.1).trans hk2
        have hend := run_endRound (P := P) none hl3
        rw [hrec] at hend
        have hl4 : (W3.putObj (w.heap.size + 1) (.loop (rec .ready none))).heap[w.heap.size + 1]? = some (.loop (rec .ready none)) := World.putObj_heap_same (Array.getElem?_eq_some_iff.1 hl3).1
        have hk4 : (W3.putObj (w.heap.size + 1) (.loop (rec .ready none))).heap[w.heap.size]? = some (.deferred (some [])) := (World.putObj_heap_other (by omega)).trans hk3
        have c4 := Ch.putObj (fun j => SI j ∨ j = w.heap.size ∨ j = w.heap.size + 1) W3 (.loop (rec .ready none)) (r := w.heap.size + 1) (.inr (.inr rfl))
        have d4 := Ch.putObj (fun j => SB j ∨ j = w.heap.size ∨ j = w.heap.size + 1) W3 (.loop (rec .ready none)) (r := w.heap.size + 1) (.inr (.inr rfl))
        refine ⟨_, _, hend, .inl ⟨rfl, hg3, ?_, ?_⟩⟩
        · rw [hrec] at c4 hl4 hk4 ⊢
          exact ⟨hI _ _ _ hi3 c4, hl4, hk4⟩
        · rw [hrec] at d4
          exact hcW.trans ((s2.trans (hc.mono (fun j _ e => .inl e))).trans d4)
      | ret =>
        obtain ⟨hr, hx⟩ := fin .ret W3 hp.1 hp.2
        exact ⟨_, _, hr, .inr ⟨rfl, hx⟩⟩
      | exit id =>
        obtain ⟨hr, hx⟩ := fin (.exit id) W3 hp.1 hp.2
        exact ⟨_, _, hr, .inr ⟨rfl, hx⟩⟩
      | goto t =>
        obtain ⟨hr, hx⟩ := fin (.goto t) W3 hp.1 hp.2
        exact ⟨_, _, hr, .inr ⟨rfl, hx⟩⟩
      | panic ch => exact hp.elim
      | outgrown => exact hp.elim
    · rintro e W2 ⟨⟨v, rfl⟩, c, hi, hl, hk⟩
      exact ⟨some c, _, by have := run_endLoop (P := P) hl (by rw [hrec]; simp); rw [hrec] at this; exact this,
        hstop c _ (hIx c _ _ hi (Ch.putObj _ W2 _ (.inr (.inr rfl)))) ((World.putObj_heap_other (by omega)).trans hk)⟩

end Go.Proofs.YteojekiocecdnaaGreatDoor
