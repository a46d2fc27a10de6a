/-
  The reference of layer 8: collect.
-/
import Derived.Test.YtofanopnibbaeaaGreatDoorZ6
import Derived.OrdersHeld
import Derived.Deep.AppendLies
import Derived.Laws.OwnMore
import Derived.Maps.AppendAt
import Derived.Sort.Walk0
namespace Go.Proofs.YtofanopnibbaeaaGreatDoor
open Go.RowKit NV
open Go.Lib (decDigits)

section
variable {P : Program} {ops : Array Oper} {Q : Exit → Act → World → Prop} {md : Region.Mode} {S : World → Prop}
theorem wpHz_one {i fuel : Nat} {l : Array Bool} {a : Act} {w : World} (hr : Region.ready md ops l = [i]) (h : wpOp P ops Q i (fun a' w' => S w' ∧ wpAnyH P md ops Q S fuel (l.setIfInBounds i true) a' w') a w) : wpAnyH P md ops Q S (fuel + 1) l a w :=
  wpAnyH_all hr (by simp) fun j hj => by
    rw [List.mem_singleton] at hj
    subst hj; exact h
theorem wpHz_two {i j fuel : Nat} {l : Array Bool} {a : Act} {w : World} (hr : Region.ready md ops l = [i, j]) (h : wpOp P ops Q i (fun a' w' => S w' ∧ wpAnyH P md ops Q S fuel (l.setIfInBounds i true) a' w') a w) (h2 : wpOp P ops Q j (fun a' w' => S w' ∧ wpAnyH P md ops Q S fuel (l.setIfInBounds j true) a' w') a w) : wpAnyH P md ops Q S (fuel + 1) l a w :=
  wpAnyH_all hr (by simp) fun k hk => by
    rcases List.mem_cons.1 hk with rfl | hk
    · exact h
    · rw [List.mem_singleton] at hk
      subst hk; exact h2
theorem wpHz_take {i : Nat} {oi : Oper} {v : Value} {d fuel : Nat} {listed : Array Bool} {a : Act} {w : World} (hi : ops[i]? = some oi) (hd : oi.dst = some d)
    (hs : Region.noSelect ops = true) (hf : Region.free md ops listed i = true) (hr : (Region.ready md ops listed).contains i = true)
    (hQ : ∀ c a w, Q (.panic c) (a.put (some d) v) w → Q (.panic c) a w) (hg : oi.guard = none) (hy : ∀ w, S w → (execOp a.eval oi).run P w = .ok (.value v) w) (hS : S w)
    (h : wpAnyH P md ops Q S fuel (listed.setIfInBounds i true) (a.put (some d) v) w) : wpAnyH P md ops Q S (fuel + 1) listed a w :=
  wpAnyH_take hi hs hf hr (hd ▸ hQ) (.inl ⟨by simp [Region.wanted, hg], hy⟩) hS (hd ▸ h)
theorem wpOz_run {i : Nat} {o : Oper} {K : Act → World → Prop} {a : Act} {w : World} (hi : ops[i]? = some o) (hg : o.guard = none) (h : Oper.wp P o a w K Q) : wpOp P ops Q i K a w := by
  unfold wpOp
  simp only [hi]
  rw [if_pos (by simp [Region.wanted, hg])]
  exact .inl h
theorem wpz_value {o : Oper} {K : Act → World → Prop} {a : Act} {w w' : World} {v : Value} {d : Nat} (hd : o.dst = some d) (h : (execOp a.eval o).run P w = .ok (.value v) w') (hK : K (a.put (some d) v) w') : Oper.wp P o a w K Q := by
  unfold Oper.wp
  rw [h]
  simp only [Oper.upon, hd]; exact hK
theorem wpz_enter {o : Oper} {K : Act → World → Prop} {a : Act} {w : World} {f : FuncId} {args : Array Value} {d : Nat} (hd : o.dst = some d) (h : (execOp a.eval o).run P w = .ok (.enter f args) w)
    (hC : Calls P f args w fun e w' => ∃ v, e = .returned v ∧ K (a.put (some d) v) w') : Oper.wp P o a w K Q := by
  unfold Oper.wp
  rw [h]
  simp only [Oper.upon]
  refine hC.mono ?_
  rintro e w' ⟨v, rfl, hK⟩
  rw [hd]; exact hK
theorem wp_world {c : Code} {a : Act} {w wo : World} {B : Nat} {R : Exit → Act → World → Prop} (hb : Below B wo w) (h : ∀ W, Below B wo W → c.wp P R a W) : c.wp P R a w := h w hb
end


/-- In the middle of Add: a row of the call's own, and the block of the new outcome. -/
structure InsS (w W : World) (v : Value) (n : Nat) (xs : List Value) (B : Nat) (key p : ByteArray) : Prop where
  below : Below w.heap.size w W
  row : W.ownsRow w.heap.size 29 2 v n xs
  blk : W.heap[B]? = some (.cells #[.string key, .string p] 29 (0, 0))
  ne : v.ownBlock ≠ some B
/-- The row alone. -/
structure InsR (w W : World) (v : Value) (n : Nat) (xs : List Value) : Prop where
  below : Below w.heap.size w W
  row : W.ownsRow w.heap.size 29 2 v n xs
/-- The block alone. -/
structure InsB (w W : World) (B : Nat) (key p : ByteArray) : Prop where
  below : Below w.heap.size w W
  blk : W.heap[B]? = some (.cells #[.string key, .string p] 29 (0, 0))
theorem InsR.lit {w W : World} (h : Below w.heap.size w W) : InsR w (W.alloc (.cells #[] 29)) (.slice (some ⟨W.heap.size, 0, none⟩) 0 0) 0 [] :=
  ⟨h.alloc h.size _, World.ownsRow_lit W #[] 0 h.size (by unfold maxLen; omega) rfl⟩
theorem InsB.lit {w W : World} {B : Nat} {key p : ByteArray} (h : InsB w W B key p) : InsS w (W.alloc (.cells #[] 29)) (.slice (some ⟨W.heap.size, 0, none⟩) 0 0) 0 [] B key p := by
  have hlt : B < W.heap.size := (Array.getElem?_eq_some_iff.1 h.blk).1
  refine ⟨(InsR.lit h.below).below, (InsR.lit h.below).row, (Below.heap_alloc _ _ _ hlt).trans h.blk, ?_⟩
  intro e
  have : W.heap.size = B := by simpa [Value.ownBlock] using e
  omega
theorem InsB.new {w W : World} (key p : ByteArray) (h : Below w.heap.size w W) : InsB w (W.alloc (.cells #[.string key, .string p] 29)) W.heap.size key p :=
  ⟨h.alloc h.size _, heap_alloc_new _ _⟩
theorem InsR.new {w W : World} {v : Value} {n : Nat} {xs : List Value} (key p : ByteArray) (h : InsR w W v n xs) : InsS w (W.alloc (.cells #[.string key, .string p] 29)) v n xs W.heap.size key p :=
  ⟨h.below.alloc h.below.size _, h.row.alloc _, heap_alloc_new _ _, fun e => by have := (h.row.lt _ e).2; omega⟩
theorem InsR.grown {w W W' : World} {v v' : Value} {n n' : Nat} {xs xs' : List Value} (h : InsR w W v n xs) (hr : W'.ownsRow w.heap.size 29 2 v' n' xs') (hg : W.grownBy W' v.ownBlock) : InsR w W' v' n' xs' :=
  ⟨h.below.grown hg h.below.size (fun b hb => (h.row.lt b hb).1), hr⟩
theorem InsS.row1 {w W : World} {v : Value} {n : Nat} {xs : List Value} {B : Nat} {key p : ByteArray} (h : InsS w W v n xs B key p) : InsR w W v n xs := ⟨h.below, h.row⟩
theorem InsS.grown {w W W' : World} {v v' : Value} {n n' : Nat} {xs xs' : List Value} {B : Nat} {key p : ByteArray} (h : InsS w W v n xs B key p) (hr : W'.ownsRow w.heap.size 29 2 v' n' xs') (hg : W.grownBy W' v.ownBlock) (ho : v'.ownBlock = v.ownBlock ∨ v'.ownBlock = some W.heap.size) : InsS w W' v' n' xs' B key p := by
  have hlt : B < W.heap.size := (Array.getElem?_eq_some_iff.1 h.blk).1
  refine ⟨(h.row1.grown hr hg).below, hr, (hg.block B hlt (Ne.symm h.ne)).trans h.blk, fun e => ?_⟩
  rcases ho with ho | ho
  · exact h.ne (ho ▸ e)
  · rw [ho] at e
    have : W.heap.size = B := by simpa using e
    omega

end Go.Proofs.YtofanopnibbaeaaGreatDoor
