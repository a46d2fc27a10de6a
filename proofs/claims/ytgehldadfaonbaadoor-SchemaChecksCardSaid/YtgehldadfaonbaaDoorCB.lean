/-
  The reference's Copy.
-/
import Derived.Test.YtgehldadfaonbaaDoorCA
namespace Go.Proofs.YtgehldadfaonbaaDoor
open Go.RowKit Go.Shelf Go.ChangeMaps Go.Maps

theorem own_type {w : World} {base : Nat} {e t : TypeId} {size : Nat} {v : Value} {n : Nat} {xs : List Value} (h : w.ownsRow base e size v n xs) {g : Nat} {cur : Array Value} (hg : w.heap[g]? = some (.cells cur t (0, 0))) (ht : t ≠ e) : v.ownBlock ≠ some g := by
  intro hv
  rcases h.2 with ⟨rfl, _⟩ | ⟨g', cap, cur', rfl, _, hgg, _⟩
  · simp [Value.ownBlock] at hv
  · simp [Value.ownBlock] at hv
    subst hv
    rw [hg] at hgg
    injection hgg with hgg
    injection hgg with _ e2 _
    exact ht e2
theorem getD_snocL {α : Type} [Inhabited α] (L : List α) (c : α) {j : Nat} (h : j < L.length) : (L ++ [c]).getD j default = L.getD j default := by
  rw [List.getD_eq_getElem?_getD, List.getD_eq_getElem?_getD, List.getElem?_append_left h]
theorem getD_snocR {α : Type} [Inhabited α] (L : List α) (c : α) : (L ++ [c]).getD L.length default = c := by
  rw [List.getD_eq_getElem?_getD, List.getElem?_append_right (Nat.le_refl _), Nat.sub_self]; rfl
theorem tneSK : (9 : TypeId) ≠ 44 := by decide
theorem tneSC : (24 : TypeId) ≠ 44 := by decide
theorem tneCK : (44 : TypeId) ≠ 9 := by decide

/-- What holds ahead of column k of the copying: s' is the copy so far. -/
structure CpJ (w : World) (s : Sch) (b1 k : Nat) (s' : Sch) (W : World) : Prop where
  bl : Below w.heap.size w W
  lo : w.heap.size ≤ b1
  nm : s.name = s'.name
  pb : s.pub = s'.pub
  mn : s.many = s'.many
  len : s'.cols.length = k
  er : s'.cols.map erC = (s.cols.take k).map erC
  own : COwn W w.heap.size s'
  at1 : SchAt W b1 s'
  at2 : SchAt W (b1 + 1) default
theorem CpJ.ch {w : World} {s : Sch} {b1 k : Nat} {s' : Sch} {W W' : World} (h : CpJ w s b1 k s' W) (hc : Ch (fun j => W.heap.size ≤ j) W W') : CpJ w s b1 k s' W' :=
  ⟨h.bl.trans ((hc.to_below (Nat.le_refl _) (fun _ h => h)).mono h.bl.size), h.lo, h.nm, h.pb, h.mn, h.len, h.er,
    h.own.ch hc (fun g cur hg => by have := (Array.getElem?_eq_some_iff.1 hg).1; omega) (fun g cur hg _ => by have := (Array.getElem?_eq_some_iff.1 hg).1; omega),
    h.at1.ch hc (by have := h.at1.lt; omega), h.at2.ch hc (by have := h.at2.lt; omega)⟩

/-- Behind the words' append and the store of the new words. -/
theorem cp_mid {w : World} {s : Sch} {b1 k : Nat} {s' : Sch} {wr w3 : World} {c : Col} {a' : Option Addr} {c' : Nat} (h : CpJ w s b1 k s' wr)
    (ho : w3.ownsRow w.heap.size 9 1 (.slice a' c.ws.length c') c.ws.length (c.ws.map Value.string))
    (hg : ((wr.alloc (.cells c.cells 44)).alloc (.cells #[] 9)).grownBy w3 (some (wr.heap.size + 1))) :
    w3.heap[wr.heap.size]? = some (.cells c.cells 44 (0, 0)) ∧
    CpJ w s b1 k s' (w3.setCell ⟨wr.heap.size, 3, none⟩ (.slice a' c.ws.length c')) ∧
    ColAt (w3.setCell ⟨wr.heap.size, 3, none⟩ (.slice a' c.ws.length c')) wr.heap.size ⟨c.name, c.lo, c.hi, a', c', c.ws⟩ ∧
    WOwn (w3.setCell ⟨wr.heap.size, 3, none⟩ (.slice a' c.ws.length c')) w.heap.size ⟨c.name, c.lo, c.hi, a', c', c.ws⟩ := by
  have h0 : (wr.alloc (.cells c.cells 44)).heap[wr.heap.size]? = some (.cells c.cells 44 (0, 0)) := heap_alloc_new wr _
  have s1 : (wr.alloc (.cells c.cells 44)).heap.size = wr.heap.size + 1 := by simp
  have h1 : ((wr.alloc (.cells c.cells 44)).alloc (.cells #[] 9)).heap[wr.heap.size]? = some (.cells c.cells 44 (0, 0)) := (Below.heap_alloc _ _ _ (by rw [s1]; omega)).trans h0
  have h3 : w3.heap[wr.heap.size]? = some (.cells c.cells 44 (0, 0)) := (hg.block _ (by simp; omega) (by simp)).trans h1
  have hc1 : Ch (fun j => wr.heap.size ≤ j) wr w3 := by
    refine ((Ch.alloc _ _ _).trans (Ch.alloc _ _ _)).trans ((Ch.grownBy (S := fun j => wr.heap.size ≤ j) hg) (fun r hr => ?_))
    have := Option.some.inj hr
    omega
  have hc2 : Ch (fun j => wr.heap.size ≤ j) w3 (w3.setCell ⟨wr.heap.size, 3, none⟩ (.slice a' c.ws.length c')) := Ch.setCell _ _ _ (Nat.le_refl _)
  refine ⟨h3, h.ch (hc1.trans hc2), ?_, ?_⟩
  · exact heap_setCell_same w3 wr.heap.size 3 _ _ _ h3
  · have : Ch (fun j => j = wr.heap.size) w3 (w3.setCell ⟨wr.heap.size, 3, none⟩ (.slice a' c.ws.length c')) := Ch.setCell _ _ _ rfl
    exact own_ch ho this (fun g cur hgg _ e => by
      have e' : g = wr.heap.size := e
      subst e'
      rw [h3] at hgg
      injection hgg with hgg
      injection hgg with _ e2 _
      exact tneCK e2)
/-- Behind the columns' append and the store of the new columns. -/
theorem cp_end {w : World} {s : Sch} {b1 k : Nat} {s' : Sch} {W w6 : World} {c c' : Col} {X : Obj} {a' : Option Addr} {cc' : Nat} (h : CpJ w s b1 k s' W) (hk : k < s.cols.length) (hc : s.cols.getD k default = c) (he : erC c = erC c') (hw : WOwn W w.heap.size c')
    (ho : w6.ownsRow w.heap.size 44 4 (.slice a' (k + 1) cc') (k + 1) (flat s'.cols ++ c'.cells.toList)) (hg : (W.alloc X).grownBy w6 (Value.slice s'.ca k s'.cc).ownBlock) :
    w6.heap[b1]? = some (.cells s'.cells 24 (0, 0)) ∧
    CpJ w s b1 (k + 1) ⟨s'.name, s'.pub, s'.many, a', cc', s'.cols ++ [c']⟩ (w6.setCell ⟨b1, 3, none⟩ (.slice a' (k + 1) cc')) := by
  have hC : Ch (fun _ => False) W (W.alloc X) := Ch.alloc _ _ _
  have hr := h.own.row
  rw [h.len] at hr
  have hrA : (W.alloc X).ownsRow w.heap.size 44 4 (.slice s'.ca k s'.cc) k (flat s'.cols) := hr.alloc X
  have g1 : Ch (fun j => some j = (Value.slice s'.ca k s'.cc).ownBlock) (W.alloc X) w6 := Ch.grownBy hg (fun r hr => hr.symm)
  have at1A := h.at1.ch hC (fun h => h)
  have at2A := h.at2.ch hC (fun h => h)
  have at1 : SchAt w6 b1 s' := at1A.ch g1 (fun e => own_type hrA at1A tneSC e.symm)
  have at2 : SchAt w6 (b1 + 1) default := at2A.ch g1 (fun e => own_type hrA at2A tneSC e.symm)
  have g2 : Ch (fun j => j = b1) w6 (w6.setCell ⟨b1, 3, none⟩ (.slice a' (k + 1) cc')) := Ch.setCell _ _ _ rfl
  have hlenk : (s'.cols ++ [c']).length = k + 1 := by rw [List.length_append, h.len]; rfl
  have wk : ∀ q, WOwn W w.heap.size q → WOwn (w6.setCell ⟨b1, 3, none⟩ (.slice a' (k + 1) cc')) w.heap.size q := fun q hq => by
    have q1 := hq.ch hC (fun _ _ _ h => h)
    have q2 := q1.ch g1 (fun g cur hgg e => own_type hrA hgg tneSK e.symm)
    exact q2.ch g2 (fun g cur hgg e => by
      have e' : g = b1 := e
      subst e'
      have := at1
      unfold SchAt at this
      rw [this] at hgg
      injection hgg with hgg
      injection hgg with _ e2 _
      exact absurd e2 (by decide))
  refine ⟨at1, ⟨?_, h.lo, h.nm, h.pb, h.mn, hlenk, ?_, ⟨?_, fun j hj => ?_⟩, ?_, ?_⟩⟩
  · refine ((h.bl.alloc h.bl.size X).grown hg ?_ (fun g hg => (hrA.lt g hg).1)).setCell h.lo _
    have := h.bl.size
    simp; omega
  · rw [List.map_append, h.er, List.take_succ_eq_append_getElem hk, List.map_append]
    rw [List.getD_eq_getElem?_getD, List.getElem?_eq_getElem hk] at hc
    have hc' : s.cols[k] = c := hc
    rw [hc', List.map_cons, List.map_nil, List.map_cons, List.map_nil, he]
  · show (w6.setCell ⟨b1, 3, none⟩ (.slice a' (k + 1) cc')).ownsRow w.heap.size 44 4 (.slice a' (s'.cols ++ [c']).length cc') (s'.cols ++ [c']).length (flat (s'.cols ++ [c']))
    rw [hlenk, flat_snoc]
    exact own_ch ho g2 (fun g cur hgg _ e => by
      have e' : g = b1 := e
      subst e'
      have := at1
      unfold SchAt at this
      rw [this] at hgg
      injection hgg with hgg
      injection hgg with _ e2 _
      exact tneSC e2)
  · have hj' : j < k + 1 := by rw [← hlenk]; exact hj
    rcases Nat.lt_succ_iff_lt_or_eq.1 hj' with hlt | heq
    · have : (s'.cols ++ [c']).getD j default = s'.cols.getD j default := getD_snocL _ _ (by rw [h.len]; exact hlt)
      show WOwn _ _ ((s'.cols ++ [c']).getD j default)
      rw [this]
      exact wk _ (h.own.words j (by rw [h.len]; exact hlt))
    · have : (s'.cols ++ [c']).getD j default = c' := by rw [heq, ← h.len]; exact getD_snocR _ _
      show WOwn _ _ ((s'.cols ++ [c']).getD j default)
      rw [this]
      exact wk _ hw
  · have := heap_setCell_same w6 b1 3 _ _ (.slice a' (k + 1) cc') at1
    unfold SchAt
    rw [this]
    show some (Obj.cells #[.string s'.name, .bool s'.pub, .int .i64 s'.many, .slice a' (k + 1) cc'] _ _) = some (Obj.cells #[.string s'.name, .bool s'.pub, .int .i64 s'.many, .slice a' (s'.cols ++ [c']).length cc'] _ _)
    rw [hlenk]
  · exact at2.ch g2 (by omega)

end Go.Proofs.YtgehldadfaonbaaDoor
