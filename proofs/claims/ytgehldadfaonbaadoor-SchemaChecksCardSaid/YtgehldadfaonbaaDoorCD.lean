/-
  The program's Copy.
-/
import Derived.Test.YtgehldadfaonbaaDoorCC
namespace Go.Proofs.YtgehldadfaonbaaDoor
open Go.RowKit Go.Shelf Go.ChangeMaps Go.Maps

theorem flat_set (L : List Col) (k : Nat) (hk : k < L.length) (c' : Col) (v : Value) (h : c'.cells.toList = (L.getD k default).cells.toList.set 3 v) : flat (L.set k c') = (flat L).set (k * 4 + 3) v := by
  unfold flat
  induction L generalizing k with
  | nil => simp at hk
  | cons c r ih =>
    cases k with
    | zero =>
      have h' : c'.cells.toList = c.cells.toList.set 3 v := h
      rw [List.set_cons_zero, List.flatMap_cons, List.flatMap_cons, h', Nat.zero_mul, Nat.zero_add, List.set_append_left 3 v (by simp)]
    | succ k =>
      rw [List.set_cons_succ, List.flatMap_cons, List.flatMap_cons, ih k (by simpa using hk) h, List.set_append_right _ _ (by simp; omega), show (k + 1) * 4 + 3 - c.cells.toList.length = k * 4 + 3 by simp; omega]
theorem getD_set_eq (L : List Col) {k : Nat} (hk : k < L.length) (c : Col) : (L.set k c).getD k default = c := by
  rw [List.getD_eq_getElem?_getD, List.getElem?_set_self hk]; rfl
theorem getD_set_ne (L : List Col) {k j : Nat} (h : j ≠ k) (c : Col) : (L.set k c).getD j default = L.getD j default := by
  rw [List.getD_eq_getElem?_getD, List.getD_eq_getElem?_getD, List.getElem?_set_ne (Ne.symm h)]
theorem own_mono {w : World} {base base' : Nat} {e : TypeId} {size : Nat} {v : Value} {n : Nat} {xs : List Value} (h : w.ownsRow base e size v n xs) (hb : base' ≤ base) : w.ownsRow base' e size v n xs := by
  refine ⟨h.1, ?_⟩
  rcases h.2 with hn | ⟨g, cap, cur, rfl, h1, rest⟩
  · exact .inl hn
  · exact .inr ⟨g, cap, cur, rfl, Nat.le_trans hb h1, rest⟩
theorem own_below {w w' : World} {base : Nat} {e : TypeId} {size : Nat} {v : Value} {n : Nat} {xs : List Value} (h : w.ownsRow base e size v n xs) (hb : Below w.heap.size w w') : w'.ownsRow base e size v n xs := own_ch (S := fun _ => False) h (Ch.below hb) (fun _ _ _ _ h => h)

/-- What holds ahead of column k of the program's copying. -/
structure CqJ (w : World) (s : Sch) (b1 k : Nat) (s' : Sch) (W : World) : Prop where
  bl : Below w.heap.size w W
  lo : w.heap.size ≤ b1
  nm : s.name = s'.name
  pb : s.pub = s'.pub
  mn : s.many = s'.many
  len : s'.cols.length = s.cols.length
  er : ∀ j, j < s.cols.length → erC (s'.cols.getD j default) = erC (s.cols.getD j default)
  same : ∀ j, k ≤ j → s'.cols.getD j default = s.cols.getD j default
  row : W.ownsRow w.heap.size 44 4 (.slice s'.ca s'.cols.length s'.cc) s'.cols.length (flat s'.cols)
  words : ∀ j, j < k → WOwn W w.heap.size (s'.cols.getD j default)
  at1 : SchAt W b1 s'
  at2 : SchAt W (b1 + 1) default
theorem CqJ.below {w : World} {s : Sch} {b1 k : Nat} {s' : Sch} {W W' : World} (h : CqJ w s b1 k s' W) (hb : Below W.heap.size W W') : CqJ w s b1 k s' W' :=
  ⟨h.bl.trans (hb.mono h.bl.size), h.lo, h.nm, h.pb, h.mn, h.len, h.er, h.same, own_below h.row hb, fun j hj => own_below (h.words j hj) hb, h.at1.below hb, h.at2.below hb⟩
theorem CqJ.cl {w : World} {s : Sch} {b1 k : Nat} {s' : Sch} {W : World} (h : CqJ w s b1 k s' W) (hk : k < s.cols.length) : ∃ g, s'.ca = some ⟨g, 0, none⟩ ∧ W.ownsRow w.heap.size 44 4 (.slice (some ⟨g, 0, none⟩) s'.cols.length s'.cc) s'.cols.length (flat s'.cols) := by
  have hr := h.row
  rcases hr.2 with ⟨_, h2⟩ | ⟨g, cap, cur, hv, _, hg, _⟩
  · rw [h.len] at h2; omega
  · simp only [Value.slice.injEq] at hv
    refine ⟨g, hv.1, ?_⟩
    rw [← hv.1]
    exact hr
theorem cq_start {w : World} {s : Sch} {w1 : World} {a' : Option Addr} {c' : Nat} (hb : Below w.heap.size w w1) (h1 : SchAt w1 w.heap.size s) (h2 : SchAt w1 (w.heap.size + 1) default)
    (ho : w1.ownsRow (w.heap.size + 2) 44 4 (.slice a' s.cols.length c') s.cols.length (flat s.cols)) :
    CqJ w s w.heap.size 0 ⟨s.name, s.pub, s.many, a', c', s.cols⟩ (w1.setCell ⟨w.heap.size, 3, none⟩ (.slice a' s.cols.length c')) := by
  have hc : Ch (fun j => j = w.heap.size) w1 (w1.setCell ⟨w.heap.size, 3, none⟩ (.slice a' s.cols.length c')) := Ch.setCell (fun j => j = w.heap.size) w1 _ rfl
  refine ⟨hb.setCell (Nat.le_refl _) _, Nat.le_refl _, rfl, rfl, rfl, rfl, fun j _ => rfl, fun j _ => rfl, ?_, fun j hj => absurd hj (Nat.not_lt_zero _), heap_setCell_same w1 _ 3 _ _ _ h1, h2.ch hc (by omega)⟩
  exact own_ch (own_mono ho (by omega)) hc (fun g cur hg hv e => by
    have := (ho.lt g hv).1
    have e' : g = w.heap.size := e
    omega)
/-- Behind the store of the words of column k. -/
theorem cq_step {w : World} {s : Sch} {b1 k : Nat} {s' : Sch} {W : World} {g : Nat} {c : Col} {a' : Option Addr} {c' : Nat} (h : CqJ w s b1 k s' W) (hk : k < s.cols.length) (hg : s'.ca = some ⟨g, 0, none⟩) (hc : s.cols.getD k default = c) (hw : W.ownsRow w.heap.size 9 1 (.slice a' c.ws.length c') c.ws.length (c.ws.map Value.string)) :
    CqJ w s b1 (k + 1) ⟨s'.name, s'.pub, s'.many, s'.ca, s'.cc, s'.cols.set k ⟨c.name, c.lo, c.hi, a', c', c.ws⟩⟩ (W.setCell ⟨g, k * 4 + 3, none⟩ (.slice a' c.ws.length c')) := by
  have hk' : k < s'.cols.length := by rw [h.len]; exact hk
  have hr := h.row
  rw [hg] at hr
  have hbg : w.heap.size ≤ g := (hr.lt g rfl).1
  have hst := (hr.stored (k * 4 + 3) (.slice a' c.ws.length c')).1
  have hch : Ch (fun j => j = g) W (W.setCell ⟨g, k * 4 + 3, none⟩ (.slice a' c.ws.length c')) := Ch.setCell (fun j => j = g) W _ rfl
  have hgs : s'.cols.getD k default = c := by rw [h.same k (Nat.le_refl _)]; exact hc
  have n1 : ∀ {t : TypeId} {j : Nat} {cur : Array Value}, W.heap[j]? = some (.cells cur t (0, 0)) → t ≠ 44 → ¬ j = g := fun {t j cur} hj ht e => own_type hr hj ht (by rw [e]; rfl)
  refine ⟨h.bl.setCell hbg _, h.lo, h.nm, h.pb, h.mn, by rw [List.length_set]; exact h.len, fun j hj => ?_, fun j hj => ?_, ?_, fun j hj => ?_, ?_, h.at2.ch hch (n1 h.at2 tneSC)⟩
  · by_cases e : j = k
    · subst e
      show erC ((s'.cols.set j _).getD j default) = _
      rw [getD_set_eq _ hk', hc]; rfl
    · show erC ((s'.cols.set k _).getD j default) = _
      rw [getD_set_ne _ e]; exact h.er j hj
  · show (s'.cols.set k _).getD j default = _
    rw [getD_set_ne _ (by omega)]; exact h.same j (by omega)
  · show (W.setCell ⟨g, k * 4 + 3, none⟩ (.slice a' c.ws.length c')).ownsRow w.heap.size 44 4 (.slice s'.ca (s'.cols.set k _).length s'.cc) (s'.cols.set k _).length (flat (s'.cols.set k _))
    rw [List.length_set, flat_set s'.cols k hk' _ (.slice a' c.ws.length c') (by rw [hgs]; rfl), hg]
    exact hst
  · show WOwn _ _ ((s'.cols.set k _).getD j default)
    by_cases e : j = k
    · subst e
      rw [getD_set_eq _ hk']
      exact own_ch hw hch (fun g' cur hg' _ => n1 hg' tneSK)
    · rw [getD_set_ne _ e]
      exact (h.words j (by omega)).ch hch (fun g' cur hg' => n1 hg' tneSK)
  · have := h.at1.ch hch (n1 h.at1 tneSC)
    unfold SchAt at this ⊢
    rw [this]
    show some (Obj.cells #[.string s'.name, .bool s'.pub, .int .i64 s'.many, .slice s'.ca s'.cols.length s'.cc] _ _) = some (Obj.cells #[.string s'.name, .bool s'.pub, .int .i64 s'.many, .slice s'.ca (s'.cols.set k _).length s'.cc] _ _)
    rw [List.length_set]
/-- At the end of the loop. -/
theorem cq_end {w : World} {s : Sch} {b1 : Nat} {s' : Sch} {W : World} (h : CqJ w s b1 s.cols.length s' W) : CpJ w s b1 s.cols.length s' W :=
  ⟨h.bl, h.lo, h.nm, h.pb, h.mn, h.len, by rw [List.take_length]; exact map_erC h.len (fun j hj => h.er j (by rw [← h.len]; exact hj)), ⟨h.row, fun j hj => h.words j (by rw [← h.len]; exact hj)⟩, h.at1, h.at2⟩
/-- Clone of words over a world that has grown. -/
theorem cloneW_lift {V W : World} {B m : Nat} {ao : Option Addr} {l : List ByteArray} {c : Nat} (h : Below V.heap.size V W) (hB : B ≤ V.heap.size) (hT : TL V ao l) (hm : m = l.length) (hle : l.length ≤ c) (hn : ao = none → c = 0) (h100 : l.length ≤ 100) :
    Calls Tryd.prog 44 #[.slice ao m c] W fun e w' => ∃ a' c', e = .returned (.slice a' m c') ∧ w'.ownsRow B 9 1 (.slice a' m c') m (l.map Value.string) ∧ Below V.heap.size V w' := by
  subst hm
  refine (cloneW_any (hT.below h) hle hn h100).mono ?_
  rintro e w' ⟨a', c', rfl, ho, hb⟩
  exact ⟨a', c', rfl, own_mono ho (Nat.le_trans hB h.size), h.trans (hb.mono h.size)⟩

end Go.Proofs.YtgehldadfaonbaaDoor
