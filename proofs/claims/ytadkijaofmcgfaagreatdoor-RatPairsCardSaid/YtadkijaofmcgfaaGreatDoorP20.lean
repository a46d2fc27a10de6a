/-
  rat's withOne and withTwo of texts.
-/
import Derived.Test.YtadkijaofmcgfaaGreatDoorP11
namespace Go.Proofs.YtadkijaofmcgfaaGreatDoor
open Go.RowKit NV

theorem ml_keep {w w' : World} (hm : ML w) (h0 : 0 < w.heap.size) (hb : Below w.heap.size w w') : ML w' := by
  obtain ⟨m, hm⟩ := hm
  exact ⟨m, (hb.cell (p := ⟨0, 0, none⟩) h0).trans hm⟩
theorem ml_pos {w : World} (hm : ML w) : 0 < w.heap.size := by
  obtain ⟨m, hm⟩ := hm
  by_cases h : 0 < w.heap.size
  · exact h
  · have : w.heap = #[] := Array.eq_empty_of_size_eq_zero (by omega)
    simp [World.cell?, this] at hm

set_option maxHeartbeats 1600000 in
/-- withOne returns the error of the text. -/
theorem withOne_err (fv : Value) (s : ByteArray) (w : World) (hs : s.size ≤ 1000000) (hm : ML w) (h0 : rchk s ≠ 0) :
    Calls Tryz.prog 71 #[.string s, fv] w fun e w' => e = .returned (.tuple #[.string ⟨#[]⟩, .int .i64 ((rchk s : Nat) : Int)]) ∧ Below w.heap.size w w' := by
  have HR := Lib.hid (read_any s w hs hm)
  have hz : (((rchk s : Nat) : Int) != 0) = true := by rw [bne_iff_ne]; omega
  clear hm h0
  go_enter Tryz.func71, Tryz.ntmps71
  go_wp2_with fail
  refine HR.out.mono ?_
  rintro e w1 ⟨⟨m, a1, L1, k1, a2, L2, k2, rfl, -⟩, hb⟩
  have HB := Lib.hid (hb.alloc hb.size (.cells #[.bool m, .slice a1 L1 k1, .slice a2 L2 k2] 49))
  clear hb HR
  go_wp2_with fail
  go_ret2
  exact ⟨rfl, HB.out⟩

set_option maxHeartbeats 3200000 in
/-- withOne returns what the function makes of the number. -/
theorem withOne_ok (g : Nat) (lb : Array Value) (eg : ∀ args w, (callFunc g args).run Tryz.prog w = .ok (.enter g args) w) (s : ByteArray) (w : World) (hs : s.size ≤ 1000000) (hm : ML w) (h0 : rchk s = 0) (r1 r2 : Value)
    (hp : ∀ W v, Below w.heap.size w W → FNum W v (minusB (numS s)) (dv (restS (numS s)).data.toList) (dv (denS s).data.toList) → Calls Tryz.prog g (#[v] ++ lb) W fun e w' => e = .returned (.tuple #[r1, r2]) ∧ Below W.heap.size W w') :
    Calls Tryz.prog 71 #[.string s, .func (.func g) #[] lb] w fun e w' => e = .returned (.tuple #[r1, r2]) ∧ Below w.heap.size w w' := by
  have HR := Lib.hid (read_any s w hs hm)
  have hz : (((rchk s : Nat) : Int) != 0) = false := by rw [h0]; rfl
  have HP := Lib.hid hp
  have H0 := Lib.hid h0
  clear hm h0 hp
  go_enter Tryz.func71, Tryz.ntmps71
  go_wp2_with fail
  refine HR.out.mono ?_
  rintro e w1 ⟨⟨m, a1, L1, k1, a2, L2, k2, rfl, hn⟩, hb⟩
  obtain ⟨hm, hn1, hn2⟩ := hn H0.out
  have hb2 : Below w1.heap.size w1 (w1.alloc (.cells #[.bool m, .slice a1 L1 k1, .slice a2 L2 k2] 49)) := (Below.refl _ _).alloc (Nat.le_refl _) _
  have HB := Lib.hid (hb.alloc hb.size (.cells #[.bool m, .slice a1 L1 k1, .slice a2 L2 k2] 49))
  have HC := Lib.hid (HP.out (w1.alloc (.cells #[.bool m, .slice a1 L1 k1, .slice a2 L2 k2] 49)) (.agg #[.bool m, .slice a1 L1 k1, .slice a2 L2 k2]) HB.out ⟨_, _, by rw [hm], hn1.below hb2, hn2.below hb2⟩)
  clear hb HR HP hm hn1 hn2 hb2 hn
  go_wp2_with fail
  have HB2 := HB
  go_wp2_with (go_at_fn g; refine HC.out.mono ?_; rintro e w2 ⟨rfl, hb⟩)
  go_ret2
  exact ⟨rfl, HB2.out.trans (hb.mono HB2.out.size)⟩

/-- Block b holds a function. -/
def Fv (w : World) (b h : Nat) : Prop := w.heap[b]? = some (.cells #[.func (.func h) #[] #[]] 57 (0, 0))
theorem Fv.keep {w w' : World} {b h : Nat} (hf : Fv w b h) (hb : Below w.heap.size w w') : Fv w' b h := (hb.block _ (Array.getElem?_eq_some_iff.1 hf).1).trans hf
theorem Fv.c0 {w : World} {b h : Nat} (hf : Fv w b h) : w.cell? ⟨b, 0, none⟩ = some (.func (.func h) #[] #[]) := by rw [Lib.cell_of_heap hf]; rfl

set_option maxHeartbeats 3200000 in
theorem two11 {W : World} {bf bx h : Nat} {m1 m2 : Bool} {n1 d1 n2 d2 : Nat} {x1 y1 u : Value} (eh : ∀ args w, (callFunc h args).run Tryz.prog w = .ok (.enter h args) w) (r1 r2 : Value)
    (hf : Fv W bf h) (hx : FR W bx m1 x1 y1) (hx1 : Num W x1 n1) (hy1 : Num W y1 d1) (hu : FNum W u m2 n2 d2)
    (hp : ∀ W' v u, Below W.heap.size W W' → FNum W' v m1 n1 d1 → FNum W' u m2 n2 d2 → Calls Tryz.prog h #[v, u] W' fun e w' => e = .returned (.tuple #[r1, r2]) ∧ Below W'.heap.size W' w') :
    Calls Tryz.prog 124 #[u, .pointer (some ⟨bf, 0, none⟩), .pointer (some ⟨bx, 0, none⟩)] W fun e w' => e = .returned (.tuple #[r1, r2]) ∧ Below W.heap.size W w' := by
  obtain ⟨x2, y2, rfl, hx2, hy2⟩ := hu
  obtain ⟨a1, k1, rfl⟩ := slice_any hx1
  obtain ⟨a2, k2, rfl⟩ := slice_any hy1
  obtain ⟨a3, k3, rfl⟩ := slice_any hx2
  obtain ⟨a4, k4, rfl⟩ := slice_any hy2
  have hb0 : Below W.heap.size W (W.alloc (.cells #[.bool m2, .slice a3 (ln n2) k3, .slice a4 (ln d2) k4] 49)) := (Below.refl _ _).alloc (Nat.le_refl _) _
  have HB := Lib.hid hb0
  have HC := Lib.hid (hp (W.alloc (.cells #[.bool m2, .slice a3 (ln n2) k3, .slice a4 (ln d2) k4] 49)) (.agg #[.bool m1, .slice a1 (ln n1) k1, .slice a2 (ln d1) k2]) (.agg #[.bool m2, .slice a3 (ln n2) k3, .slice a4 (ln d2) k4]) hb0 ⟨_, _, rfl, hx1.below hb0, hy1.below hb0⟩ ⟨_, _, rfl, hx2.below hb0, hy2.below hb0⟩)
  have f0 := (hf.keep hb0).c0
  have c0 := (hx.keep hb0).c0
  have c1 := (hx.keep hb0).c1
  have c2 := (hx.keep hb0).c2
  clear hf hx hx1 hy1 hx2 hy2 hp hb0
  go_enter Tryz.func124, Tryz.ntmps124
  go_wp2_with (go_at_fn h; refine HC.out.mono ?_; rintro e w2 ⟨rfl, hb⟩)
  go_ret2
  exact ⟨rfl, HB.out.trans (hb.mono HB.out.size)⟩

/-- Block b holds a text. -/
def Tx (w : World) (b : Nat) (t : ByteArray) : Prop := w.heap[b]? = some (.cells #[.string t] 23 (0, 0))
theorem Tx.keep {w w' : World} {b : Nat} {t : ByteArray} (hf : Tx w b t) (hb : Below w.heap.size w w') : Tx w' b t := (hb.block _ (Array.getElem?_eq_some_iff.1 hf).1).trans hf
theorem Tx.c0 {w : World} {b : Nat} {t : ByteArray} (hf : Tx w b t) : w.cell? ⟨b, 0, none⟩ = some (.string t) := by rw [Lib.cell_of_heap hf]; rfl

set_option maxHeartbeats 3200000 in
theorem two1_ok {W : World} {bb bf h : Nat} {m1 : Bool} {n1 d1 : Nat} {u : Value} {t : ByteArray} (eh : ∀ args w, (callFunc h args).run Tryz.prog w = .ok (.enter h args) w) (r1 r2 : Value)
    (ht : t.size ≤ 1000000) (hm : ML W) (hw0 : 0 < W.heap.size) (h0 : rchk t = 0) (hf : Fv W bf h) (hx : Tx W bb t) (hu : FNum W u m1 n1 d1)
    (hp : ∀ W' v u, Below W.heap.size W W' → FNum W' v m1 n1 d1 → FNum W' u (minusB (numS t)) (dv (restS (numS t)).data.toList) (dv (denS t).data.toList) → Calls Tryz.prog h #[v, u] W' fun e w' => e = .returned (.tuple #[r1, r2]) ∧ Below W'.heap.size W' w') :
    Calls Tryz.prog 123 #[u, .pointer (some ⟨bb, 0, none⟩), .pointer (some ⟨bf, 0, none⟩)] W fun e w' => e = .returned (.tuple #[r1, r2]) ∧ Below W.heap.size W w' := by
  have hmf : ∀ (fn : Fn) (first cap : Array Value) (w : World), (Instr.makeFunc fn first cap).run Tryz.prog w = .ok (.func fn first cap) w := fun _ _ _ _ => rfl
  obtain ⟨x1, y1, rfl, hx1, hy1⟩ := hu
  obtain ⟨a1, k1, rfl⟩ := slice_any hx1
  obtain ⟨a2, k2, rfl⟩ := slice_any hy1
  have hb0 : Below W.heap.size W (W.alloc (.cells #[.bool m1, .slice a1 (ln n1) k1, .slice a2 (ln d1) k2] 49)) := (Below.refl _ _).alloc (Nat.le_refl _) _
  have hq := FR.new W m1 (.slice a1 (ln n1) k1) (.slice a2 (ln d1) k2)
  have hx1 := hx1.below hb0
  have hy1 := hy1.below hb0
  have hf0 := hf.keep hb0
  have f0 := (hx.keep hb0).c0
  have hm0 : ML (W.alloc (.cells #[.bool m1, .slice a1 (ln n1) k1, .slice a2 (ln d1) k2] 49)) := ml_keep hm hw0 hb0
  have HB := Lib.hid hb0
  have e2 : ∀ args w, (callFunc 124 args).run Tryz.prog w = .ok (.enter 124 args) w := enters_of Tryz.func124 (by kernel_rfl) rfl
  have HC := Lib.hid (withOne_ok 124 #[.pointer (some ⟨bf, 0, none⟩), .pointer (some ⟨W.heap.size, 0, none⟩)] e2 t _ ht hm0 h0 r1 r2 (fun W2 v2 hb2 hv2 =>
    two11 eh r1 r2 (hf0.keep hb2) (hq.keep hb2) (hx1.below hb2) (hy1.below hb2) hv2 (fun W3 v3 u3 hb3 => hp W3 v3 u3 (hb0.trans ((hb2.trans (hb3.mono hb2.size)).mono hb0.size)))))
  clear hf hx hx1 hy1 hp hb0 hf0 hm0 hq
  go_enter Tryz.func123, Tryz.ntmps123
  go_wp2_with fail
  refine HC.out.mono ?_
  rintro e w2 ⟨rfl, hb⟩
  have HB2 := Lib.hid (HB.out.trans (hb.mono HB.out.size))
  clear hb HC
  go_wp2_with fail
  go_ret2
  exact ⟨rfl, HB2.out⟩

set_option maxHeartbeats 3200000 in
theorem two1_err {W : World} {bb bf : Nat} {m1 : Bool} {n1 d1 : Nat} {u : Value} {t : ByteArray}
    (ht : t.size ≤ 1000000) (hm : ML W) (hw0 : 0 < W.heap.size) (h0 : rchk t ≠ 0) (hx : Tx W bb t) (hu : FNum W u m1 n1 d1) :
    Calls Tryz.prog 123 #[u, .pointer (some ⟨bb, 0, none⟩), .pointer (some ⟨bf, 0, none⟩)] W fun e w' => e = .returned (.tuple #[.string ⟨#[]⟩, .int .i64 ((rchk t : Nat) : Int)]) ∧ Below W.heap.size W w' := by
  have hmf : ∀ (fn : Fn) (first cap : Array Value) (w : World), (Instr.makeFunc fn first cap).run Tryz.prog w = .ok (.func fn first cap) w := fun _ _ _ _ => rfl
  obtain ⟨x1, y1, rfl, hx1, hy1⟩ := hu
  obtain ⟨a1, k1, rfl⟩ := slice_any hx1
  obtain ⟨a2, k2, rfl⟩ := slice_any hy1
  have hb0 : Below W.heap.size W (W.alloc (.cells #[.bool m1, .slice a1 (ln n1) k1, .slice a2 (ln d1) k2] 49)) := (Below.refl _ _).alloc (Nat.le_refl _) _
  have f0 := (hx.keep hb0).c0
  have hm0 : ML (W.alloc (.cells #[.bool m1, .slice a1 (ln n1) k1, .slice a2 (ln d1) k2] 49)) := ml_keep hm hw0 hb0
  have HB := Lib.hid hb0
  have HC := Lib.hid (fun fv => withOne_err fv t _ ht hm0 h0)
  clear hx hx1 hy1 hb0 hm0 h0
  go_enter Tryz.func123, Tryz.ntmps123
  go_wp2_with fail
  refine (HC.out _).mono ?_
  rintro e w2 ⟨rfl, hb⟩
  have HB2 := Lib.hid (HB.out.trans (hb.mono HB.out.size))
  clear hb HC
  go_wp2_with fail
  go_ret2
  exact ⟨rfl, HB2.out⟩

theorem two_new (w : World) (t : ByteArray) (h : Nat) : Below w.heap.size w ((w.alloc (.cells #[.string t] 23)).alloc (.cells #[.func (.func h) #[] #[]] 57)) ∧
    Tx ((w.alloc (.cells #[.string t] 23)).alloc (.cells #[.func (.func h) #[] #[]] 57)) w.heap.size t ∧
    Fv ((w.alloc (.cells #[.string t] 23)).alloc (.cells #[.func (.func h) #[] #[]] 57)) (w.heap.size + 1) h := by
  have h1 : Tx (w.alloc (.cells #[.string t] 23)) w.heap.size t := heap_alloc_new w _
  have s1 : (w.alloc (.cells #[.string t] 23)).heap.size = w.heap.size + 1 := by simp
  have b1 : Below w.heap.size w (w.alloc (.cells #[.string t] 23)) := (Below.refl _ _).alloc (Nat.le_refl _) _
  generalize w.alloc (.cells #[.string t] 23) = w1 at *
  have h2 : Fv (w1.alloc (.cells #[.func (.func h) #[] #[]] 57)) w1.heap.size h := heap_alloc_new w1 _
  have b2 : Below w1.heap.size w1 (w1.alloc (.cells #[.func (.func h) #[] #[]] 57)) := (Below.refl _ _).alloc (Nat.le_refl _) _
  exact ⟨b1.trans (b2.mono (by omega)), h1.keep b2, by rw [← s1]; exact h2⟩

set_option maxHeartbeats 3200000 in
/-- withTwo returns the error of the first text. -/
theorem withTwo_err1 (h : Nat) (s t : ByteArray) (w : World) (hs : s.size ≤ 1000000) (hm : ML w) (hw0 : 0 < w.heap.size) (h1 : rchk s ≠ 0) :
    Calls Tryz.prog 61 #[.string s, .string t, .func (.func h) #[] #[]] w fun e w' => e = .returned (.tuple #[.string ⟨#[]⟩, .int .i64 ((rchk s : Nat) : Int)]) ∧ Below w.heap.size w w' := by
  have hmf : ∀ (fn : Fn) (first cap : Array Value) (w : World), (Instr.makeFunc fn first cap).run Tryz.prog w = .ok (.func fn first cap) w := fun _ _ _ _ => rfl
  obtain ⟨hb0, ht0, hf0⟩ := two_new w t h
  have hm0 := ml_keep hm hw0 hb0
  have HB := Lib.hid hb0
  have HC := Lib.hid (fun fv => withOne_err fv s _ hs hm0 h1)
  clear hb0 ht0 hf0 hm0 h1 hm
  go_enter Tryz.func61, Tryz.ntmps61
  go_wp2_with fail
  refine (HC.out _).mono ?_
  rintro e w2 ⟨rfl, hb⟩
  have HB2 := Lib.hid (HB.out.trans (hb.mono HB.out.size))
  clear hb HC
  go_wp2_with fail
  go_ret2
  exact ⟨rfl, HB2.out⟩

set_option maxHeartbeats 3200000 in
/-- withTwo, where the first text is a number: what its inner function returns. -/
theorem withTwo_one (h : Nat) (s t : ByteArray) (w : World) (hs : s.size ≤ 1000000) (hm : ML w) (hw0 : 0 < w.heap.size) (h1 : rchk s = 0) (r1 r2 : Value)
    (hp : ∀ W v, Below w.heap.size w W → Tx W w.heap.size t → Fv W (w.heap.size + 1) h → FNum W v (minusB (numS s)) (dv (restS (numS s)).data.toList) (dv (denS s).data.toList) →
      Calls Tryz.prog 123 #[v, .pointer (some ⟨w.heap.size, 0, none⟩), .pointer (some ⟨w.heap.size + 1, 0, none⟩)] W fun e w' => e = .returned (.tuple #[r1, r2]) ∧ Below W.heap.size W w') :
    Calls Tryz.prog 61 #[.string s, .string t, .func (.func h) #[] #[]] w fun e w' => e = .returned (.tuple #[r1, r2]) ∧ Below w.heap.size w w' := by
  have hmf : ∀ (fn : Fn) (first cap : Array Value) (w : World), (Instr.makeFunc fn first cap).run Tryz.prog w = .ok (.func fn first cap) w := fun _ _ _ _ => rfl
  obtain ⟨hb0, ht0, hf0⟩ := two_new w t h
  have hm0 := ml_keep hm hw0 hb0
  have HB := Lib.hid hb0
  have e1 : ∀ args w, (callFunc 123 args).run Tryz.prog w = .ok (.enter 123 args) w := enters_of Tryz.func123 (by kernel_rfl) rfl
  have HC := Lib.hid (withOne_ok 123 #[.pointer (some ⟨w.heap.size, 0, none⟩), .pointer (some ⟨w.heap.size + 1, 0, none⟩)] e1 s _ hs hm0 h1 r1 r2 (fun W2 v2 hb2 hv2 =>
    hp W2 v2 (hb0.trans (hb2.mono hb0.size)) (ht0.keep hb2) (hf0.keep hb2) hv2))
  clear hb0 ht0 hf0 hm0 hp hm
  go_enter Tryz.func61, Tryz.ntmps61
  go_wp2_with fail
  refine HC.out.mono ?_
  rintro e w2 ⟨rfl, hb⟩
  have HB2 := Lib.hid (HB.out.trans (hb.mono HB.out.size))
  clear hb HC
  go_wp2_with fail
  go_ret2
  exact ⟨rfl, HB2.out⟩

theorem withTwo_err2 (h : Nat) (s t : ByteArray) (w : World) (hs : s.size ≤ 1000000) (ht : t.size ≤ 1000000) (hm : ML w) (hw0 : 0 < w.heap.size) (h1 : rchk s = 0) (h2 : rchk t ≠ 0) :
    Calls Tryz.prog 61 #[.string s, .string t, .func (.func h) #[] #[]] w fun e w' => e = .returned (.tuple #[.string ⟨#[]⟩, .int .i64 ((rchk t : Nat) : Int)]) ∧ Below w.heap.size w w' :=
  withTwo_one h s t w hs hm hw0 h1 _ _ (fun _ _ hb hx _ hv => two1_err ht (ml_keep hm hw0 hb) (Nat.lt_of_lt_of_le hw0 hb.size) h2 hx hv)

/-- withTwo returns what the function makes of two numbers. -/
theorem withTwo_ok (h : Nat) (eh : ∀ args w, (callFunc h args).run Tryz.prog w = .ok (.enter h args) w) (s t : ByteArray) (w : World) (hs : s.size ≤ 1000000) (ht : t.size ≤ 1000000) (hm : ML w) (hw0 : 0 < w.heap.size) (h1 : rchk s = 0) (h2 : rchk t = 0) (r1 r2 : Value)
    (hp : ∀ W v u, Below w.heap.size w W → FNum W v (minusB (numS s)) (dv (restS (numS s)).data.toList) (dv (denS s).data.toList) → FNum W u (minusB (numS t)) (dv (restS (numS t)).data.toList) (dv (denS t).data.toList) → Calls Tryz.prog h #[v, u] W fun e w' => e = .returned (.tuple #[r1, r2]) ∧ Below W.heap.size W w') :
    Calls Tryz.prog 61 #[.string s, .string t, .func (.func h) #[] #[]] w fun e w' => e = .returned (.tuple #[r1, r2]) ∧ Below w.heap.size w w' :=
  withTwo_one h s t w hs hm hw0 h1 r1 r2 (fun _ _ hb hx hf hv => two1_ok eh r1 r2 ht (ml_keep hm hw0 hb) (Nat.lt_of_lt_of_le hw0 hb.size) h2 hf hx hv (fun W3 v3 u3 hb3 => hp W3 v3 u3 (hb.trans (hb3.mono hb.size))))

end Go.Proofs.YtadkijaofmcgfaaGreatDoor
