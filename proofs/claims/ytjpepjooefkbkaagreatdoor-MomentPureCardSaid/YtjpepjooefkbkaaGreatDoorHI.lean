/-
  rat's withOne and withTwo of texts. The functions that rat hands to withOne and withTwo. rat's Add, Sub, Mul, Div, Neg, Inv of numbers. rat's Pow of a number.
-/
import Derived.Test.YtjpepjooefkbkaaGreatDoorHA
import Derived.Test.YtjpepjooefkbkaaGreatDoorP16
namespace Go.Proofs.YtjpepjooefkbkaaGreatDoor
open Go.RowKit NV
theorem ml_pos {w : World} (hm : ML w) : 0 < w.heap.size := Nat.lt_of_le_of_lt (Nat.zero_le _) (ml_lt hm)
theorem ml_keep {w w' : World} (hm : ML w) (_ : 0 < w.heap.size) (hb : Below w.heap.size w w') : ML w' := by
 have h0 := ml_lt hm
 obtain ⟨m, hm⟩ := hm
 exact ⟨m, (hb.cell (p := ⟨0, 0, none⟩) h0).trans hm⟩
set_option maxHeartbeats 3200000 in
theorem withOne_ok (g : Nat) (lb : Array Value) (eg : ∀ args w, (callFunc g args).run Tryz.prog w = .ok (.enter g args) w) (s : ByteArray) (w : World) (hs : s.size ≤ 1000000) (hm : ML w) (h0 : rchk s = 0) (r1 r2 : Value)
  (hp : ∀ W v, Below w.heap.size w W → FNum W v (minusB (numS s)) (dv (restS (numS s)).data.toList) (dv (denS s).data.toList) → Calls Tryz.prog g (#[v] ++ lb) W fun e w' => e = .returned (.tuple #[r1, r2]) ∧ Below W.heap.size W w') :
  Calls Tryz.prog 70 #[.string s, .func (.func g) #[] lb] w fun e w' => e = .returned (.tuple #[r1, r2]) ∧ Below w.heap.size w w' := by
 have HR := Lib.hid (read_any s w hs hm)
 have hz : (((rchk s : Nat) : Int) != 0) = false := by rw [h0]; rfl
 have HP := Lib.hid hp
 have H0 := Lib.hid h0
 clear hm h0 hp
 go_enter Tryz.func70, Tryz.ntmps70
 go_wp2_with fail
 refine HR.out.mono ?_
 rintro e w1 ⟨⟨m, a1, L1, k1, a2, L2, k2, rfl, hn⟩, hb⟩
 obtain ⟨hm, hn1, hn2⟩ := hn H0.out
 have hb2 : Below w1.heap.size w1 (w1.alloc (.cells #[.bool m, .slice a1 L1 k1, .slice a2 L2 k2] 110)) := (Below.refl _ _).alloc (Nat.le_refl _) _
 have HB := Lib.hid (hb.alloc hb.size (.cells #[.bool m, .slice a1 L1 k1, .slice a2 L2 k2] 110))
 have HC := Lib.hid (HP.out (w1.alloc (.cells #[.bool m, .slice a1 L1 k1, .slice a2 L2 k2] 110)) (.agg #[.bool m, .slice a1 L1 k1, .slice a2 L2 k2]) HB.out ⟨_, _, by rw [hm], hn1.below hb2, hn2.below hb2⟩)
 clear hb HR HP hm hn1 hn2 hb2 hn
 go_wp2_with fail
 have HB2 := HB
 go_wp2_with (go_at_fn g; refine HC.out.mono ?_; rintro e w2 ⟨rfl, hb⟩)
 go_ret2
 exact ⟨rfl, HB2.out.trans (hb.mono HB2.out.size)⟩
def Fv (w : World) (b h : Nat) : Prop := w.heap[b]? = some (.cells #[.func (.func h) #[] #[]] 113 (0, 0))
theorem Fv.keep {w w' : World} {b h : Nat} (hf : Fv w b h) (hb : Below w.heap.size w w') : Fv w' b h := (hb.block _ (Array.getElem?_eq_some_iff.1 hf).1).trans hf
theorem Fv.c0 {w : World} {b h : Nat} (hf : Fv w b h) : w.cell? ⟨b, 0, none⟩ = some (.func (.func h) #[] #[]) := by rw [Lib.cell_of_heap hf]; rfl
set_option maxHeartbeats 3200000 in
theorem two11 {W : World} {bf bx h : Nat} {m1 m2 : Bool} {n1 d1 n2 d2 : Nat} {x1 y1 u : Value} (eh : ∀ args w, (callFunc h args).run Tryz.prog w = .ok (.enter h args) w) (r1 r2 : Value)
  (hf : Fv W bf h) (hx : FR W bx m1 x1 y1) (hx1 : Num W x1 n1) (hy1 : Num W y1 d1) (hu : FNum W u m2 n2 d2)
  (hp : ∀ W' v u, Below W.heap.size W W' → FNum W' v m1 n1 d1 → FNum W' u m2 n2 d2 → Calls Tryz.prog h #[v, u] W' fun e w' => e = .returned (.tuple #[r1, r2]) ∧ Below W'.heap.size W' w') :
  Calls Tryz.prog 95 #[u, .pointer (some ⟨bf, 0, none⟩), .pointer (some ⟨bx, 0, none⟩)] W fun e w' => e = .returned (.tuple #[r1, r2]) ∧ Below W.heap.size W w' := by
 obtain ⟨x2, y2, rfl, hx2, hy2⟩ := hu
 obtain ⟨a1, k1, rfl⟩ := slice_any hx1
 obtain ⟨a2, k2, rfl⟩ := slice_any hy1
 obtain ⟨a3, k3, rfl⟩ := slice_any hx2
 obtain ⟨a4, k4, rfl⟩ := slice_any hy2
 have hb0 : Below W.heap.size W (W.alloc (.cells #[.bool m2, .slice a3 (ln n2) k3, .slice a4 (ln d2) k4] 110)) := (Below.refl _ _).alloc (Nat.le_refl _) _
 have HB := Lib.hid hb0
 have HC := Lib.hid (hp (W.alloc (.cells #[.bool m2, .slice a3 (ln n2) k3, .slice a4 (ln d2) k4] 110)) (.agg #[.bool m1, .slice a1 (ln n1) k1, .slice a2 (ln d1) k2]) (.agg #[.bool m2, .slice a3 (ln n2) k3, .slice a4 (ln d2) k4]) hb0 ⟨_, _, rfl, hx1.below hb0, hy1.below hb0⟩ ⟨_, _, rfl, hx2.below hb0, hy2.below hb0⟩)
 have f0 := (hf.keep hb0).c0
 have c0 := (hx.keep hb0).c0
 have c1 := (hx.keep hb0).c1
 have c2 := (hx.keep hb0).c2
 clear hf hx hx1 hy1 hx2 hy2 hp hb0
 go_enter Tryz.func95, Tryz.ntmps95
 go_wp2_with (go_at_fn h; refine HC.out.mono ?_; rintro e w2 ⟨rfl, hb⟩)
 go_ret2
 exact ⟨rfl, HB.out.trans (hb.mono HB.out.size)⟩
def Tx (w : World) (b : Nat) (t : ByteArray) : Prop := w.heap[b]? = some (.cells #[.string t] 23 (0, 0))
theorem Tx.keep {w w' : World} {b : Nat} {t : ByteArray} (hf : Tx w b t) (hb : Below w.heap.size w w') : Tx w' b t := (hb.block _ (Array.getElem?_eq_some_iff.1 hf).1).trans hf
theorem Tx.c0 {w : World} {b : Nat} {t : ByteArray} (hf : Tx w b t) : w.cell? ⟨b, 0, none⟩ = some (.string t) := by rw [Lib.cell_of_heap hf]; rfl
set_option maxHeartbeats 3200000 in
theorem two1_ok {W : World} {bb bf h : Nat} {m1 : Bool} {n1 d1 : Nat} {u : Value} {t : ByteArray} (eh : ∀ args w, (callFunc h args).run Tryz.prog w = .ok (.enter h args) w) (r1 r2 : Value)
  (ht : t.size ≤ 1000000) (hm : ML W) (hw0 : 0 < W.heap.size) (h0 : rchk t = 0) (hf : Fv W bf h) (hx : Tx W bb t) (hu : FNum W u m1 n1 d1)
  (hp : ∀ W' v u, Below W.heap.size W W' → FNum W' v m1 n1 d1 → FNum W' u (minusB (numS t)) (dv (restS (numS t)).data.toList) (dv (denS t).data.toList) → Calls Tryz.prog h #[v, u] W' fun e w' => e = .returned (.tuple #[r1, r2]) ∧ Below W'.heap.size W' w') :
  Calls Tryz.prog 94 #[u, .pointer (some ⟨bb, 0, none⟩), .pointer (some ⟨bf, 0, none⟩)] W fun e w' => e = .returned (.tuple #[r1, r2]) ∧ Below W.heap.size W w' := by
 have hmf : ∀ (fn : Fn) (first cap : Array Value) (w : World), (Instr.makeFunc fn first cap).run Tryz.prog w = .ok (.func fn first cap) w := fun _ _ _ _ => rfl
 obtain ⟨x1, y1, rfl, hx1, hy1⟩ := hu
 obtain ⟨a1, k1, rfl⟩ := slice_any hx1
 obtain ⟨a2, k2, rfl⟩ := slice_any hy1
 have hb0 : Below W.heap.size W (W.alloc (.cells #[.bool m1, .slice a1 (ln n1) k1, .slice a2 (ln d1) k2] 110)) := (Below.refl _ _).alloc (Nat.le_refl _) _
 have hq := FR.new W m1 (.slice a1 (ln n1) k1) (.slice a2 (ln d1) k2)
 have hx1 := hx1.below hb0
 have hy1 := hy1.below hb0
 have hf0 := hf.keep hb0
 have f0 := (hx.keep hb0).c0
 have hm0 : ML (W.alloc (.cells #[.bool m1, .slice a1 (ln n1) k1, .slice a2 (ln d1) k2] 110)) := ml_keep hm hw0 hb0
 have HB := Lib.hid hb0
 have e2 : ∀ args w, (callFunc 95 args).run Tryz.prog w = .ok (.enter 95 args) w := enters_of Tryz.func95 (by kernel_rfl) rfl
 have HC := Lib.hid (withOne_ok 95 #[.pointer (some ⟨bf, 0, none⟩), .pointer (some ⟨W.heap.size, 0, none⟩)] e2 t _ ht hm0 h0 r1 r2 (fun W2 v2 hb2 hv2 =>
  two11 eh r1 r2 (hf0.keep hb2) (hq.keep hb2) (hx1.below hb2) (hy1.below hb2) hv2 (fun W3 v3 u3 hb3 => hp W3 v3 u3 (hb0.trans ((hb2.trans (hb3.mono hb2.size)).mono hb0.size)))))
 clear hf hx hx1 hy1 hp hb0 hf0 hm0 hq
 go_enter Tryz.func94, Tryz.ntmps94
 go_wp2_with fail
 refine HC.out.mono ?_
 rintro e w2 ⟨rfl, hb⟩
 have HB2 := Lib.hid (HB.out.trans (hb.mono HB.out.size))
 clear hb HC
 go_wp2_with fail
 go_ret2
 exact ⟨rfl, HB2.out⟩
theorem two_new (w : World) (t : ByteArray) (h : Nat) : Below w.heap.size w ((w.alloc (.cells #[.string t] 23)).alloc (.cells #[.func (.func h) #[] #[]] 113)) ∧
  Tx ((w.alloc (.cells #[.string t] 23)).alloc (.cells #[.func (.func h) #[] #[]] 113)) w.heap.size t ∧
  Fv ((w.alloc (.cells #[.string t] 23)).alloc (.cells #[.func (.func h) #[] #[]] 113)) (w.heap.size + 1) h := by
 have h1 : Tx (w.alloc (.cells #[.string t] 23)) w.heap.size t := heap_alloc_new w _
 have s1 : (w.alloc (.cells #[.string t] 23)).heap.size = w.heap.size + 1 := by simp
 have b1 : Below w.heap.size w (w.alloc (.cells #[.string t] 23)) := (Below.refl _ _).alloc (Nat.le_refl _) _
 generalize w.alloc (.cells #[.string t] 23) = w1 at *
 have h2 : Fv (w1.alloc (.cells #[.func (.func h) #[] #[]] 113)) w1.heap.size h := heap_alloc_new w1 _
 have b2 : Below w1.heap.size w1 (w1.alloc (.cells #[.func (.func h) #[] #[]] 113)) := (Below.refl _ _).alloc (Nat.le_refl _) _
 exact ⟨b1.trans (b2.mono (by omega)), h1.keep b2, by rw [← s1]; exact h2⟩
set_option maxHeartbeats 3200000 in
theorem withTwo_one (h : Nat) (s t : ByteArray) (w : World) (hs : s.size ≤ 1000000) (hm : ML w) (hw0 : 0 < w.heap.size) (h1 : rchk s = 0) (r1 r2 : Value)
  (hp : ∀ W v, Below w.heap.size w W → Tx W w.heap.size t → Fv W (w.heap.size + 1) h → FNum W v (minusB (numS s)) (dv (restS (numS s)).data.toList) (dv (denS s).data.toList) →
   Calls Tryz.prog 94 #[v, .pointer (some ⟨w.heap.size, 0, none⟩), .pointer (some ⟨w.heap.size + 1, 0, none⟩)] W fun e w' => e = .returned (.tuple #[r1, r2]) ∧ Below W.heap.size W w') :
  Calls Tryz.prog 65 #[.string s, .string t, .func (.func h) #[] #[]] w fun e w' => e = .returned (.tuple #[r1, r2]) ∧ Below w.heap.size w w' := by
 have hmf : ∀ (fn : Fn) (first cap : Array Value) (w : World), (Instr.makeFunc fn first cap).run Tryz.prog w = .ok (.func fn first cap) w := fun _ _ _ _ => rfl
 obtain ⟨hb0, ht0, hf0⟩ := two_new w t h
 have hm0 := ml_keep hm hw0 hb0
 have HB := Lib.hid hb0
 have e1 : ∀ args w, (callFunc 94 args).run Tryz.prog w = .ok (.enter 94 args) w := enters_of Tryz.func94 (by kernel_rfl) rfl
 have HC := Lib.hid (withOne_ok 94 #[.pointer (some ⟨w.heap.size, 0, none⟩), .pointer (some ⟨w.heap.size + 1, 0, none⟩)] e1 s _ hs hm0 h1 r1 r2 (fun W2 v2 hb2 hv2 =>
  hp W2 v2 (hb0.trans (hb2.mono hb0.size)) (ht0.keep hb2) (hf0.keep hb2) hv2))
 clear hb0 ht0 hf0 hm0 hp hm
 go_enter Tryz.func65, Tryz.ntmps65
 go_wp2_with fail
 refine HC.out.mono ?_
 rintro e w2 ⟨rfl, hb⟩
 have HB2 := Lib.hid (HB.out.trans (hb.mono HB.out.size))
 clear hb HC
 go_wp2_with fail
 go_ret2
 exact ⟨rfl, HB2.out⟩
theorem withTwo_ok (h : Nat) (eh : ∀ args w, (callFunc h args).run Tryz.prog w = .ok (.enter h args) w) (s t : ByteArray) (w : World) (hs : s.size ≤ 1000000) (ht : t.size ≤ 1000000) (hm : ML w) (hw0 : 0 < w.heap.size) (h1 : rchk s = 0) (h2 : rchk t = 0) (r1 r2 : Value)
  (hp : ∀ W v u, Below w.heap.size w W → FNum W v (minusB (numS s)) (dv (restS (numS s)).data.toList) (dv (denS s).data.toList) → FNum W u (minusB (numS t)) (dv (restS (numS t)).data.toList) (dv (denS t).data.toList) → Calls Tryz.prog h #[v, u] W fun e w' => e = .returned (.tuple #[r1, r2]) ∧ Below W.heap.size W w') :
  Calls Tryz.prog 65 #[.string s, .string t, .func (.func h) #[] #[]] w fun e w' => e = .returned (.tuple #[r1, r2]) ∧ Below w.heap.size w w' :=
 withTwo_one h s t w hs hm hw0 h1 r1 r2 (fun _ _ hb hx hf hv => two1_ok eh r1 r2 ht (ml_keep hm hw0 hb) (Nat.lt_of_lt_of_le hw0 hb.size) h2 hf hx hv (fun W3 v3 u3 hb3 => hp W3 v3 u3 (hb.trans (hb3.mono hb.size))))
open Go.RowKit NV
open Go.Lib (decDigits)
theorem FQ.form {w : World} {v : Value} {q : Rat} (h : FQ w v q) : ∃ a1 k1 a2 k2, v = .agg #[.bool (ng q), .slice a1 (ln (tp q)) k1, .slice a2 (ln q.den) k2] := by
 obtain ⟨x, y, rfl, hx, hy⟩ := h
 obtain ⟨a1, k1, rfl⟩ := slice_any hx
 obtain ⟨a2, k2, rfl⟩ := slice_any hy
 exact ⟨a1, k1, a2, k2, rfl⟩
theorem lift_q {f : Nat} {args : Array Value} {w0 W : World} {q : Rat} (h0 : Below w0.heap.size w0 W) (hc : Calls Tryz.prog f args W fun e w' => ∃ v, e = .returned v ∧ FQ w' v q ∧ Below W.heap.size W w') :
  Calls Tryz.prog f args W fun e w' => ∃ v, e = .returned v ∧ FQ w' v q ∧ Below W.heap.size W w' ∧ Below w0.heap.size w0 w' :=
 hc.mono fun _ _ ⟨v, h1, h2, h3⟩ => ⟨v, h1, h2, h3, h0.trans (h3.mono h0.size)⟩
def RQ (q : Rat) (w : World) (e : Ending) (w' : World) : Prop := e = .returned (.tuple #[.string (wQ q).1, .int .i64 ((wQ q).2 : Int)]) ∧ Below w.heap.size w w'
set_option maxHeartbeats 3200000 in
set_option maxRecDepth 100000 in
theorem add_clo {w : World} {v u : Value} {p q : Rat} (hp : FQ w v p) (hq : FQ w u q) (lp : QL 445 p) (lq : QL 445 q) (htab : Tab w) :
  Calls Tryz.prog 66 #[v, u] w (RQ (p + q) w) := by
 obtain ⟨a1, k1, a2, k2, rfl⟩ := hp.form
 obtain ⟨a3, k3, a4, k4, rfl⟩ := hq.form
 obtain ⟨hb0, hq1, hq2⟩ := two_frac w (ng p) (ng q) (.slice a1 (ln (tp p)) k1) (.slice a2 (ln p.den) k2) (.slice a3 (ln (tp q)) k3) (.slice a4 (ln q.den) k4)
 have HP := Lib.hid (hp.below hb0)
 have HQ := Lib.hid (hq.below hb0)
 have HT := Lib.hid (htab.below hb0)
 have HB := Lib.hid hb0
 have HL := Lib.hid (And.intro lp lq)
 clear hp hq htab hb0 hq1 hq2 lp lq
 go_enter Tryz.func66, Tryz.ntmps66
 go_wp2_with fail
 generalize (w.alloc (.cells #[.bool (ng p), .slice a1 (ln (tp p)) k1, .slice a2 (ln p.den) k2] 110)).alloc (.cells #[.bool (ng q), .slice a3 (ln (tp q)) k3, .slice a4 (ln q.den) k4] 110) = w0 at HP HQ HT HB ⊢
 refine (plus_q HP.out HQ.out (HL.out.1.mono (by omega)) (HL.out.2.mono (by omega))).mono ?_
 rintro e w1 ⟨z, rfl, hz, hb1⟩
 obtain ⟨a5, k5, a6, k6, rfl⟩ := hz.form
 have HZ := Lib.hid hz
 replace HT := Lib.hid (HT.out.below hb1)
 replace HB := Lib.hid (HB.out.trans (hb1.mono HB.out.size))
 clear hz hb1
 go_wp2_with fail
 refine (write_q HZ.out ((QL.add HL.out.1 HL.out.2).mono (by omega)) HT.out).mono ?_
 rintro e w2 ⟨rfl, hb2⟩
 replace HB := Lib.hid (HB.out.trans (hb2.mono HB.out.size))
 clear hb2
 go_wp2_with fail
 go_ret2
 exact ⟨rfl, HB.out⟩
set_option maxHeartbeats 3200000 in
set_option maxRecDepth 100000 in
theorem mul_clo {w : World} {v u : Value} {p q : Rat} (hp : FQ w v p) (hq : FQ w u q) (lp : QL 445 p) (lq : QL 445 q) (htab : Tab w) :
  Calls Tryz.prog 110 #[v, u] w (RQ (p * q) w) := by
 obtain ⟨a1, k1, a2, k2, rfl⟩ := hp.form
 obtain ⟨a3, k3, a4, k4, rfl⟩ := hq.form
 obtain ⟨hb0, hq1, hq2⟩ := two_frac w (ng p) (ng q) (.slice a1 (ln (tp p)) k1) (.slice a2 (ln p.den) k2) (.slice a3 (ln (tp q)) k3) (.slice a4 (ln q.den) k4)
 have HP := Lib.hid (hp.below hb0)
 have HQ := Lib.hid (hq.below hb0)
 have HT := Lib.hid (htab.below hb0)
 have HB := Lib.hid hb0
 have HL := Lib.hid (And.intro lp lq)
 clear hp hq htab hb0 hq1 hq2 lp lq
 go_enter Tryz.func110, Tryz.ntmps110
 go_wp2_with fail
 generalize (w.alloc (.cells #[.bool (ng p), .slice a1 (ln (tp p)) k1, .slice a2 (ln p.den) k2] 110)).alloc (.cells #[.bool (ng q), .slice a3 (ln (tp q)) k3, .slice a4 (ln q.den) k4] 110) = w0 at HP HQ HT HB ⊢
 refine (times_q HP.out HQ.out (HL.out.1.mono (by omega)) (HL.out.2.mono (by omega))).mono ?_
 rintro e w1 ⟨z, rfl, hz, hb1⟩
 obtain ⟨a5, k5, a6, k6, rfl⟩ := hz.form
 have HZ := Lib.hid hz
 replace HT := Lib.hid (HT.out.below hb1)
 replace HB := Lib.hid (HB.out.trans (hb1.mono HB.out.size))
 clear hz hb1
 go_wp2_with fail
 refine (write_q HZ.out ((QL.mul HL.out.1 HL.out.2).mono (by omega)) HT.out).mono ?_
 rintro e w2 ⟨rfl, hb2⟩
 replace HB := Lib.hid (HB.out.trans (hb2.mono HB.out.size))
 clear hb2
 go_wp2_with fail
 go_ret2
 exact ⟨rfl, HB.out⟩
set_option maxHeartbeats 6400000 in
set_option maxRecDepth 100000 in
theorem div_clo {w : World} {v u : Value} {p q : Rat} (hp : FQ w v p) (hq : FQ w u q) (lp : QL 445 p) (lq : QL 445 q) (htab : Tab w) (h0 : q ≠ 0) (r : Rat) (hr : r = q⁻¹) :
  Calls Tryz.prog 75 #[v, u] w (RQ (p * r) w) := by
 obtain ⟨a1, k1, a2, k2, rfl⟩ := hp.form
 obtain ⟨a3, k3, a4, k4, rfl⟩ := hq.form
 obtain ⟨hb0, hq1, hq2⟩ := two_frac w (ng p) (ng q) (.slice a1 (ln (tp p)) k1) (.slice a2 (ln p.den) k2) (.slice a3 (ln (tp q)) k3) (.slice a4 (ln q.den) k4)
 have HP := Lib.hid (hp.below hb0)
 have HQ := Lib.hid (hq.below hb0)
 have HT := Lib.hid (htab.below hb0)
 have HB := Lib.hid hb0
 have HF1 := Lib.hid hq1
 have HF2 := Lib.hid hq2
 have HL := Lib.hid (And.intro lp (show QL 445 (r) from hr ▸ lq.inv h0))
 have HZ := Lib.hid (fzero_q (hq.below hb0))
 rw [decide_eq_false h0] at HZ
 have HN := Lib.hid (show ∀ W v, FQ W v q → Calls Tryz.prog 73 #[v] W fun e w' => ∃ z, e = .returned z ∧ FQ w' z r ∧ Below W.heap.size W w' from fun W v h => hr ▸ inverse_q h h0)
 clear hp hq htab hb0 hq1 hq2 lp lq h0 hr
 go_enter Tryz.func75, Tryz.ntmps75
 go_wp2_with fail
 generalize (w.alloc (.cells #[.bool (ng p), .slice a1 (ln (tp p)) k1, .slice a2 (ln p.den) k2] 110)).alloc (.cells #[.bool (ng q), .slice a3 (ln (tp q)) k3, .slice a4 (ln q.den) k4] 110) = w0 at HP HQ HT HB HF1 HF2 HZ ⊢
 refine HZ.out.mono ?_
 rintro e w9 ⟨rfl, hb9⟩
 replace HP := Lib.hid (HP.out.below hb9)
 replace HQ := Lib.hid (HQ.out.below hb9)
 replace HT := Lib.hid (HT.out.below hb9)
 replace HF1 := Lib.hid (HF1.out.keep hb9)
 replace HF2 := Lib.hid (HF2.out.keep hb9)
 replace HB := Lib.hid (HB.out.trans (hb9.mono HB.out.size))
 clear hb9 HZ
 go_wp2_with fail
 have HS := Lib.hid (show ∀ W, Below w9.heap.size w9 W → W.cell? ⟨w.heap.size, 0, none⟩ = some (.bool (ng p)) ∧ W.cell? ⟨w.heap.size, 1, none⟩ = some (.slice a1 (ln (tp p)) k1) ∧ W.cell? ⟨w.heap.size, 2, none⟩ = some (.slice a2 (ln p.den) k2) ∧
   W.cell? ⟨w.heap.size + 1, 0, none⟩ = some (.bool (ng q)) ∧ W.cell? ⟨w.heap.size + 1, 1, none⟩ = some (.slice a3 (ln (tp q)) k3) ∧ W.cell? ⟨w.heap.size + 1, 2, none⟩ = some (.slice a4 (ln q.den) k4) from fun W h =>
   ⟨(HF1.out.keep h).c0, (HF1.out.keep h).c1, (HF1.out.keep h).c2, (HF2.out.keep h).c0, (HF2.out.keep h).c1, (HF2.out.keep h).c2⟩)
 have hD0 := (Below.refl w9.heap.size w9).drew
 go_region_held3 (fun W => W.cell? ⟨w.heap.size, 0, none⟩ = some (.bool (ng p)) ∧ W.cell? ⟨w.heap.size, 1, none⟩ = some (.slice a1 (ln (tp p)) k1) ∧ W.cell? ⟨w.heap.size, 2, none⟩ = some (.slice a2 (ln p.den) k2) ∧
   W.cell? ⟨w.heap.size + 1, 0, none⟩ = some (.bool (ng q)) ∧ W.cell? ⟨w.heap.size + 1, 1, none⟩ = some (.slice a3 (ln (tp q)) k3) ∧ W.cell? ⟨w.heap.size + 1, 2, none⟩ = some (.slice a4 (ln q.den) k4))
  (first | exact HS.out _ hD0 | exact HS.out _ (by assumption))
  (first
   | (go_at_call 73; refine (lift_q (w0 := w9) (by assumption) (HN.out _ _ (HQ.out.below (by assumption)))).mono ?_; rintro e w1 ⟨z1, rfl, hz1, hb1, hB1⟩; obtain ⟨a5, k5, a6, k6, rfl⟩ := hz1.form)
   | (go_at_call 76; refine (lift_q (w0 := w9) (by assumption) (times_q (HP.out.below (by assumption)) hz1 (HL.out.1.mono (by omega)) (HL.out.2.mono (by omega)))).mono ?_; rintro e w2 ⟨z2, rfl, hz2, hb2, hB2⟩; obtain ⟨a7, k7, a8, k8, rfl⟩ := hz2.form)
   | (go_at_call 67; refine (write_q hz2 ((QL.mul HL.out.1 HL.out.2).mono (by omega)) (HT.out.below (by assumption))).mono ?_; rintro e w3 ⟨rfl, hb3⟩; have hB3 := hB2.trans (hb3.mono hB2.size)))
 replace HB := Lib.hid (HB.out.trans (hB3.mono HB.out.size))
 clear hz1 hb1 hB1 hz2 hb2 hB2 hb3 hB3 hD0
 go_wp2_with fail
 go_ret2
 exact ⟨rfl, HB.out⟩
open Go.RowKit NV
open Go.Lib (decDigits)
theorem fq_of {w : World} {v : Value} {q : Rat} (h : FNum w v (minusB (numS (qstr q))) (dv (restS (numS (qstr q))).data.toList) (dv (denS (qstr q)).data.toList)) : FQ w v q := by
 obtain ⟨_, _, h1, _, h2, h3⟩ := qstr_parts q
 exact fnum_of h h1.symm h2.symm h3.symm
theorem qsmall {q : Rat} (h : QOk q) : (qstr q).size ≤ 1000000 := Nat.le_trans (qstr_size h) (by omega)
set_option maxHeartbeats 1600000 in
theorem Add_q (p q : Rat) (hp : QOk p) (hq : QOk q) (w : World) (htab : Tab w) (hm : ML w) :
  Calls Tryz.prog 27 #[.string (qstr p), .string (qstr q)] w (RQ (p + q) w) := by
 have e1 : ∀ args w, (callFunc 66 args).run Tryz.prog w = .ok (.enter 66 args) w := enters_of Tryz.func66 (by kernel_rfl) rfl
 have HC := Lib.hid (withTwo_ok 66 e1 (qstr p) (qstr q) w (qsmall hp) (qsmall hq) hm (ml_pos hm) (qstr_chk hp) (qstr_chk hq) (.string (wQ (p + q)).1) (.int .i64 ((wQ (p + q)).2 : Int))
  (fun W v u hb hv hu => add_clo (fq_of hv) (fq_of hu) hp.ql hq.ql (htab.below hb)))
 clear htab hm hp hq
 go_enter Tryz.func27, Tryz.ntmps27
 go_wp2_with fail
 refine HC.out.mono ?_
 rintro e w1 ⟨rfl, hb⟩
 have HB := Lib.hid hb
 clear hb HC
 go_wp2_with fail
 go_ret2
 exact ⟨rfl, HB.out⟩
set_option maxHeartbeats 1600000 in
theorem Mul_q (p q : Rat) (hp : QOk p) (hq : QOk q) (w : World) (htab : Tab w) (hm : ML w) :
  Calls Tryz.prog 84 #[.string (qstr p), .string (qstr q)] w (RQ (p * q) w) := by
 have e1 : ∀ args w, (callFunc 110 args).run Tryz.prog w = .ok (.enter 110 args) w := enters_of Tryz.func110 (by kernel_rfl) rfl
 have HC := Lib.hid (withTwo_ok 110 e1 (qstr p) (qstr q) w (qsmall hp) (qsmall hq) hm (ml_pos hm) (qstr_chk hp) (qstr_chk hq) (.string (wQ (p * q)).1) (.int .i64 ((wQ (p * q)).2 : Int))
  (fun W v u hb hv hu => mul_clo (fq_of hv) (fq_of hu) hp.ql hq.ql (htab.below hb)))
 clear htab hm hp hq
 go_enter Tryz.func84, Tryz.ntmps84
 go_wp2_with fail
 refine HC.out.mono ?_
 rintro e w1 ⟨rfl, hb⟩
 have HB := Lib.hid hb
 clear hb HC
 go_wp2_with fail
 go_ret2
 exact ⟨rfl, HB.out⟩
set_option maxHeartbeats 1600000 in
theorem Div_q (p q : Rat) (hp : QOk p) (hq : QOk q) (w : World) (htab : Tab w) (hm : ML w) (h0 : q ≠ 0) (r : Rat) (hr : r = q⁻¹) :
  Calls Tryz.prog 31 #[.string (qstr p), .string (qstr q)] w (RQ (p * r) w) := by
 have e1 : ∀ args w, (callFunc 75 args).run Tryz.prog w = .ok (.enter 75 args) w := enters_of Tryz.func75 (by kernel_rfl) rfl
 have HC := Lib.hid (withTwo_ok 75 e1 (qstr p) (qstr q) w (qsmall hp) (qsmall hq) hm (ml_pos hm) (qstr_chk hp) (qstr_chk hq) (.string (wQ (p * r)).1) (.int .i64 ((wQ (p * r)).2 : Int))
  (fun W v u hb hv hu => div_clo (fq_of hv) (fq_of hu) hp.ql hq.ql (htab.below hb) h0 r hr))
 clear htab hm hp hq h0 hr
 go_enter Tryz.func31, Tryz.ntmps31
 go_wp2_with fail
 refine HC.out.mono ?_
 rintro e w1 ⟨rfl, hb⟩
 have HB := Lib.hid hb
 clear hb HC
 go_wp2_with fail
 go_ret2
 exact ⟨rfl, HB.out⟩
open Go.RowKit NV
open Go.Lib (decDigits)
def Iv (w : World) (b : Nat) (n : Int) : Prop := w.heap[b]? = some (.cells #[.int .i64 n] 3 (0, 0))
theorem Iv.keep {w w' : World} {b : Nat} {n : Int} (hf : Iv w b n) (hb : Below w.heap.size w w') : Iv w' b n := (hb.block _ (Array.getElem?_eq_some_iff.1 hf).1).trans hf
theorem Iv.c0 {w : World} {b : Nat} {n : Int} (hf : Iv w b n) : w.cell? ⟨b, 0, none⟩ = some (.int .i64 n) := by rw [Lib.cell_of_heap hf]; rfl
theorem pow_fits {q : Rat} {k : Nat} : (fitB (tp q ^ k) && fitB (q.den ^ k)) = true ↔ QOk (q ^ k) := by
 obtain ⟨h1, h2, _⟩ := pow_parts q k
 unfold QOk
 rw [h1, h2, Bool.and_eq_true, fitB_iff, fitB_iff]
theorem wQ_no {q : Rat} (h : ¬ QOk q) : wQ q = (⟨#[]⟩, 5) := if_neg h
theorem pow_num {w : World} {q : Rat} {k : Nat} {m : Bool} {v u : Value} (h : QOk (q ^ k)) (hh : Ok (tp q ^ k) → Ok (q.den ^ k) → m = (ng q && decide (k % 2 = 1)) ∧ Num w v (tp q ^ k) ∧ Num w u (q.den ^ k)) :
  FQ w (.agg #[.bool m, v, u]) (q ^ k) := by
 obtain ⟨h1, h2, h3⟩ := pow_parts q k
 have h' := h
 unfold QOk at h'
 rw [h1, h2] at h'
 obtain ⟨e1, e2, e3⟩ := hh h'.1 h'.2
 exact fnum_of ⟨_, _, rfl, e2, e3⟩ (h3.trans e1.symm) h1 h2
set_option maxHeartbeats 6400000 in
set_option maxRecDepth 100000 in
theorem pow_clo_pos {w : World} {v : Value} {q : Rat} {k bn : Nat} (hq : FQ w v q) (lq : QOk q) (hk : k < 9223372036854775808) (hn : Iv w bn (k : Int)) (htab : Tab w) :
  Calls Tryz.prog 71 #[v, .pointer (some ⟨bn, 0, none⟩)] w (RQ (q ^ k) w) := by
 obtain ⟨a1, k1, a2, k2, rfl⟩ := hq.form
 have hb0 : Below w.heap.size w (w.alloc (.cells #[.bool (ng q), .slice a1 (ln (tp q)) k1, .slice a2 (ln q.den) k2] 110)) := (Below.refl _ _).alloc (Nat.le_refl _) _
 have c0 := (hn.keep hb0).c0
 obtain ⟨x1, y1, hxy, hx1, hy1⟩ := hq
 obtain ⟨rfl, rfl⟩ : x1 = .slice a1 (ln (tp q)) k1 ∧ y1 = .slice a2 (ln q.den) k2 := by simpa using hxy.symm
 have HX := Lib.hid (hx1.below hb0)
 have HY := Lib.hid (hy1.below hb0)
 have HT := Lib.hid (htab.below hb0)
 have HB := Lib.hid hb0
 have HO := Lib.hid lq
 have hk1 : (k : Int) < 9223372036854775808 := by omega
 have hw : IntKind.u64.wrap (k : Int) = (k : Int) := by simp [IntKind.wrap, IntKind.signed, IntKind.bits]; omega
 have hneg : ¬ ((k : Int) < 0) := by omega
 clear hx1 hy1 htab hb0 lq hn hxy
 go_enter Tryz.func71, Tryz.ntmps71
 go_wp2_with fail
 refine (fpower_any (k := k) HX.out HY.out HO.out.1 HO.out.2 (by omega)).mono ?_
 rintro e w1 ⟨⟨m', b1, L1, l1, b2, L2, l2, rfl, hh⟩, hb1⟩
 replace HT := Lib.hid (HT.out.below hb1)
 replace HB := Lib.hid (HB.out.trans (hb1.mono HB.out.size))
 by_cases ho : QOk (q ^ k)
 ·have hf := pow_num ho hh
  have hfb := pow_fits.2 ho
  rw [hfb]
  have hb3 : Below w1.heap.size w1 (w1.alloc (.cells #[.bool m', .slice b1 L1 l1, .slice b2 L2 l2] 110)) := (Below.refl _ _).alloc (Nat.le_refl _) _
  have HW := Lib.hid (write_q (hf.below hb3) (ho.ql.mono (by omega)) (HT.out.below hb3))
  replace HB := Lib.hid (HB.out.trans (hb3.mono HB.out.size))
  clear hh hf hfb hb3 hb1 ho
  go_wp2_with fail
  refine HW.out.mono ?_
  rintro e w4 ⟨rfl, hb4⟩
  replace HB := Lib.hid (HB.out.trans (hb4.mono HB.out.size))
  clear hb4 HW
  go_wp2_with fail
  go_ret2
  exact ⟨rfl, HB.out⟩
 ·have hfb : (fitB (tp q ^ k) && fitB (q.den ^ k)) = false := by
   cases h : (fitB (tp q ^ k) && fitB (q.den ^ k)) with
   | false => rfl
   | true => exact absurd (pow_fits.1 h) ho
  rw [hfb]
  have HW := Lib.hid (wQ_no ho)
  replace HB := Lib.hid (HB.out.alloc HB.out.size (.cells #[.bool m', .slice b1 L1 l1, .slice b2 L2 l2] 110))
  clear hh hfb hb1 ho
  go_wp2_with fail
  go_ret2
  exact ⟨by rw [HW.out]; rfl, HB.out⟩
theorem wrap_neg {k : Nat} (h1 : 0 < k) (h2 : k ≤ 9223372036854775808) : ∃ t : Int, IntKind.u64.wrap (-(k : Int)) = t ∧ IntKind.u64.wrap (-t) = (k : Int) := by
 refine ⟨18446744073709551616 - (k : Int), ?_, ?_⟩
 ·simp [IntKind.wrap, IntKind.signed, IntKind.bits]; omega
 ·simp [IntKind.wrap, IntKind.signed, IntKind.bits]; omega
set_option maxHeartbeats 6400000 in
set_option maxRecDepth 100000 in
theorem pow_clo_neg {w : World} {v : Value} {q : Rat} {k bn : Nat} (hq : FQ w v q) (lq : QOk q) (hk0 : 0 < k) (hk : k ≤ 9223372036854775808) (hn : Iv w bn (-(k : Int))) (htab : Tab w) (h0 : q ≠ 0) (r : Rat) (hr : r = q⁻¹) :
  Calls Tryz.prog 71 #[v, .pointer (some ⟨bn, 0, none⟩)] w (RQ (r ^ k) w) := by
 have lr : QOk r := by
  obtain ⟨h1, h2, _⟩ := inv_parts h0
  rw [hr]; exact ⟨by rw [h1]; exact lq.2, by rw [h2]; exact lq.1⟩
 obtain ⟨a1, k1, a2, k2, rfl⟩ := hq.form
 have hb0 : Below w.heap.size w (w.alloc (.cells #[.bool (ng q), .slice a1 (ln (tp q)) k1, .slice a2 (ln q.den) k2] 110)) := (Below.refl _ _).alloc (Nat.le_refl _) _
 have HF := Lib.hid (FR.new w (ng q) (.slice a1 (ln (tp q)) k1) (.slice a2 (ln q.den) k2))
 have c0 := (hn.keep hb0).c0
 have HZ := Lib.hid (fzero_q (hq.below hb0))
 rw [decide_eq_false h0] at HZ
 have HI := Lib.hid (show ∀ W v, FQ W v q → Calls Tryz.prog 73 #[v] W fun e w' => ∃ z, e = .returned z ∧ FQ w' z r ∧ Below W.heap.size W w' from fun W v h => hr ▸ inverse_q h h0)
 have HQ := Lib.hid (hq.below hb0)
 have HT := Lib.hid (htab.below hb0)
 have HB := Lib.hid hb0
 have HO := Lib.hid lr
 obtain ⟨t, ht1, ht2⟩ := wrap_neg hk0 hk
 have hneg : -(k : Int) < 0 := by omega
 have HK := Lib.hid (show k < 18446744073709551616 by omega)
 have HT0 := Lib.hid htab
 clear hq htab hb0 lq lr hn h0 hr hk0 hk
 go_enter Tryz.func71, Tryz.ntmps71
 go_wp2_with fail
 generalize w.alloc (.cells #[.bool (ng q), .slice a1 (ln (tp q)) k1, .slice a2 (ln q.den) k2] 110) = w0 at HQ HT HB HF HZ c0 ⊢
 refine HZ.out.mono ?_
 rintro e w1 ⟨rfl, hb1⟩
 replace HQ := Lib.hid (HQ.out.below hb1)
 replace HT := Lib.hid (HT.out.below hb1)
 replace HF := Lib.hid (HF.out.keep hb1)
 replace HB := Lib.hid (HB.out.trans (hb1.mono HB.out.size))
 have f0 := HF.out.c0
 have f1 := HF.out.c1
 have f2 := HF.out.c2
 clear hb1 HZ c0
 go_wp2_with fail
 refine (HI.out _ _ HQ.out).mono ?_
 rintro e w2 ⟨z, rfl, hz, hb2⟩
 obtain ⟨a5, k5, a6, k6, rfl⟩ := hz.form
 replace HT := Lib.hid (HT.out.below hb2)
 replace HF := Lib.hid (HF.out.keep hb2)
 replace HB := Lib.hid (HB.out.trans (hb2.mono HB.out.size))
 clear f0 f1 f2 HQ HI hb2
 have i0 := HF.out.c0
 have i1 := HF.out.c1
 have i2 := HF.out.c2
 have j0 := HF.out.z0
 have j1 := HF.out.z1
 have j2 := HF.out.z2
 obtain ⟨x1, y1, hxy, hx1, hy1⟩ := hz
 obtain ⟨rfl, rfl⟩ : x1 = .slice a5 (ln (tp r)) k5 ∧ y1 = .slice a6 (ln r.den) k6 := by simpa using hxy.symm
 have HX := Lib.hid (hx1.st3 i0 (ng r) (.slice a5 (ln (tp r)) k5) (.slice a6 (ln r.den) k6))
 have HY := Lib.hid (hy1.st3 i0 (ng r) (.slice a5 (ln (tp r)) k5) (.slice a6 (ln r.den) k6))
 replace HF := Lib.hid (HF.out.st (ng r) (.slice a5 (ln (tp r)) k5) (.slice a6 (ln r.den) k6))
 replace HB := Lib.hid (below_st3 HB.out (Nat.le_refl w.heap.size) (ng r) (.slice a5 (ln (tp r)) k5) (.slice a6 (ln r.den) k6))
 replace HT := Lib.hid (HT0.out.below HB.out)
 clear hx1 hy1 hxy
 go_wp2_with fail
 change Calls Tryz.prog 74 _ (st3 w2 w.heap.size (ng r) (.slice a5 (ln (tp r)) k5) (.slice a6 (ln r.den) k6)) _
 clear i0 i1 i2 j0 j1 j2
 generalize st3 w2 w.heap.size (ng r) (.slice a5 (ln (tp r)) k5) (.slice a6 (ln r.den) k6) = w3 at HX HY HF HB HT ⊢
 refine (fpower_any (k := k) HX.out HY.out HO.out.1 HO.out.2 HK.out).mono ?_
 rintro e w5 ⟨⟨m', b1, L1, l1, b2, L2, l2, rfl, hh⟩, hb1⟩
 replace HT := Lib.hid (HT.out.below hb1)
 replace HB := Lib.hid (HB.out.trans (hb1.mono HB.out.size))
 by_cases ho : QOk (r ^ k)
 ·have hf := pow_num ho hh
  have hfb := pow_fits.2 ho
  rw [hfb]
  have hb3 : Below w5.heap.size w5 (w5.alloc (.cells #[.bool m', .slice b1 L1 l1, .slice b2 L2 l2] 110)) := (Below.refl _ _).alloc (Nat.le_refl _) _
  have HW := Lib.hid (write_q (hf.below hb3) (ho.ql.mono (by omega)) (HT.out.below hb3))
  replace HB := Lib.hid (HB.out.trans (hb3.mono HB.out.size))
  clear hh hf hfb hb3 hb1 ho
  go_wp2_with fail
  refine HW.out.mono ?_
  rintro e w4 ⟨rfl, hb4⟩
  replace HB := Lib.hid (HB.out.trans (hb4.mono HB.out.size))
  clear hb4 HW
  go_wp2_with fail
  go_ret2
  exact ⟨rfl, HB.out⟩
 ·have hfb : (fitB (tp r ^ k) && fitB (r.den ^ k)) = false := by
   cases h : (fitB (tp r ^ k) && fitB (r.den ^ k)) with
   | false => rfl
   | true => exact absurd (pow_fits.1 h) ho
  rw [hfb]
  have HW := Lib.hid (wQ_no ho)
  replace HB := Lib.hid (HB.out.alloc HB.out.size (.cells #[.bool m', .slice b1 L1 l1, .slice b2 L2 l2] 110))
  clear hh hfb hb1 ho
  go_wp2_with fail
  go_ret2
  exact ⟨by rw [HW.out]; rfl, HB.out⟩
set_option maxHeartbeats 1600000 in
theorem Pow_any (s : ByteArray) (n : Int) (w : World) (hs : s.size ≤ 1000000) (hm : ML w) (h0 : rchk s = 0) (r1 r2 : Value)
  (hp : ∀ W v, Below w.heap.size w W → Iv W w.heap.size n → FNum W v (minusB (numS s)) (dv (restS (numS s)).data.toList) (dv (denS s).data.toList) → Calls Tryz.prog 71 #[v, .pointer (some ⟨w.heap.size, 0, none⟩)] W fun e w' => e = .returned (.tuple #[r1, r2]) ∧ Below W.heap.size W w') :
  Calls Tryz.prog 30 #[.string s, .int .i64 n] w fun e w' => e = .returned (.tuple #[r1, r2]) ∧ Below w.heap.size w w' := by
 have hmf : ∀ (fn : Fn) (first cap : Array Value) (w : World), (Instr.makeFunc fn first cap).run Tryz.prog w = .ok (.func fn first cap) w := fun _ _ _ _ => rfl
 have e1 : ∀ args w, (callFunc 71 args).run Tryz.prog w = .ok (.enter 71 args) w := enters_of Tryz.func71 (by kernel_rfl) rfl
 have hb0 : Below w.heap.size w (w.alloc (.cells #[.int .i64 n] 3)) := (Below.refl _ _).alloc (Nat.le_refl _) _
 have hi0 : Iv (w.alloc (.cells #[.int .i64 n] 3)) w.heap.size n := heap_alloc_new w _
 have HB := Lib.hid hb0
 have HC := Lib.hid (withOne_ok 71 #[.pointer (some ⟨w.heap.size, 0, none⟩)] e1 s _ hs (ml_keep hm (ml_pos hm) hb0) h0 r1 r2 (fun W v hb hv => hp W v (hb0.trans (hb.mono hb0.size)) (hi0.keep hb) hv))
 clear hp hm hb0 hi0
 go_enter Tryz.func30, Tryz.ntmps30
 go_wp2_with fail
 refine HC.out.mono ?_
 rintro e w2 ⟨rfl, hb⟩
 have HB2 := Lib.hid (HB.out.trans (hb.mono HB.out.size))
 clear hb HC
 go_wp2_with fail
 go_ret2
 exact ⟨rfl, HB2.out⟩
theorem Pow_pos (q : Rat) (hq : QOk q) (k : Nat) (hk : k < 9223372036854775808) (w : World) (htab : Tab w) (hm : ML w) :
  Calls Tryz.prog 30 #[.string (qstr q), .int .i64 (k : Int)] w (RQ (q ^ k) w) :=
 Pow_any (qstr q) k w (qsmall hq) hm (qstr_chk hq) _ _ (fun _ _ hb hi hv => pow_clo_pos (fq_of hv) hq hk hi (htab.below hb))
theorem Pow_neg (q : Rat) (hq : QOk q) (k : Nat) (hk0 : 0 < k) (hk : k ≤ 9223372036854775808) (w : World) (htab : Tab w) (hm : ML w) (h0 : q ≠ 0) (r : Rat) (hr : r = q⁻¹) :
  Calls Tryz.prog 30 #[.string (qstr q), .int .i64 (-(k : Int))] w (RQ (r ^ k) w) :=
 Pow_any (qstr q) _ w (qsmall hq) hm (qstr_chk hq) _ _ (fun _ _ hb hi hv => pow_clo_neg (fq_of hv) hq hk0 hk hi (htab.below hb) h0 r hr)
end Go.Proofs.YtjpepjooefkbkaaGreatDoor
