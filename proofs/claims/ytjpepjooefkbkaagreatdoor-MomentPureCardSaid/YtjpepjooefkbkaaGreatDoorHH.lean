/-
  rat's withOne and withTwo of ints. rat's Make of two texts without an error. exact.Fraction's Sign and Compare. How rational numbers compare: rat's Cmp, Sign, Min and Max. rat's Floor, Ceil, Abs, Parts and Check of a number.
-/
import Derived.Test.YtjpepjooefkbkaaGreatDoorHI
import Derived.Test.YtjpepjooefkbkaaGreatDoorP15
import Derived.Test.YtjpepjooefkbkaaGreatDoorP16
namespace Go.Proofs.YtjpepjooefkbkaaGreatDoor
open Go.RowKit NV
set_option maxHeartbeats 1600000 in
theorem withOne_errI (fv : Value) (s : ByteArray) (w : World) (hs : s.size ≤ 1000000) (hm : ML w) (h0 : rchk s ≠ 0) :
  Calls Tryz.prog 148 #[.string s, fv] w fun e w' => e = .returned (.tuple #[.int .i64 0, .int .i64 ((rchk s : Nat) : Int)]) ∧ Below w.heap.size w w' := by
 have HR := Lib.hid (read_any s w hs hm)
 have hz : (((rchk s : Nat) : Int) != 0) = true := by rw [bne_iff_ne]; omega
 clear hm h0
 go_enter Tryz.func148, Tryz.ntmps148
 go_wp2_with fail
 refine HR.out.mono ?_
 rintro e w1 ⟨⟨m, a1, L1, k1, a2, L2, k2, rfl, -⟩, hb⟩
 have HB := Lib.hid (hb.alloc hb.size (.cells #[.bool m, .slice a1 L1 k1, .slice a2 L2 k2] 110))
 clear hb HR
 go_wp2_with fail
 go_ret2
 exact ⟨rfl, HB.out⟩
set_option maxHeartbeats 3200000 in
theorem withOne_okI (g : Nat) (lb : Array Value) (eg : ∀ args w, (callFunc g args).run Tryz.prog w = .ok (.enter g args) w) (s : ByteArray) (w : World) (hs : s.size ≤ 1000000) (hm : ML w) (h0 : rchk s = 0) (r1 r2 : Value)
  (hp : ∀ W v, Below w.heap.size w W → FNum W v (minusB (numS s)) (dv (restS (numS s)).data.toList) (dv (denS s).data.toList) → Calls Tryz.prog g (#[v] ++ lb) W fun e w' => e = .returned (.tuple #[r1, r2]) ∧ Below W.heap.size W w') :
  Calls Tryz.prog 148 #[.string s, .func (.func g) #[] lb] w fun e w' => e = .returned (.tuple #[r1, r2]) ∧ Below w.heap.size w w' := by
 have HR := Lib.hid (read_any s w hs hm)
 have hz : (((rchk s : Nat) : Int) != 0) = false := by rw [h0]; rfl
 have HP := Lib.hid hp
 have H0 := Lib.hid h0
 clear hm h0 hp
 go_enter Tryz.func148, Tryz.ntmps148
 go_wp2_with fail
 refine HR.out.mono ?_
 rintro e w1 ⟨⟨m, a1, L1, k1, a2, L2, k2, rfl, hn⟩, hb⟩
 obtain ⟨hm, hn1, hn2⟩ := hn H0.out
 have hb2 : Below w1.heap.size w1 (w1.alloc (.cells #[.bool m, .slice a1 L1 k1, .slice a2 L2 k2] 110)) := (Below.refl _ _).alloc (Nat.le_refl _) _
 have HB := Lib.hid (hb.alloc hb.size (.cells #[.bool m, .slice a1 L1 k1, .slice a2 L2 k2] 110))
 have HC := Lib.hid (HP.out (w1.alloc (.cells #[.bool m, .slice a1 L1 k1, .slice a2 L2 k2] 110)) (.agg #[.bool m, .slice a1 L1 k1, .slice a2 L2 k2]) HB.out ⟨_, _, by rw [hm], hn1.below hb2, hn2.below hb2⟩)
 clear hb HR HP hm hn1 hn2 hb2 hn
 go_wp2_with fail
 have HB2 := HB
 go_wp2_with (go_at_fn g; refine HC.out.mono ?_; rintro e w2 ⟨rfl, hb⟩)
 go_ret2
 exact ⟨rfl, HB2.out.trans (hb.mono HB2.out.size)⟩
def FvI (w : World) (b h : Nat) : Prop := w.heap[b]? = some (.cells #[.func (.func h) #[] #[]] 155 (0, 0))
theorem FvI.keep {w w' : World} {b h : Nat} (hf : FvI w b h) (hb : Below w.heap.size w w') : FvI w' b h := (hb.block _ (Array.getElem?_eq_some_iff.1 hf).1).trans hf
theorem FvI.c0 {w : World} {b h : Nat} (hf : FvI w b h) : w.cell? ⟨b, 0, none⟩ = some (.func (.func h) #[] #[]) := by rw [Lib.cell_of_heap hf]; rfl
set_option maxHeartbeats 3200000 in
theorem two11I {W : World} {bf bx h : Nat} {m1 m2 : Bool} {n1 d1 n2 d2 : Nat} {x1 y1 u : Value} (eh : ∀ args w, (callFunc h args).run Tryz.prog w = .ok (.enter h args) w) (r1 r2 : Value)
  (hf : FvI W bf h) (hx : FR W bx m1 x1 y1) (hx1 : Num W x1 n1) (hy1 : Num W y1 d1) (hu : FNum W u m2 n2 d2)
  (hp : ∀ W' v u, Below W.heap.size W W' → FNum W' v m1 n1 d1 → FNum W' u m2 n2 d2 → Calls Tryz.prog h #[v, u] W' fun e w' => e = .returned (.tuple #[r1, r2]) ∧ Below W'.heap.size W' w') :
  Calls Tryz.prog 150 #[u, .pointer (some ⟨bf, 0, none⟩), .pointer (some ⟨bx, 0, none⟩)] W fun e w' => e = .returned (.tuple #[r1, r2]) ∧ Below W.heap.size W w' := by
 obtain ⟨x2, y2, rfl, hx2, hy2⟩ := hu
 obtain ⟨a1, k1, rfl⟩ := slice_any hx1
 obtain ⟨a2, k2, rfl⟩ := slice_any hy1
 obtain ⟨a3, k3, rfl⟩ := slice_any hx2
 obtain ⟨a4, k4, rfl⟩ := slice_any hy2
 have hb0 : Below W.heap.size W (W.alloc (.cells #[.bool m2, .slice a3 (ln n2) k3, .slice a4 (ln d2) k4] 110)) := (Below.refl _ _).alloc (Nat.le_refl _) _
 have HB := Lib.hid hb0
 have HC := Lib.hid (hp (W.alloc (.cells #[.bool m2, .slice a3 (ln n2) k3, .slice a4 (ln d2) k4] 110)) (.agg #[.bool m1, .slice a1 (ln n1) k1, .slice a2 (ln d1) k2]) (.agg #[.bool m2, .slice a3 (ln n2) k3, .slice a4 (ln d2) k4]) hb0 ⟨_, _, rfl, hx1.below hb0, hy1.below hb0⟩ ⟨_, _, rfl, hx2.below hb0, hy2.below hb0⟩)
 have f0 := (hf.keep hb0).c0
 have c0 := (hx.keep hb0).c0
 have c1 := (hx.keep hb0).c1
 have c2 := (hx.keep hb0).c2
 clear hf hx hx1 hy1 hx2 hy2 hp hb0
 go_enter Tryz.func150, Tryz.ntmps150
 go_wp2_with (go_at_fn h; refine HC.out.mono ?_; rintro e w2 ⟨rfl, hb⟩)
 go_ret2
 exact ⟨rfl, HB.out.trans (hb.mono HB.out.size)⟩
def TxI (w : World) (b : Nat) (t : ByteArray) : Prop := w.heap[b]? = some (.cells #[.string t] 23 (0, 0))
theorem TxI.keep {w w' : World} {b : Nat} {t : ByteArray} (hf : TxI w b t) (hb : Below w.heap.size w w') : TxI w' b t := (hb.block _ (Array.getElem?_eq_some_iff.1 hf).1).trans hf
theorem TxI.c0 {w : World} {b : Nat} {t : ByteArray} (hf : TxI w b t) : w.cell? ⟨b, 0, none⟩ = some (.string t) := by rw [Lib.cell_of_heap hf]; rfl
set_option maxHeartbeats 3200000 in
theorem two1_okI {W : World} {bb bf h : Nat} {m1 : Bool} {n1 d1 : Nat} {u : Value} {t : ByteArray} (eh : ∀ args w, (callFunc h args).run Tryz.prog w = .ok (.enter h args) w) (r1 r2 : Value)
  (ht : t.size ≤ 1000000) (hm : ML W) (hw0 : 0 < W.heap.size) (h0 : rchk t = 0) (hf : FvI W bf h) (hx : TxI W bb t) (hu : FNum W u m1 n1 d1)
  (hp : ∀ W' v u, Below W.heap.size W W' → FNum W' v m1 n1 d1 → FNum W' u (minusB (numS t)) (dv (restS (numS t)).data.toList) (dv (denS t).data.toList) → Calls Tryz.prog h #[v, u] W' fun e w' => e = .returned (.tuple #[r1, r2]) ∧ Below W'.heap.size W' w') :
  Calls Tryz.prog 149 #[u, .pointer (some ⟨bb, 0, none⟩), .pointer (some ⟨bf, 0, none⟩)] W fun e w' => e = .returned (.tuple #[r1, r2]) ∧ Below W.heap.size W w' := by
 have hmf : ∀ (fn : Fn) (first cap : Array Value) (w : World), (Instr.makeFunc fn first cap).run Tryz.prog w = .ok (.func fn first cap) w := fun _ _ _ _ => rfl
 obtain ⟨x1, y1, rfl, hx1, hy1⟩ := hu
 obtain ⟨a1, k1, rfl⟩ := slice_any hx1
 obtain ⟨a2, k2, rfl⟩ := slice_any hy1
 have hb0 : Below W.heap.size W (W.alloc (.cells #[.bool m1, .slice a1 (ln n1) k1, .slice a2 (ln d1) k2] 110)) := (Below.refl _ _).alloc (Nat.le_refl _) _
 have hq := FR.new W m1 (.slice a1 (ln n1) k1) (.slice a2 (ln d1) k2)
 have hx1 := hx1.below hb0
 have hy1 := hy1.below hb0
 have hf0 := hf.keep hb0
 have f0 := (hx.keep hb0).c0
 have hm0 : ML (W.alloc (.cells #[.bool m1, .slice a1 (ln n1) k1, .slice a2 (ln d1) k2] 110)) := ml_keep hm hw0 hb0
 have HB := Lib.hid hb0
 have e2 : ∀ args w, (callFunc 150 args).run Tryz.prog w = .ok (.enter 150 args) w := enters_of Tryz.func150 (by kernel_rfl) rfl
 have HC := Lib.hid (withOne_okI 150 #[.pointer (some ⟨bf, 0, none⟩), .pointer (some ⟨W.heap.size, 0, none⟩)] e2 t _ ht hm0 h0 r1 r2 (fun W2 v2 hb2 hv2 =>
  two11I eh r1 r2 (hf0.keep hb2) (hq.keep hb2) (hx1.below hb2) (hy1.below hb2) hv2 (fun W3 v3 u3 hb3 => hp W3 v3 u3 (hb0.trans ((hb2.trans (hb3.mono hb2.size)).mono hb0.size)))))
 clear hf hx hx1 hy1 hp hb0 hf0 hm0 hq
 go_enter Tryz.func149, Tryz.ntmps149
 go_wp2_with fail
 refine HC.out.mono ?_
 rintro e w2 ⟨rfl, hb⟩
 have HB2 := Lib.hid (HB.out.trans (hb.mono HB.out.size))
 clear hb HC
 go_wp2_with fail
 go_ret2
 exact ⟨rfl, HB2.out⟩
set_option maxHeartbeats 3200000 in
theorem two1_errI {W : World} {bb bf : Nat} {m1 : Bool} {n1 d1 : Nat} {u : Value} {t : ByteArray}
  (ht : t.size ≤ 1000000) (hm : ML W) (hw0 : 0 < W.heap.size) (h0 : rchk t ≠ 0) (hx : TxI W bb t) (hu : FNum W u m1 n1 d1) :
  Calls Tryz.prog 149 #[u, .pointer (some ⟨bb, 0, none⟩), .pointer (some ⟨bf, 0, none⟩)] W fun e w' => e = .returned (.tuple #[.int .i64 0, .int .i64 ((rchk t : Nat) : Int)]) ∧ Below W.heap.size W w' := by
 have hmf : ∀ (fn : Fn) (first cap : Array Value) (w : World), (Instr.makeFunc fn first cap).run Tryz.prog w = .ok (.func fn first cap) w := fun _ _ _ _ => rfl
 obtain ⟨x1, y1, rfl, hx1, hy1⟩ := hu
 obtain ⟨a1, k1, rfl⟩ := slice_any hx1
 obtain ⟨a2, k2, rfl⟩ := slice_any hy1
 have hb0 : Below W.heap.size W (W.alloc (.cells #[.bool m1, .slice a1 (ln n1) k1, .slice a2 (ln d1) k2] 110)) := (Below.refl _ _).alloc (Nat.le_refl _) _
 have f0 := (hx.keep hb0).c0
 have hm0 : ML (W.alloc (.cells #[.bool m1, .slice a1 (ln n1) k1, .slice a2 (ln d1) k2] 110)) := ml_keep hm hw0 hb0
 have HB := Lib.hid hb0
 have HC := Lib.hid (fun fv => withOne_errI fv t _ ht hm0 h0)
 clear hx hx1 hy1 hb0 hm0 h0
 go_enter Tryz.func149, Tryz.ntmps149
 go_wp2_with fail
 refine (HC.out _).mono ?_
 rintro e w2 ⟨rfl, hb⟩
 have HB2 := Lib.hid (HB.out.trans (hb.mono HB.out.size))
 clear hb HC
 go_wp2_with fail
 go_ret2
 exact ⟨rfl, HB2.out⟩
theorem two_newI (w : World) (t : ByteArray) (h : Nat) : Below w.heap.size w ((w.alloc (.cells #[.string t] 23)).alloc (.cells #[.func (.func h) #[] #[]] 155)) ∧
  TxI ((w.alloc (.cells #[.string t] 23)).alloc (.cells #[.func (.func h) #[] #[]] 155)) w.heap.size t ∧
  FvI ((w.alloc (.cells #[.string t] 23)).alloc (.cells #[.func (.func h) #[] #[]] 155)) (w.heap.size + 1) h := by
 have h1 : TxI (w.alloc (.cells #[.string t] 23)) w.heap.size t := heap_alloc_new w _
 have s1 : (w.alloc (.cells #[.string t] 23)).heap.size = w.heap.size + 1 := by simp
 have b1 : Below w.heap.size w (w.alloc (.cells #[.string t] 23)) := (Below.refl _ _).alloc (Nat.le_refl _) _
 generalize w.alloc (.cells #[.string t] 23) = w1 at *
 have h2 : FvI (w1.alloc (.cells #[.func (.func h) #[] #[]] 155)) w1.heap.size h := heap_alloc_new w1 _
 have b2 : Below w1.heap.size w1 (w1.alloc (.cells #[.func (.func h) #[] #[]] 155)) := (Below.refl _ _).alloc (Nat.le_refl _) _
 exact ⟨b1.trans (b2.mono (by omega)), h1.keep b2, by rw [← s1]; exact h2⟩
set_option maxHeartbeats 3200000 in
theorem withTwo_err1I (h : Nat) (s t : ByteArray) (w : World) (hs : s.size ≤ 1000000) (hm : ML w) (hw0 : 0 < w.heap.size) (h1 : rchk s ≠ 0) :
  Calls Tryz.prog 119 #[.string s, .string t, .func (.func h) #[] #[]] w fun e w' => e = .returned (.tuple #[.int .i64 0, .int .i64 ((rchk s : Nat) : Int)]) ∧ Below w.heap.size w w' := by
 have hmf : ∀ (fn : Fn) (first cap : Array Value) (w : World), (Instr.makeFunc fn first cap).run Tryz.prog w = .ok (.func fn first cap) w := fun _ _ _ _ => rfl
 obtain ⟨hb0, ht0, hf0⟩ := two_newI w t h
 have hm0 := ml_keep hm hw0 hb0
 have HB := Lib.hid hb0
 have HC := Lib.hid (fun fv => withOne_errI fv s _ hs hm0 h1)
 clear hb0 ht0 hf0 hm0 h1 hm
 go_enter Tryz.func119, Tryz.ntmps119
 go_wp2_with fail
 refine (HC.out _).mono ?_
 rintro e w2 ⟨rfl, hb⟩
 have HB2 := Lib.hid (HB.out.trans (hb.mono HB.out.size))
 clear hb HC
 go_wp2_with fail
 go_ret2
 exact ⟨rfl, HB2.out⟩
set_option maxHeartbeats 3200000 in
theorem withTwo_oneI (h : Nat) (s t : ByteArray) (w : World) (hs : s.size ≤ 1000000) (hm : ML w) (hw0 : 0 < w.heap.size) (h1 : rchk s = 0) (r1 r2 : Value)
  (hp : ∀ W v, Below w.heap.size w W → TxI W w.heap.size t → FvI W (w.heap.size + 1) h → FNum W v (minusB (numS s)) (dv (restS (numS s)).data.toList) (dv (denS s).data.toList) →
   Calls Tryz.prog 149 #[v, .pointer (some ⟨w.heap.size, 0, none⟩), .pointer (some ⟨w.heap.size + 1, 0, none⟩)] W fun e w' => e = .returned (.tuple #[r1, r2]) ∧ Below W.heap.size W w') :
  Calls Tryz.prog 119 #[.string s, .string t, .func (.func h) #[] #[]] w fun e w' => e = .returned (.tuple #[r1, r2]) ∧ Below w.heap.size w w' := by
 have hmf : ∀ (fn : Fn) (first cap : Array Value) (w : World), (Instr.makeFunc fn first cap).run Tryz.prog w = .ok (.func fn first cap) w := fun _ _ _ _ => rfl
 obtain ⟨hb0, ht0, hf0⟩ := two_newI w t h
 have hm0 := ml_keep hm hw0 hb0
 have HB := Lib.hid hb0
 have e1 : ∀ args w, (callFunc 149 args).run Tryz.prog w = .ok (.enter 149 args) w := enters_of Tryz.func149 (by kernel_rfl) rfl
 have HC := Lib.hid (withOne_okI 149 #[.pointer (some ⟨w.heap.size, 0, none⟩), .pointer (some ⟨w.heap.size + 1, 0, none⟩)] e1 s _ hs hm0 h1 r1 r2 (fun W2 v2 hb2 hv2 =>
  hp W2 v2 (hb0.trans (hb2.mono hb0.size)) (ht0.keep hb2) (hf0.keep hb2) hv2))
 clear hb0 ht0 hf0 hm0 hp hm
 go_enter Tryz.func119, Tryz.ntmps119
 go_wp2_with fail
 refine HC.out.mono ?_
 rintro e w2 ⟨rfl, hb⟩
 have HB2 := Lib.hid (HB.out.trans (hb.mono HB.out.size))
 clear hb HC
 go_wp2_with fail
 go_ret2
 exact ⟨rfl, HB2.out⟩
theorem withTwo_err2I (h : Nat) (s t : ByteArray) (w : World) (hs : s.size ≤ 1000000) (ht : t.size ≤ 1000000) (hm : ML w) (hw0 : 0 < w.heap.size) (h1 : rchk s = 0) (h2 : rchk t ≠ 0) :
  Calls Tryz.prog 119 #[.string s, .string t, .func (.func h) #[] #[]] w fun e w' => e = .returned (.tuple #[.int .i64 0, .int .i64 ((rchk t : Nat) : Int)]) ∧ Below w.heap.size w w' :=
 withTwo_oneI h s t w hs hm hw0 h1 _ _ (fun _ _ hb hx _ hv => two1_errI ht (ml_keep hm hw0 hb) (Nat.lt_of_lt_of_le hw0 hb.size) h2 hx hv)
theorem withTwo_okI (h : Nat) (eh : ∀ args w, (callFunc h args).run Tryz.prog w = .ok (.enter h args) w) (s t : ByteArray) (w : World) (hs : s.size ≤ 1000000) (ht : t.size ≤ 1000000) (hm : ML w) (hw0 : 0 < w.heap.size) (h1 : rchk s = 0) (h2 : rchk t = 0) (r1 r2 : Value)
  (hp : ∀ W v u, Below w.heap.size w W → FNum W v (minusB (numS s)) (dv (restS (numS s)).data.toList) (dv (denS s).data.toList) → FNum W u (minusB (numS t)) (dv (restS (numS t)).data.toList) (dv (denS t).data.toList) → Calls Tryz.prog h #[v, u] W fun e w' => e = .returned (.tuple #[r1, r2]) ∧ Below W.heap.size W w') :
  Calls Tryz.prog 119 #[.string s, .string t, .func (.func h) #[] #[]] w fun e w' => e = .returned (.tuple #[r1, r2]) ∧ Below w.heap.size w w' :=
 withTwo_oneI h s t w hs hm hw0 h1 r1 r2 (fun _ _ hb hx hf hv => two1_okI eh r1 r2 ht (ml_keep hm hw0 hb) (Nat.lt_of_lt_of_le hw0 hb.size) h2 hf hx hv (fun W3 v3 u3 hb3 => hp W3 v3 u3 (hb.trans (hb3.mono hb.size))))
open Go.RowKit NV
open Go.Lib (decDigits)
open Go.RowKit NV
def sgnF (m : Bool) (n : Nat) : Int := if n = 0 then 0 else if m then -1 else 1
set_option maxHeartbeats 1600000 in
theorem fsign_any {w : World} {m : Bool} {x y : Value} {n d : Nat} (hx : Num w x n) (hy : Num w y d) :
  Calls Tryz.prog 151 #[.agg #[.bool m, x, y]] w fun e w' => e = .returned (.int .i64 (sgnF m n)) ∧ Below w.heap.size w w' := by
 obtain ⟨a1, k1, rfl⟩ := slice_any hx
 obtain ⟨a2, k2, rfl⟩ := slice_any hy
 have hb0 : Below w.heap.size w (w.alloc (.cells #[.bool m, .slice a1 (ln n) k1, .slice a2 (ln d) k2] 110)) := (Below.refl _ _).alloc (Nat.le_refl _) _
 have HZ := Lib.hid (fzero_any (m := m) (hx.below hb0) (hy.below hb0))
 have HQ := Lib.hid (FR.new w m (.slice a1 (ln n) k1) (.slice a2 (ln d) k2))
 have HB := Lib.hid hb0
 by_cases hn : n = 0
 ·have HR := Lib.hid (show sgnF m n = 0 by rw [sgnF, if_pos hn])
  rw [show zeroB n = true from decide_eq_true hn] at HZ
  clear hx hy hb0 hn
  go_enter Tryz.func151, Tryz.ntmps151
  go_wp2_with fail
  refine HZ.out.mono ?_
  rintro e w1 ⟨rfl, hb1⟩
  replace HB := Lib.hid (HB.out.trans (hb1.mono HB.out.size))
  clear hb1
  go_wp2_with fail
  go_ret
  exact ⟨by rw [HR.out]; rfl, HB.out⟩
 ·have HR := Lib.hid (show sgnF m n = if m then -1 else 1 by rw [sgnF, if_neg hn])
  rw [show zeroB n = false from decide_eq_false hn] at HZ
  clear hx hy hb0 hn
  go_enter Tryz.func151, Tryz.ntmps151
  go_wp2_with fail
  refine HZ.out.mono ?_
  rintro e w1 ⟨rfl, hb1⟩
  have c0 := (HQ.out.keep hb1).c0
  replace HB := Lib.hid (HB.out.trans (hb1.mono HB.out.size))
  clear hb1
  cases m with
  | false =>
   go_wp2_with fail
   go_ret
   exact ⟨by rw [HR.out]; rfl, HB.out⟩
  | true =>
   go_wp2_with fail
   go_ret
   exact ⟨by rw [HR.out]; rfl, HB.out⟩
def cmpF (m1 : Bool) (n1 d1 : Nat) (m2 : Bool) (n2 d2 : Nat) : Int :=
 if sgnF m1 n1 = sgnF m2 n2 then (if m1 then cmpN (n2 * d1) (n1 * d2) else cmpN (n1 * d2) (n2 * d1)) else Lib.compareInt (sgnF m1 n1) (sgnF m2 n2)
theorem lift_0 {f : Nat} {args : Array Value} {w0 W : World} {v : Value} (h0 : Below w0.heap.size w0 W) (hc : Calls Tryz.prog f args W fun e w' => e = .returned v ∧ Below W.heap.size W w') :
  Calls Tryz.prog f args W fun e w' => e = .returned v ∧ Below W.heap.size W w' ∧ Below w0.heap.size w0 w' :=
 hc.mono fun _ _ ⟨h1, h3⟩ => ⟨h1, h3, h0.trans (h3.mono h0.size)⟩
set_option maxHeartbeats 6400000 in
set_option maxRecDepth 100000 in
theorem fcmp_D {w : World} {m1 m2 : Bool} {x1 y1 x2 y2 : Value} {n1 d1 n2 d2 : Nat} (hx1 : Num w x1 n1) (hy1 : Num w y1 d1) (hx2 : Num w x2 n2) (hy2 : Num w y2 d2)
  (l1 : ln n1 ≤ 100000) (l2 : ln d1 ≤ 100000) (l3 : ln n2 ≤ 100000) (l4 : ln d2 ≤ 100000) (hs : sgnF m1 n1 ≠ sgnF m2 n2) :
  Calls Tryz.prog 121 #[.agg #[.bool m1, x1, y1], .agg #[.bool m2, x2, y2]] w fun e w' => e = .returned (.int .i64 (Lib.compareInt (sgnF m1 n1) (sgnF m2 n2))) ∧ Below w.heap.size w w' := by
 obtain ⟨a1, k1, rfl⟩ := slice_any hx1
 obtain ⟨a2, k2, rfl⟩ := slice_any hy1
 obtain ⟨a3, k3, rfl⟩ := slice_any hx2
 obtain ⟨a4, k4, rfl⟩ := slice_any hy2
 obtain ⟨hb0, hq1, hq2⟩ := two_frac w m1 m2 (.slice a1 (ln n1) k1) (.slice a2 (ln d1) k2) (.slice a3 (ln n2) k3) (.slice a4 (ln d2) k4)
 have HX1 := Lib.hid (hx1.below hb0)
 have HY1 := Lib.hid (hy1.below hb0)
 have HX2 := Lib.hid (hx2.below hb0)
 have HY2 := Lib.hid (hy2.below hb0)
 have HB := Lib.hid hb0
 have HQ1 := Lib.hid hq1
 have HQ2 := Lib.hid hq2
 have HL := Lib.hid (show ln n1 ≤ 2000000 ∧ ln d1 ≤ 2000000 ∧ ln n2 ≤ 2000000 ∧ ln d2 ≤ 2000000 by omega)
 have HM := Lib.hid (show ln (n1 * d2) ≤ 1073741824 ∧ ln (n2 * d1) ≤ 1073741824 from ⟨Nat.le_trans (ln_mul l1 l4) (by omega), Nat.le_trans (ln_mul l3 l2) (by omega)⟩)
 obtain ⟨s1, hs1⟩ : ∃ s, s = sgnF m1 n1 := ⟨_, rfl⟩
 obtain ⟨s2, hs2⟩ : ∃ s, s = sgnF m2 n2 := ⟨_, rfl⟩
 rw [← hs1, ← hs2] at hs ⊢
 have HSI := Lib.hid (And.intro hs1 hs2)
 have hss : (s1 == s2) = false := by rw [beq_eq_false_iff_ne]; exact hs
 clear hx1 hy1 hx2 hy2 hb0 hq1 hq2 l1 l2 l3 l4 hs hs1 hs2
 go_enter Tryz.func121, Tryz.ntmps121
 go_wp2_with fail
 generalize (w.alloc (.cells #[.bool m1, .slice a1 (ln n1) k1, .slice a2 (ln d1) k2] 110)).alloc (.cells #[.bool m2, .slice a3 (ln n2) k3, .slice a4 (ln d2) k4] 110) = w0 at HX1 HY1 HX2 HY2 HB HQ1 HQ2 ⊢
 have HS_w0 := Lib.hid (show ∀ W, Below w0.heap.size w0 W → W.cell? ⟨w.heap.size, 0, none⟩ = some (.bool m1) ∧ W.cell? ⟨w.heap.size, 1, none⟩ = some (.slice a1 (ln n1) k1) ∧ W.cell? ⟨w.heap.size, 2, none⟩ = some (.slice a2 (ln d1) k2) ∧ W.cell? ⟨w.heap.size + 1, 0, none⟩ = some (.bool m2) ∧ W.cell? ⟨w.heap.size + 1, 1, none⟩ = some (.slice a3 (ln n2) k3) ∧ W.cell? ⟨w.heap.size + 1, 2, none⟩ = some (.slice a4 (ln d2) k4) from fun W h =>
   ⟨(HQ1.out.keep h).c0, (HQ1.out.keep h).c1, (HQ1.out.keep h).c2, (HQ2.out.keep h).c0, (HQ2.out.keep h).c1, (HQ2.out.keep h).c2⟩)
 have hD_w0 := (Below.refl w0.heap.size w0).drew
 go_region_held3 (fun W => W.cell? ⟨w.heap.size, 0, none⟩ = some (.bool m1) ∧ W.cell? ⟨w.heap.size, 1, none⟩ = some (.slice a1 (ln n1) k1) ∧ W.cell? ⟨w.heap.size, 2, none⟩ = some (.slice a2 (ln d1) k2) ∧ W.cell? ⟨w.heap.size + 1, 0, none⟩ = some (.bool m2) ∧ W.cell? ⟨w.heap.size + 1, 1, none⟩ = some (.slice a3 (ln n2) k3) ∧ W.cell? ⟨w.heap.size + 1, 2, none⟩ = some (.slice a4 (ln d2) k4))
  (first | exact HS_w0.out _ hD_w0 | exact HS_w0.out _ (by assumption))
  (first
   | (go_at_call_of 151 (Value.agg #[.bool m1, .slice a1 (ln n1) k1, .slice a2 (ln d1) k2]); refine (lift_0 (w0 := w0) (by assumption) (HSI.out.1 ▸ fsign_any (m := m1) (n := n1) (HX1.out.below (by assumption)) (HY1.out.below (by assumption)))).mono ?_; rintro e u1 ⟨rfl, hbu1, hBu1⟩)
   | (go_at_call_of 151 (Value.agg #[.bool m2, .slice a3 (ln n2) k3, .slice a4 (ln d2) k4]); refine (lift_0 (w0 := w0) (by assumption) (HSI.out.2 ▸ fsign_any (m := m2) (n := n2) (HX2.out.below (by assumption)) (HY2.out.below (by assumption)))).mono ?_; rintro e u2 ⟨rfl, hbu2, hBu2⟩))
 replace HX1 := Lib.hid (HX1.out.below hBu2)
 replace HY1 := Lib.hid (HY1.out.below hBu2)
 replace HX2 := Lib.hid (HX2.out.below hBu2)
 replace HY2 := Lib.hid (HY2.out.below hBu2)
 replace HQ1 := Lib.hid (HQ1.out.keep hBu2)
 replace HQ2 := Lib.hid (HQ2.out.keep hBu2)
 replace HB := Lib.hid (HB.out.trans (hBu2.mono HB.out.size))
 clear hbu1 hBu1 hbu2 hBu2 hD_w0 HS_w0
 go_wp2_with fail
 have HS_u2 := Lib.hid (show ∀ W, Below u2.heap.size u2 W → W.cell? ⟨w.heap.size, 0, none⟩ = some (.bool m1) ∧ W.cell? ⟨w.heap.size, 1, none⟩ = some (.slice a1 (ln n1) k1) ∧ W.cell? ⟨w.heap.size, 2, none⟩ = some (.slice a2 (ln d1) k2) ∧ W.cell? ⟨w.heap.size + 1, 0, none⟩ = some (.bool m2) ∧ W.cell? ⟨w.heap.size + 1, 1, none⟩ = some (.slice a3 (ln n2) k3) ∧ W.cell? ⟨w.heap.size + 1, 2, none⟩ = some (.slice a4 (ln d2) k4) from fun W h =>
   ⟨(HQ1.out.keep h).c0, (HQ1.out.keep h).c1, (HQ1.out.keep h).c2, (HQ2.out.keep h).c0, (HQ2.out.keep h).c1, (HQ2.out.keep h).c2⟩)
 have hD_u2 := (Below.refl u2.heap.size u2).drew
 go_region_held3 (fun W => W.cell? ⟨w.heap.size, 0, none⟩ = some (.bool m1) ∧ W.cell? ⟨w.heap.size, 1, none⟩ = some (.slice a1 (ln n1) k1) ∧ W.cell? ⟨w.heap.size, 2, none⟩ = some (.slice a2 (ln d1) k2) ∧ W.cell? ⟨w.heap.size + 1, 0, none⟩ = some (.bool m2) ∧ W.cell? ⟨w.heap.size + 1, 1, none⟩ = some (.slice a3 (ln n2) k3) ∧ W.cell? ⟨w.heap.size + 1, 2, none⟩ = some (.slice a4 (ln d2) k4))
  (first | exact HS_u2.out _ hD_u2 | exact HS_u2.out _ (by assumption))
  (first
   | (go_at_call_of 151 (Value.agg #[.bool m1, .slice a1 (ln n1) k1, .slice a2 (ln d1) k2]); refine (lift_0 (w0 := u2) (by assumption) (HSI.out.1 ▸ fsign_any (m := m1) (n := n1) (HX1.out.below (by assumption)) (HY1.out.below (by assumption)))).mono ?_; rintro e u3 ⟨rfl, hbu3, hBu3⟩)
   | (go_at_call_of 151 (Value.agg #[.bool m2, .slice a3 (ln n2) k3, .slice a4 (ln d2) k4]); refine (lift_0 (w0 := u2) (by assumption) (HSI.out.2 ▸ fsign_any (m := m2) (n := n2) (HX2.out.below (by assumption)) (HY2.out.below (by assumption)))).mono ?_; rintro e u4 ⟨rfl, hbu4, hBu4⟩)
   | (go_at_call 135; refine (Tryz.cmp_Compare_int _ _ _).mono ?_; rintro e u5 ⟨rfl, hw5⟩; subst hw5))
 replace HX1 := Lib.hid (HX1.out.below hBu4)
 replace HY1 := Lib.hid (HY1.out.below hBu4)
 replace HX2 := Lib.hid (HX2.out.below hBu4)
 replace HY2 := Lib.hid (HY2.out.below hBu4)
 replace HQ1 := Lib.hid (HQ1.out.keep hBu4)
 replace HQ2 := Lib.hid (HQ2.out.keep hBu4)
 replace HB := Lib.hid (HB.out.trans (hBu4.mono HB.out.size))
 clear hbu3 hBu3 hbu4 hBu4 hD_u2 HS_u2
 go_wp2_with fail
 go_ret
 exact ⟨rfl, HB.out⟩
set_option maxHeartbeats 6400000 in
set_option maxRecDepth 100000 in
theorem fcmp_P {w : World} {m1 m2 : Bool} {x1 y1 x2 y2 : Value} {n1 d1 n2 d2 : Nat} (hx1 : Num w x1 n1) (hy1 : Num w y1 d1) (hx2 : Num w x2 n2) (hy2 : Num w y2 d2)
  (l1 : ln n1 ≤ 100000) (l2 : ln d1 ≤ 100000) (l3 : ln n2 ≤ 100000) (l4 : ln d2 ≤ 100000) (hs : sgnF m1 n1 = sgnF m2 n2) (hm : m1 = false) :
  Calls Tryz.prog 121 #[.agg #[.bool m1, x1, y1], .agg #[.bool m2, x2, y2]] w fun e w' => e = .returned (.int .i64 (cmpN (n1 * d2) (n2 * d1))) ∧ Below w.heap.size w w' := by
 subst hm
 obtain ⟨a1, k1, rfl⟩ := slice_any hx1
 obtain ⟨a2, k2, rfl⟩ := slice_any hy1
 obtain ⟨a3, k3, rfl⟩ := slice_any hx2
 obtain ⟨a4, k4, rfl⟩ := slice_any hy2
 obtain ⟨hb0, hq1, hq2⟩ := two_frac w false m2 (.slice a1 (ln n1) k1) (.slice a2 (ln d1) k2) (.slice a3 (ln n2) k3) (.slice a4 (ln d2) k4)
 have HX1 := Lib.hid (hx1.below hb0)
 have HY1 := Lib.hid (hy1.below hb0)
 have HX2 := Lib.hid (hx2.below hb0)
 have HY2 := Lib.hid (hy2.below hb0)
 have HB := Lib.hid hb0
 have HQ1 := Lib.hid hq1
 have HQ2 := Lib.hid hq2
 have HL := Lib.hid (show ln n1 ≤ 2000000 ∧ ln d1 ≤ 2000000 ∧ ln n2 ≤ 2000000 ∧ ln d2 ≤ 2000000 by omega)
 have HM := Lib.hid (show ln (n1 * d2) ≤ 1073741824 ∧ ln (n2 * d1) ≤ 1073741824 from ⟨Nat.le_trans (ln_mul l1 l4) (by omega), Nat.le_trans (ln_mul l3 l2) (by omega)⟩)
 obtain ⟨s1, hs1⟩ : ∃ s, s = sgnF false n1 := ⟨_, rfl⟩
 obtain ⟨s2, hs2⟩ : ∃ s, s = sgnF m2 n2 := ⟨_, rfl⟩
 rw [← hs1, ← hs2] at hs 
 have HSI := Lib.hid (And.intro hs1 hs2)
 have hss : (s1 == s2) = true := by rw [beq_iff_eq]; exact hs
 clear hx1 hy1 hx2 hy2 hb0 hq1 hq2 l1 l2 l3 l4 hs hs1 hs2
 go_enter Tryz.func121, Tryz.ntmps121
 go_wp2_with fail
 generalize (w.alloc (.cells #[.bool false, .slice a1 (ln n1) k1, .slice a2 (ln d1) k2] 110)).alloc (.cells #[.bool m2, .slice a3 (ln n2) k3, .slice a4 (ln d2) k4] 110) = w0 at HX1 HY1 HX2 HY2 HB HQ1 HQ2 ⊢
 have HS_w0 := Lib.hid (show ∀ W, Below w0.heap.size w0 W → W.cell? ⟨w.heap.size, 0, none⟩ = some (.bool false) ∧ W.cell? ⟨w.heap.size, 1, none⟩ = some (.slice a1 (ln n1) k1) ∧ W.cell? ⟨w.heap.size, 2, none⟩ = some (.slice a2 (ln d1) k2) ∧ W.cell? ⟨w.heap.size + 1, 0, none⟩ = some (.bool m2) ∧ W.cell? ⟨w.heap.size + 1, 1, none⟩ = some (.slice a3 (ln n2) k3) ∧ W.cell? ⟨w.heap.size + 1, 2, none⟩ = some (.slice a4 (ln d2) k4) from fun W h =>
   ⟨(HQ1.out.keep h).c0, (HQ1.out.keep h).c1, (HQ1.out.keep h).c2, (HQ2.out.keep h).c0, (HQ2.out.keep h).c1, (HQ2.out.keep h).c2⟩)
 have hD_w0 := (Below.refl w0.heap.size w0).drew
 go_region_held3 (fun W => W.cell? ⟨w.heap.size, 0, none⟩ = some (.bool false) ∧ W.cell? ⟨w.heap.size, 1, none⟩ = some (.slice a1 (ln n1) k1) ∧ W.cell? ⟨w.heap.size, 2, none⟩ = some (.slice a2 (ln d1) k2) ∧ W.cell? ⟨w.heap.size + 1, 0, none⟩ = some (.bool m2) ∧ W.cell? ⟨w.heap.size + 1, 1, none⟩ = some (.slice a3 (ln n2) k3) ∧ W.cell? ⟨w.heap.size + 1, 2, none⟩ = some (.slice a4 (ln d2) k4))
  (first | exact HS_w0.out _ hD_w0 | exact HS_w0.out _ (by assumption))
  (first
   | (go_at_call_of 151 (Value.agg #[.bool false, .slice a1 (ln n1) k1, .slice a2 (ln d1) k2]); refine (lift_0 (w0 := w0) (by assumption) (HSI.out.1 ▸ fsign_any (m := false) (n := n1) (HX1.out.below (by assumption)) (HY1.out.below (by assumption)))).mono ?_; rintro e u1 ⟨rfl, hbu1, hBu1⟩)
   | (go_at_call_of 151 (Value.agg #[.bool m2, .slice a3 (ln n2) k3, .slice a4 (ln d2) k4]); refine (lift_0 (w0 := w0) (by assumption) (HSI.out.2 ▸ fsign_any (m := m2) (n := n2) (HX2.out.below (by assumption)) (HY2.out.below (by assumption)))).mono ?_; rintro e u2 ⟨rfl, hbu2, hBu2⟩))
 replace HX1 := Lib.hid (HX1.out.below hBu2)
 replace HY1 := Lib.hid (HY1.out.below hBu2)
 replace HX2 := Lib.hid (HX2.out.below hBu2)
 replace HY2 := Lib.hid (HY2.out.below hBu2)
 replace HQ1 := Lib.hid (HQ1.out.keep hBu2)
 replace HQ2 := Lib.hid (HQ2.out.keep hBu2)
 replace HB := Lib.hid (HB.out.trans (hBu2.mono HB.out.size))
 clear hbu1 hBu1 hbu2 hBu2 hD_w0 HS_w0
 go_wp2_with fail
 have c0 := HQ1.out.c0
 go_wp2_with fail
 clear c0
 have HS_u2 := Lib.hid (show ∀ W, Below u2.heap.size u2 W → W.cell? ⟨w.heap.size, 0, none⟩ = some (.bool false) ∧ W.cell? ⟨w.heap.size, 1, none⟩ = some (.slice a1 (ln n1) k1) ∧ W.cell? ⟨w.heap.size, 2, none⟩ = some (.slice a2 (ln d1) k2) ∧ W.cell? ⟨w.heap.size + 1, 0, none⟩ = some (.bool m2) ∧ W.cell? ⟨w.heap.size + 1, 1, none⟩ = some (.slice a3 (ln n2) k3) ∧ W.cell? ⟨w.heap.size + 1, 2, none⟩ = some (.slice a4 (ln d2) k4) from fun W h =>
   ⟨(HQ1.out.keep h).c0, (HQ1.out.keep h).c1, (HQ1.out.keep h).c2, (HQ2.out.keep h).c0, (HQ2.out.keep h).c1, (HQ2.out.keep h).c2⟩)
 have hD_u2 := (Below.refl u2.heap.size u2).drew
 go_region_held3 (fun W => W.cell? ⟨w.heap.size, 0, none⟩ = some (.bool false) ∧ W.cell? ⟨w.heap.size, 1, none⟩ = some (.slice a1 (ln n1) k1) ∧ W.cell? ⟨w.heap.size, 2, none⟩ = some (.slice a2 (ln d1) k2) ∧ W.cell? ⟨w.heap.size + 1, 0, none⟩ = some (.bool m2) ∧ W.cell? ⟨w.heap.size + 1, 1, none⟩ = some (.slice a3 (ln n2) k3) ∧ W.cell? ⟨w.heap.size + 1, 2, none⟩ = some (.slice a4 (ln d2) k4))
  (first | exact HS_u2.out _ hD_u2 | exact HS_u2.out _ (by assumption))
  (first
   | (go_at_call_of 100 (Value.slice a1 (ln n1) k1); refine (lift_num (w0 := u2) (by assumption) (times_any (a := n1) (b := d2) (HX1.out.below (by assumption)) (HY2.out.below (by assumption)) HL.out.1 HL.out.2.2.2)).mono ?_; rintro e u7 ⟨vp, rfl, hvp, hbp, hBp⟩; obtain ⟨ap, kp, rfl⟩ := slice_any hvp)
   | (go_at_call_of 100 (Value.slice a3 (ln n2) k3); refine (lift_num (w0 := u2) (by assumption) (times_any (a := n2) (b := d1) (HX2.out.below (by assumption)) (HY1.out.below (by assumption)) HL.out.2.2.1 HL.out.2.1)).mono ?_; rintro e u8 ⟨vq, rfl, hvq, hbq, hBq⟩; obtain ⟨aq, kq, rfl⟩ := slice_any hvq)
   | (go_at_call 102; refine (lift_0 (w0 := u2) (by assumption) (ncmp_any (a := n1 * d2) (b := n2 * d1) (hvp.below hbq) hvq HM.out.1 HM.out.2)).mono ?_; rintro e u9 ⟨rfl, hbu9, hBu9⟩))
 replace HB := Lib.hid (HB.out.trans (hBu9.mono HB.out.size))
 clear hbu9 hBu9 hvp hbp hBp hvq hbq hBq hD_u2 HS_u2
 go_wp2_with fail
 go_ret
 exact ⟨rfl, HB.out⟩
set_option maxHeartbeats 6400000 in
set_option maxRecDepth 100000 in
theorem fcmp_M {w : World} {m1 m2 : Bool} {x1 y1 x2 y2 : Value} {n1 d1 n2 d2 : Nat} (hx1 : Num w x1 n1) (hy1 : Num w y1 d1) (hx2 : Num w x2 n2) (hy2 : Num w y2 d2)
  (l1 : ln n1 ≤ 100000) (l2 : ln d1 ≤ 100000) (l3 : ln n2 ≤ 100000) (l4 : ln d2 ≤ 100000) (hs : sgnF m1 n1 = sgnF m2 n2) (hm : m1 = true) :
  Calls Tryz.prog 121 #[.agg #[.bool m1, x1, y1], .agg #[.bool m2, x2, y2]] w fun e w' => e = .returned (.int .i64 (cmpN (n2 * d1) (n1 * d2))) ∧ Below w.heap.size w w' := by
 subst hm
 obtain ⟨a1, k1, rfl⟩ := slice_any hx1
 obtain ⟨a2, k2, rfl⟩ := slice_any hy1
 obtain ⟨a3, k3, rfl⟩ := slice_any hx2
 obtain ⟨a4, k4, rfl⟩ := slice_any hy2
 obtain ⟨hb0, hq1, hq2⟩ := two_frac w true m2 (.slice a1 (ln n1) k1) (.slice a2 (ln d1) k2) (.slice a3 (ln n2) k3) (.slice a4 (ln d2) k4)
 have HX1 := Lib.hid (hx1.below hb0)
 have HY1 := Lib.hid (hy1.below hb0)
 have HX2 := Lib.hid (hx2.below hb0)
 have HY2 := Lib.hid (hy2.below hb0)
 have HB := Lib.hid hb0
 have HQ1 := Lib.hid hq1
 have HQ2 := Lib.hid hq2
 have HL := Lib.hid (show ln n1 ≤ 2000000 ∧ ln d1 ≤ 2000000 ∧ ln n2 ≤ 2000000 ∧ ln d2 ≤ 2000000 by omega)
 have HM := Lib.hid (show ln (n1 * d2) ≤ 1073741824 ∧ ln (n2 * d1) ≤ 1073741824 from ⟨Nat.le_trans (ln_mul l1 l4) (by omega), Nat.le_trans (ln_mul l3 l2) (by omega)⟩)
 obtain ⟨s1, hs1⟩ : ∃ s, s = sgnF true n1 := ⟨_, rfl⟩
 obtain ⟨s2, hs2⟩ : ∃ s, s = sgnF m2 n2 := ⟨_, rfl⟩
 rw [← hs1, ← hs2] at hs 
 have HSI := Lib.hid (And.intro hs1 hs2)
 have hss : (s1 == s2) = true := by rw [beq_iff_eq]; exact hs
 clear hx1 hy1 hx2 hy2 hb0 hq1 hq2 l1 l2 l3 l4 hs hs1 hs2
 go_enter Tryz.func121, Tryz.ntmps121
 go_wp2_with fail
 generalize (w.alloc (.cells #[.bool true, .slice a1 (ln n1) k1, .slice a2 (ln d1) k2] 110)).alloc (.cells #[.bool m2, .slice a3 (ln n2) k3, .slice a4 (ln d2) k4] 110) = w0 at HX1 HY1 HX2 HY2 HB HQ1 HQ2 ⊢
 have HS_w0 := Lib.hid (show ∀ W, Below w0.heap.size w0 W → W.cell? ⟨w.heap.size, 0, none⟩ = some (.bool true) ∧ W.cell? ⟨w.heap.size, 1, none⟩ = some (.slice a1 (ln n1) k1) ∧ W.cell? ⟨w.heap.size, 2, none⟩ = some (.slice a2 (ln d1) k2) ∧ W.cell? ⟨w.heap.size + 1, 0, none⟩ = some (.bool m2) ∧ W.cell? ⟨w.heap.size + 1, 1, none⟩ = some (.slice a3 (ln n2) k3) ∧ W.cell? ⟨w.heap.size + 1, 2, none⟩ = some (.slice a4 (ln d2) k4) from fun W h =>
   ⟨(HQ1.out.keep h).c0, (HQ1.out.keep h).c1, (HQ1.out.keep h).c2, (HQ2.out.keep h).c0, (HQ2.out.keep h).c1, (HQ2.out.keep h).c2⟩)
 have hD_w0 := (Below.refl w0.heap.size w0).drew
 go_region_held3 (fun W => W.cell? ⟨w.heap.size, 0, none⟩ = some (.bool true) ∧ W.cell? ⟨w.heap.size, 1, none⟩ = some (.slice a1 (ln n1) k1) ∧ W.cell? ⟨w.heap.size, 2, none⟩ = some (.slice a2 (ln d1) k2) ∧ W.cell? ⟨w.heap.size + 1, 0, none⟩ = some (.bool m2) ∧ W.cell? ⟨w.heap.size + 1, 1, none⟩ = some (.slice a3 (ln n2) k3) ∧ W.cell? ⟨w.heap.size + 1, 2, none⟩ = some (.slice a4 (ln d2) k4))
  (first | exact HS_w0.out _ hD_w0 | exact HS_w0.out _ (by assumption))
  (first
   | (go_at_call_of 151 (Value.agg #[.bool true, .slice a1 (ln n1) k1, .slice a2 (ln d1) k2]); refine (lift_0 (w0 := w0) (by assumption) (HSI.out.1 ▸ fsign_any (m := true) (n := n1) (HX1.out.below (by assumption)) (HY1.out.below (by assumption)))).mono ?_; rintro e u1 ⟨rfl, hbu1, hBu1⟩)
   | (go_at_call_of 151 (Value.agg #[.bool m2, .slice a3 (ln n2) k3, .slice a4 (ln d2) k4]); refine (lift_0 (w0 := w0) (by assumption) (HSI.out.2 ▸ fsign_any (m := m2) (n := n2) (HX2.out.below (by assumption)) (HY2.out.below (by assumption)))).mono ?_; rintro e u2 ⟨rfl, hbu2, hBu2⟩))
 replace HX1 := Lib.hid (HX1.out.below hBu2)
 replace HY1 := Lib.hid (HY1.out.below hBu2)
 replace HX2 := Lib.hid (HX2.out.below hBu2)
 replace HY2 := Lib.hid (HY2.out.below hBu2)
 replace HQ1 := Lib.hid (HQ1.out.keep hBu2)
 replace HQ2 := Lib.hid (HQ2.out.keep hBu2)
 replace HB := Lib.hid (HB.out.trans (hBu2.mono HB.out.size))
 clear hbu1 hBu1 hbu2 hBu2 hD_w0 HS_w0
 have c0 := HQ1.out.c0
 have c1 := HQ1.out.c1
 have c2 := HQ1.out.c2
 have e0 := HQ2.out.c0
 have e1 := HQ2.out.c1
 have e2 := HQ2.out.c2
 have z0 := HQ1.out.z0
 have z1 := HQ1.out.z1
 have z2 := HQ1.out.z2
 have f0 := HQ2.out.z0
 have f1 := HQ2.out.z1
 have f2 := HQ2.out.z2
 go_wp2_with fail
 have hq2' := HQ2.out.stOther (g := w.heap.size) (by omega) m2 (.slice a3 (ln n2) k3) (.slice a4 (ln d2) k4)
 have hq1' := (HQ1.out.st m2 (.slice a3 (ln n2) k3) (.slice a4 (ln d2) k4)).stOther (g := w.heap.size + 1) (by omega) true (.slice a1 (ln n1) k1) (.slice a2 (ln d1) k2)
 replace HX1 := Lib.hid ((HX1.out.st3 c0 m2 (.slice a3 (ln n2) k3) (.slice a4 (ln d2) k4)).st3 hq2'.c0 true (.slice a1 (ln n1) k1) (.slice a2 (ln d1) k2))
 replace HY1 := Lib.hid ((HY1.out.st3 c0 m2 (.slice a3 (ln n2) k3) (.slice a4 (ln d2) k4)).st3 hq2'.c0 true (.slice a1 (ln n1) k1) (.slice a2 (ln d1) k2))
 replace HX2 := Lib.hid ((HX2.out.st3 c0 m2 (.slice a3 (ln n2) k3) (.slice a4 (ln d2) k4)).st3 hq2'.c0 true (.slice a1 (ln n1) k1) (.slice a2 (ln d1) k2))
 replace HY2 := Lib.hid ((HY2.out.st3 c0 m2 (.slice a3 (ln n2) k3) (.slice a4 (ln d2) k4)).st3 hq2'.c0 true (.slice a1 (ln n1) k1) (.slice a2 (ln d1) k2))
 replace HQ2 := Lib.hid (hq2'.st true (.slice a1 (ln n1) k1) (.slice a2 (ln d1) k2))
 replace HQ1 := Lib.hid hq1'
 replace HB := Lib.hid (below_st3 (below_st3 HB.out (Nat.le_refl w.heap.size) m2 (.slice a3 (ln n2) k3) (.slice a4 (ln d2) k4)) (show w.heap.size ≤ w.heap.size + 1 by omega) true (.slice a1 (ln n1) k1) (.slice a2 (ln d1) k2))
 clear hq1' hq2' c0 c1 c2 e0 e1 e2 z0 z1 z2 f0 f1 f2
 change Code.wp _ _ _ _ (st3 (st3 u2 w.heap.size m2 (.slice a3 (ln n2) k3) (.slice a4 (ln d2) k4)) (w.heap.size + 1) true (.slice a1 (ln n1) k1) (.slice a2 (ln d1) k2))
 generalize st3 (st3 u2 w.heap.size m2 (.slice a3 (ln n2) k3) (.slice a4 (ln d2) k4)) (w.heap.size + 1) true (.slice a1 (ln n1) k1) (.slice a2 (ln d1) k2) = u6 at HX1 HY1 HX2 HY2 HQ1 HQ2 HB ⊢
 have HS_u6 := Lib.hid (show ∀ W, Below u6.heap.size u6 W → W.cell? ⟨w.heap.size, 0, none⟩ = some (.bool m2) ∧ W.cell? ⟨w.heap.size, 1, none⟩ = some (.slice a3 (ln n2) k3) ∧ W.cell? ⟨w.heap.size, 2, none⟩ = some (.slice a4 (ln d2) k4) ∧ W.cell? ⟨w.heap.size + 1, 0, none⟩ = some (.bool true) ∧ W.cell? ⟨w.heap.size + 1, 1, none⟩ = some (.slice a1 (ln n1) k1) ∧ W.cell? ⟨w.heap.size + 1, 2, none⟩ = some (.slice a2 (ln d1) k2) from fun W h =>
   ⟨(HQ1.out.keep h).c0, (HQ1.out.keep h).c1, (HQ1.out.keep h).c2, (HQ2.out.keep h).c0, (HQ2.out.keep h).c1, (HQ2.out.keep h).c2⟩)
 have hD_u6 := (Below.refl u6.heap.size u6).drew
 go_region_held3 (fun W => W.cell? ⟨w.heap.size, 0, none⟩ = some (.bool m2) ∧ W.cell? ⟨w.heap.size, 1, none⟩ = some (.slice a3 (ln n2) k3) ∧ W.cell? ⟨w.heap.size, 2, none⟩ = some (.slice a4 (ln d2) k4) ∧ W.cell? ⟨w.heap.size + 1, 0, none⟩ = some (.bool true) ∧ W.cell? ⟨w.heap.size + 1, 1, none⟩ = some (.slice a1 (ln n1) k1) ∧ W.cell? ⟨w.heap.size + 1, 2, none⟩ = some (.slice a2 (ln d1) k2))
  (first | exact HS_u6.out _ hD_u6 | exact HS_u6.out _ (by assumption))
  (first
   | (go_at_call_of 100 (Value.slice a3 (ln n2) k3); refine (lift_num (w0 := u6) (by assumption) (times_any (a := n2) (b := d1) (HX2.out.below (by assumption)) (HY1.out.below (by assumption)) HL.out.2.2.1 HL.out.2.1)).mono ?_; rintro e u7 ⟨vp, rfl, hvp, hbp, hBp⟩; obtain ⟨ap, kp, rfl⟩ := slice_any hvp)
   | (go_at_call_of 100 (Value.slice a1 (ln n1) k1); refine (lift_num (w0 := u6) (by assumption) (times_any (a := n1) (b := d2) (HX1.out.below (by assumption)) (HY2.out.below (by assumption)) HL.out.1 HL.out.2.2.2)).mono ?_; rintro e u8 ⟨vq, rfl, hvq, hbq, hBq⟩; obtain ⟨aq, kq, rfl⟩ := slice_any hvq)
   | (go_at_call 102; refine (lift_0 (w0 := u6) (by assumption) (ncmp_any (a := n2 * d1) (b := n1 * d2) (hvp.below hbq) hvq HM.out.2 HM.out.1)).mono ?_; rintro e u9 ⟨rfl, hbu9, hBu9⟩))
 replace HB := Lib.hid (HB.out.trans (hBu9.mono HB.out.size))
 clear hbu9 hBu9 hvp hbp hBp hvq hbq hBq hD_u6 HS_u6
 go_wp2_with fail
 go_ret
 exact ⟨rfl, HB.out⟩
open Go.RowKit NV
open Go.Lib (decDigits)
def cmpQ (p q : Rat) : Int := if p < q then -1 else if q < p then 1 else 0
def sgnQ (p : Rat) : Int := cmpQ p 0
theorem lt_nat (p q : Rat) : p < q ↔ (if ng p then -((tp p * q.den : Nat) : Int) else ((tp p * q.den : Nat) : Int)) < (if ng q then -((tp q * p.den : Nat) : Int) else ((tp q * p.den : Nat) : Int)) := by
 rw [Rat.lt_iff, num_of p, num_of q]
 cases ng p <;> cases ng q <;> simp [Int.neg_mul]
theorem cmp_core (m1 m2 : Bool) (a b x y : Nat) (z1 : x = 0 ↔ a = 0) (z2 : y = 0 ↔ b = 0) (g1 : m1 = true → a ≠ 0) (g2 : m2 = true → b ≠ 0) :
  (if sgnF m1 a = sgnF m2 b then (if m1 then cmpN y x else cmpN x y) else Lib.compareInt (sgnF m1 a) (sgnF m2 b)) =
  if (if m1 then -(x : Int) else (x : Int)) < (if m2 then -(y : Int) else (y : Int)) then -1 else if (if m2 then -(y : Int) else (y : Int)) < (if m1 then -(x : Int) else (x : Int)) then 1 else 0 := by
 unfold sgnF Lib.compareInt cmpN
 by_cases ha : a = 0
 ·have hx := z1.2 ha
  have hm : m1 = false := by
   cases m1
   ·rfl
   ·exact absurd ha (g1 rfl)
  subst ha hx hm
  by_cases hb : b = 0
  ·have hy := z2.2 hb
   have hm : m2 = false := by
    cases m2
    ·rfl
    ·exact absurd hb (g2 rfl)
   subst hb hy hm
   simp
  ·have hy : y ≠ 0 := fun e => hb (z2.1 e)
   cases m2 <;> simp [hb] <;> (repeat' split) <;> omega
 ·have hx : x ≠ 0 := fun e => ha (z1.1 e)
  by_cases hb : b = 0
  ·have hy := z2.2 hb
   have hm : m2 = false := by
    cases m2
    ·rfl
    ·exact absurd hb (g2 rfl)
   subst hb hy hm
   cases m1 <;> simp [ha] <;> (repeat' split) <;> omega
  ·have hy : y ≠ 0 := fun e => hb (z2.1 e)
   cases m1 <;> cases m2 <;> simp [ha, hb] <;> (repeat' split) <;> omega
theorem cmpF_q (p q : Rat) : cmpF (ng p) (tp p) p.den (ng q) (tp q) q.den = cmpQ p q := by
 have h1 := lt_nat p q
 have h2 := lt_nat q p
 have z1 : tp p * q.den = 0 ↔ tp p = 0 := by
  have := q.den_pos
  rw [Nat.mul_eq_zero]; omega
 have z2 : tp q * p.den = 0 ↔ tp q = 0 := by
  have := p.den_pos
  rw [Nat.mul_eq_zero]; omega
 have g1 : ng p = true → tp p ≠ 0 := ng_zero
 have g2 : ng q = true → tp q ≠ 0 := ng_zero
 unfold cmpF cmpQ
 simp only [h1, h2]
 exact cmp_core (ng p) (ng q) (tp p) (tp q) _ _ z1 z2 g1 g2
theorem sgnF_q (p : Rat) : sgnF (ng p) (tp p) = sgnQ p := by
 have h1 := lt_nat p 0
 have h2 := lt_nat 0 p
 rw [show ng (0 : Rat) = false from rfl, show tp (0 : Rat) = 0 from rfl, show (0 : Rat).den = 1 from rfl, Nat.mul_one, Nat.zero_mul] at h1 h2
 have g1 : ng p = true → tp p ≠ 0 := ng_zero
 unfold sgnQ cmpQ sgnF
 simp only [h1, h2]
 generalize tp p = a at *
 by_cases ha : a = 0
 ·have hm : ng p = false := by
   cases h : ng p
   ·rfl
   ·exact absurd ha (g1 h)
  rw [hm]; subst ha; simp
 ·cases ng p <;> simp [ha] <;> (repeat' split) <;> omega
theorem cmpQ_self (p : Rat) : cmpQ p p = 0 := by unfold cmpQ; rw [if_neg Rat.lt_irrefl, if_neg Rat.lt_irrefl]
theorem lt_asymm' {p q : Rat} (h : p < q) : ¬ q < p := fun h2 => absurd (Rat.le_of_lt h) (Rat.not_le.2 h2)
theorem cmpQ_lt {p q : Rat} (h : p < q) : cmpQ p q = -1 := if_pos h
theorem cmpQ_gt {p q : Rat} (h : q < p) : cmpQ p q = 1 := by unfold cmpQ; rw [if_neg (lt_asymm' h), if_pos h]
theorem lt_tri (p q : Rat) : p < q ∨ p = q ∨ q < p := by
 by_cases h : p < q
 ·exact .inl h
 ·by_cases h2 : q < p
  ·exact .inr (.inr h2)
  ·exact .inr (.inl (Rat.le_antisymm (Rat.not_lt.1 h2) (Rat.not_lt.1 h)))
theorem cmpQ_neg (p q : Rat) : cmpQ q p = -cmpQ p q := by
 rcases lt_tri p q with h | h | h
 ·rw [cmpQ_lt h, cmpQ_gt h]; rfl
 ·subst h; rw [cmpQ_self]; rfl
 ·rw [cmpQ_lt h, cmpQ_gt h]
theorem cmpQ_le {p q : Rat} : cmpQ p q ≤ 0 ↔ p ≤ q := by
 rcases lt_tri p q with h | h | h
 ·rw [cmpQ_lt h]; exact ⟨fun _ => Rat.le_of_lt h, fun _ => by omega⟩
 ·subst h; rw [cmpQ_self]; exact ⟨fun _ => Rat.le_refl, fun _ => by omega⟩
 ·rw [cmpQ_gt h]; exact ⟨fun e => by omega, fun e => absurd h (Rat.not_lt.2 e)⟩
theorem cmpQ_sub (p q : Rat) : sgnQ (p + -q) = cmpQ p q := by
 unfold sgnQ cmpQ
 have e1 : p + -q < 0 ↔ p < q := by
  constructor
  ·intro h; have := (Rat.add_lt_add_right (c := q)).2 h; rwa [Rat.add_assoc, Rat.neg_add_cancel, Rat.add_zero, Rat.zero_add] at this
  ·intro h; have := (Rat.add_lt_add_right (c := -q)).2 h; rwa [Rat.add_neg_cancel] at this
 have e2 : 0 < p + -q ↔ q < p := by
  constructor
  ·intro h; have := (Rat.add_lt_add_right (c := q)).2 h; rwa [Rat.add_assoc, Rat.neg_add_cancel, Rat.add_zero, Rat.zero_add] at this
  ·intro h; have := (Rat.add_lt_add_right (c := -q)).2 h; rwa [Rat.add_neg_cancel] at this
 simp only [e1, e2]
theorem cmp_q {w : World} {v u : Value} {p q : Rat} (hp : FQ w v p) (hq : FQ w u q) (lp : QL 100000 p) (lq : QL 100000 q) :
  Calls Tryz.prog 121 #[v, u] w fun e w' => e = .returned (.int .i64 (cmpQ p q)) ∧ Below w.heap.size w w' := by
 obtain ⟨x1, y1, rfl, hx1, hy1⟩ := hp
 obtain ⟨x2, y2, rfl, hx2, hy2⟩ := hq
 rw [← cmpF_q, cmpF]
 by_cases hs : sgnF (ng p) (tp p) = sgnF (ng q) (tp q)
 ·rw [if_pos hs]
  cases hm : ng p with
  | true =>
   rw [hm] at hs
   exact fcmp_M hx1 hy1 hx2 hy2 lp.1 lp.2 lq.1 lq.2 hs rfl
  | false =>
   rw [hm] at hs
   exact fcmp_P hx1 hy1 hx2 hy2 lp.1 lp.2 lq.1 lq.2 hs rfl
 ·rw [if_neg hs]
  exact fcmp_D hx1 hy1 hx2 hy2 lp.1 lp.2 lq.1 lq.2 hs
set_option maxHeartbeats 3200000 in
set_option maxRecDepth 100000 in
theorem cmp_clo {w : World} {v u : Value} {p q : Rat} (hp : FQ w v p) (hq : FQ w u q) (lp : QL 445 p) (lq : QL 445 q) :
  Calls Tryz.prog 120 #[v, u] w fun e w' => e = .returned (.tuple #[.int .i64 (cmpQ p q), .int .i64 0]) ∧ Below w.heap.size w w' := by
 obtain ⟨a1, k1, a2, k2, rfl⟩ := hp.form
 obtain ⟨a3, k3, a4, k4, rfl⟩ := hq.form
 obtain ⟨hb0, hq1, hq2⟩ := two_frac w (ng p) (ng q) (.slice a1 (ln (tp p)) k1) (.slice a2 (ln p.den) k2) (.slice a3 (ln (tp q)) k3) (.slice a4 (ln q.den) k4)
 have HC := Lib.hid (cmp_q (hp.below hb0) (hq.below hb0) (lp.mono (by omega)) (lq.mono (by omega)))
 have HB := Lib.hid hb0
 clear hp hq hb0 hq1 hq2 lp lq
 go_enter Tryz.func120, Tryz.ntmps120
 go_wp2_with fail
 refine HC.out.mono ?_
 rintro e w1 ⟨rfl, hb1⟩
 replace HB := Lib.hid (HB.out.trans (hb1.mono HB.out.size))
 clear hb1 HC
 go_wp2_with fail
 go_ret2
 exact ⟨rfl, HB.out⟩
set_option maxHeartbeats 1600000 in
theorem Cmp_q (p q : Rat) (hp : QOk p) (hq : QOk q) (w : World) (hm : ML w) :
  Calls Tryz.prog 93 #[.string (qstr p), .string (qstr q)] w fun e w' => e = .returned (.tuple #[.int .i64 (cmpQ p q), .int .i64 0]) ∧ Below w.heap.size w w' := by
 have e1 : ∀ args w, (callFunc 120 args).run Tryz.prog w = .ok (.enter 120 args) w := enters_of Tryz.func120 (by kernel_rfl) rfl
 have HC := Lib.hid (withTwo_okI 120 e1 (qstr p) (qstr q) w (qsmall hp) (qsmall hq) hm (ml_pos hm) (qstr_chk hp) (qstr_chk hq) (.int .i64 (cmpQ p q)) (.int .i64 0)
  (fun W v u hb hv hu => cmp_clo (fq_of hv) (fq_of hu) hp.ql hq.ql))
 clear hm hp hq
 go_enter Tryz.func93, Tryz.ntmps93
 go_wp2_with fail
 refine HC.out.mono ?_
 rintro e w1 ⟨rfl, hb⟩
 have HB := Lib.hid hb
 clear hb HC
 go_wp2_with fail
 go_ret2
 exact ⟨rfl, HB.out⟩
set_option maxHeartbeats 800000 in
theorem Min_clo (x : Int) (w : World) : Calls Tryz.prog 142 #[.int .i64 x] w fun e w' => e = .returned (.bool (decide (x < 0))) ∧ w = w' := by
 by_cases h : x < 0
 ·rw [decide_eq_true h]
  go_enter Tryz.func142, Tryz.ntmps142
  go_wp2_with fail
  go_ret
  exact ⟨ret_bool (by simp <;> omega), rfl⟩
 ·rw [decide_eq_false h]
  go_enter Tryz.func142, Tryz.ntmps142
  go_wp2_with fail
  go_ret
  exact ⟨ret_bool (by simp <;> omega), rfl⟩
set_option maxHeartbeats 3200000 in
theorem sel_Min (p q : Rat) (hp : QOk p) (hq : QOk q) (w : World) (hm : ML w) :
  Calls Tryz.prog 81 #[.string (qstr p), .string (qstr q), .func (.func 142) #[] #[]] w fun e w' => e = .returned (.tuple #[.string (if cmpQ p q < 0 then qstr p else qstr q), .int .i64 0]) ∧ Below w.heap.size w w' := by
 have HC := Lib.hid (Cmp_q p q hp hq w hm)
 have eg : ∀ args w, (callFunc 142 args).run Tryz.prog w = .ok (.enter 142 args) w := enters_of Tryz.func142 (by kernel_rfl) rfl
 generalize cmpQ p q = x at *
 have HS := Lib.hid (fun W => Min_clo x W)
 generalize qstr p = s at *
 generalize qstr q = t at *
 clear hp hq hm
 by_cases h : x < 0
 ·rw [if_pos h]
  rw [decide_eq_true h] at HS
  clear h
  go_enter Tryz.func81, Tryz.ntmps81
  go_wp2_with fail
  refine HC.out.mono ?_
  rintro e w1 ⟨rfl, hb⟩
  have HB := Lib.hid hb
  clear hb HC
  go_wp2_with (go_at_fn 142; refine (HS.out _).mono ?_; rintro e w2 ⟨rfl, rfl⟩)
  go_ret2
  exact ⟨rfl, HB.out⟩
 ·rw [if_neg h]
  rw [decide_eq_false h] at HS
  clear h
  go_enter Tryz.func81, Tryz.ntmps81
  go_wp2_with fail
  refine HC.out.mono ?_
  rintro e w1 ⟨rfl, hb⟩
  have HB := Lib.hid hb
  clear hb HC
  go_wp2_with (go_at_fn 142; refine (HS.out _).mono ?_; rintro e w2 ⟨rfl, rfl⟩)
  go_ret2
  exact ⟨rfl, HB.out⟩
set_option maxHeartbeats 1600000 in
theorem Min_q (p q : Rat) (hp : QOk p) (hq : QOk q) (w : World) (hm : ML w) :
  Calls Tryz.prog 111 #[.string (qstr p), .string (qstr q)] w fun e w' => e = .returned (.tuple #[.string (if cmpQ p q < 0 then qstr p else qstr q), .int .i64 0]) ∧ Below w.heap.size w w' := by
 have HC := Lib.hid (sel_Min p q hp hq w hm)
 generalize (if cmpQ p q < 0 then qstr p else qstr q) = r at *
 clear hp hq hm
 go_enter Tryz.func111, Tryz.ntmps111
 go_wp2_with fail
 refine HC.out.mono ?_
 rintro e w1 ⟨rfl, hb⟩
 have HB := Lib.hid hb
 clear hb HC
 go_wp2_with fail
 go_ret2
 exact ⟨rfl, HB.out⟩
set_option maxHeartbeats 800000 in
theorem Max_clo (x : Int) (w : World) : Calls Tryz.prog 82 #[.int .i64 x] w fun e w' => e = .returned (.bool (decide (0 < x))) ∧ w = w' := by
 by_cases h : 0 < x
 ·rw [decide_eq_true h]
  go_enter Tryz.func82, Tryz.ntmps82
  go_wp2_with fail
  go_ret
  exact ⟨ret_bool (by simp <;> omega), rfl⟩
 ·rw [decide_eq_false h]
  go_enter Tryz.func82, Tryz.ntmps82
  go_wp2_with fail
  go_ret
  exact ⟨ret_bool (by simp <;> omega), rfl⟩
set_option maxHeartbeats 3200000 in
theorem sel_Max (p q : Rat) (hp : QOk p) (hq : QOk q) (w : World) (hm : ML w) :
  Calls Tryz.prog 81 #[.string (qstr p), .string (qstr q), .func (.func 82) #[] #[]] w fun e w' => e = .returned (.tuple #[.string (if 0 < cmpQ p q then qstr p else qstr q), .int .i64 0]) ∧ Below w.heap.size w w' := by
 have HC := Lib.hid (Cmp_q p q hp hq w hm)
 have eg : ∀ args w, (callFunc 82 args).run Tryz.prog w = .ok (.enter 82 args) w := enters_of Tryz.func82 (by kernel_rfl) rfl
 generalize cmpQ p q = x at *
 have HS := Lib.hid (fun W => Max_clo x W)
 generalize qstr p = s at *
 generalize qstr q = t at *
 clear hp hq hm
 by_cases h : 0 < x
 ·rw [if_pos h]
  rw [decide_eq_true h] at HS
  clear h
  go_enter Tryz.func81, Tryz.ntmps81
  go_wp2_with fail
  refine HC.out.mono ?_
  rintro e w1 ⟨rfl, hb⟩
  have HB := Lib.hid hb
  clear hb HC
  go_wp2_with (go_at_fn 82; refine (HS.out _).mono ?_; rintro e w2 ⟨rfl, rfl⟩)
  go_ret2
  exact ⟨rfl, HB.out⟩
 ·rw [if_neg h]
  rw [decide_eq_false h] at HS
  clear h
  go_enter Tryz.func81, Tryz.ntmps81
  go_wp2_with fail
  refine HC.out.mono ?_
  rintro e w1 ⟨rfl, hb⟩
  have HB := Lib.hid hb
  clear hb HC
  go_wp2_with (go_at_fn 82; refine (HS.out _).mono ?_; rintro e w2 ⟨rfl, rfl⟩)
  go_ret2
  exact ⟨rfl, HB.out⟩
set_option maxHeartbeats 1600000 in
theorem Max_q (p q : Rat) (hp : QOk p) (hq : QOk q) (w : World) (hm : ML w) :
  Calls Tryz.prog 40 #[.string (qstr p), .string (qstr q)] w fun e w' => e = .returned (.tuple #[.string (if 0 < cmpQ p q then qstr p else qstr q), .int .i64 0]) ∧ Below w.heap.size w w' := by
 have HC := Lib.hid (sel_Max p q hp hq w hm)
 generalize (if 0 < cmpQ p q then qstr p else qstr q) = r at *
 clear hp hq hm
 go_enter Tryz.func40, Tryz.ntmps40
 go_wp2_with fail
 refine HC.out.mono ?_
 rintro e w1 ⟨rfl, hb⟩
 have HB := Lib.hid hb
 clear hb HC
 go_wp2_with fail
 go_ret2
 exact ⟨rfl, HB.out⟩
open Go.RowKit NV
open Go.Lib (decDigits)
set_option maxHeartbeats 1600000 in
theorem qcheck_any (s : ByteArray) (w : World) (hs : s.size ≤ 1000000) (hm : ML w) :
  Calls Tryz.prog 63 #[.string s] w fun e w' => e = .returned (.int .i64 ((rchk s : Nat) : Int)) ∧ Below w.heap.size w w' := by
 have HR := Lib.hid (read_any s w hs hm)
 clear hm
 go_enter Tryz.func63, Tryz.ntmps63
 go_wp2_with fail
 refine HR.out.mono ?_
 rintro e w1 ⟨⟨m, a1, L1, k1, a2, L2, k2, rfl, -⟩, hb⟩
 have HB := Lib.hid (hb.alloc hb.size (.cells #[.bool m, .slice a1 L1 k1, .slice a2 L2 k2] 110))
 have HB2 := Lib.hid hb
 clear hb HR
 go_wp2_with fail
 go_ret
 exact ⟨rfl, by first | exact HB.out | exact HB2.out⟩
end Go.Proofs.YtjpepjooefkbkaaGreatDoor
