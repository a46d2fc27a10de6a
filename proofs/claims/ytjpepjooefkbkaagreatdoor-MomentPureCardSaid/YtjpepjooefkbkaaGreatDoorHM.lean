/-
  Package moment: bounds and steps. Package moment: changed. Package moment: steps, of, unless, the closures. Package moment: None, Add. Package moment: Check of a right curve, checkBoth, checkTo. Package moment: checkBoth, checkTo, lossBy, To. Package moment: To, Of. Package moment in rational numbers: Check, To, Of.
-/
import Derived.Test.YtjpepjooefkbkaaGreatDoorB1
import Derived.Test.YtjpepjooefkbkaaGreatDoorZB
import Derived.LoopIn
import Derived.KernelRfl
import Derived.Test.YtjpepjooefkbkaaGreatDoorLB
import Derived.Maps.OwnIn
import Derived.Deep.AppendLies
import Derived.Test.YtjpepjooefkbkaaGreatDoorLO
import Derived.Test.YtjpepjooefkbkaaGreatDoorZC
namespace Go.Proofs.YtjpepjooefkbkaaGreatDoor
section
open Go.RowKit NV Go.Shelf
open Go.Lib (decDigits)
attribute [local go_sem] Oper.semAt_some
def ARR (W : World) (b n : Nat) (ty : TypeId) (c : Nat → ByteArray) : Prop :=
 ∃ cur, W.heap[b]? = some (.cells cur ty (0, 0)) ∧ cur.size = n ∧ ∀ j, j < n → cur[j]? = some (.string (c j))
theorem ARR.cell {w : World} {b n ty : Nat} {c : Nat → ByteArray} (h : ARR w b n ty c) {j : Nat} (hj : j < n) : w.cell? ⟨b, j, none⟩ = some (.string (c j)) := by
 obtain ⟨cur, h1, h2, h3⟩ := h
 rw [cell_of_row w b j cur _ _ h1]
 exact h3 j hj
theorem ARR.free {w : World} {b n ty : Nat} {c : Nat → ByteArray} (h : ARR w b n ty c) (j : Nat) : w.frozen? ⟨b, j, none⟩ = false := by
 obtain ⟨cur, h1, h2, h3⟩ := h
 exact frozen_of_row w b j cur _ h1
theorem ARR.lt {w : World} {b n ty : Nat} {c : Nat → ByteArray} (h : ARR w b n ty c) : b < w.heap.size := by
 obtain ⟨cur, h1, _⟩ := h
 exact (Array.getElem?_eq_some_iff.1 h1).1
theorem ARR.ch {S : Nat → Prop} {w w' : World} {b n ty : Nat} {c : Nat → ByteArray} (h : ARR w b n ty c) (hb : Ch S w w') (hs : ¬ S b) : ARR w' b n ty c := by
 have hl := h.lt
 obtain ⟨cur, h1, h2, h3⟩ := h
 exact ⟨cur, (hb.block b hl hs).trans h1, h2, h3⟩
theorem ARR.below {w w' : World} {b n ty : Nat} {c : Nat → ByteArray} (h : ARR w b n ty c) (hb : Below w.heap.size w w') : ARR w' b n ty c := h.ch (Ch.below (S := fun _ => False) hb) (fun h => h)
theorem ARR.store {w : World} {b n ty : Nat} {c : Nat → ByteArray} (h : ARR w b n ty c) (i : Nat) (x : ByteArray) : ARR (w.setCell ⟨b, i, none⟩ (.string x)) b n ty (fun j => if j = i then x else c j) := by
 obtain ⟨cur, h1, h2, h3⟩ := h
 refine ⟨cur.setIfInBounds i (.string x), heap_setCell_same w b i cur _ _ h1, by simpa using h2, fun j hj => ?_⟩
 rw [Array.getElem?_setIfInBounds]
 by_cases e : i = j
 ·subst e
  rw [if_pos rfl, if_pos (by omega)]
  show _ = some (Value.string (if i = i then x else c i))
  rw [if_pos rfl]
 ·rw [if_neg e]
  show _ = some (Value.string (if j = i then x else c j))
  rw [if_neg (fun h => e h.symm)]
  exact h3 j hj
theorem ARR.congr {w : World} {b n ty : Nat} {c d : Nat → ByteArray} (h : ARR w b n ty c) (e : ∀ j, j < n → c j = d j) : ARR w b n ty d := by
 obtain ⟨cur, h1, h2, h3⟩ := h
 exact ⟨cur, h1, h2, fun j hj => by rw [h3 j hj, e j hj]⟩
theorem ARR.new7 {w : World} {ty : TypeId} {c : Nat → ByteArray} : ARR (w.alloc (.cells #[.string (c 0), .string (c 1), .string (c 2), .string (c 3), .string (c 4), .string (c 5), .string (c 6)] ty)) w.heap.size 7 ty c :=
 ⟨_, heap_alloc_new w _, rfl, fun j hj => by
  rcases (show j = 0 ∨ j = 1 ∨ j = 2 ∨ j = 3 ∨ j = 4 ∨ j = 5 ∨ j = 6 by omega) with rfl | rfl | rfl | rfl | rfl | rfl | rfl <;> rfl⟩
theorem ARR.row7 {w : World} {b : Nat} {ty : TypeId} {c : Nat → ByteArray} (h : ARR w b 7 ty c) : w.heap[b]? = some (.cells #[.string (c 0), .string (c 1), .string (c 2), .string (c 3), .string (c 4), .string (c 5), .string (c 6)] ty (0, 0)) := by
 obtain ⟨cur, h1, h2, h3⟩ := h
 have e : cur = #[.string (c 0), .string (c 1), .string (c 2), .string (c 3), .string (c 4), .string (c 5), .string (c 6)] := by
  refine Array.ext_getElem? fun i => ?_
  by_cases hi : i < 7
  ·rw [h3 i hi]
   rcases (show i = 0 ∨ i = 1 ∨ i = 2 ∨ i = 3 ∨ i = 4 ∨ i = 5 ∨ i = 6 by omega) with rfl | rfl | rfl | rfl | rfl | rfl | rfl <;> rfl
  ·rw [Array.getElem?_eq_none (by omega), Array.getElem?_eq_none (by show 7 ≤ i; omega)]
 rw [h1, e]
theorem info_118 : (Tryz.prog.info? 73).map (·.size) = some 7 := by kernel_rfl
theorem ARR.load7 {w : World} {b : Nat} {c : Nat → ByteArray} (h : ARR w b 7 73 c) : (loadVar 73 ⟨b, 0, none⟩).run Tryz.prog w = .ok (.agg #[.string (c 0), .string (c 1), .string (c 2), .string (c 3), .string (c 4), .string (c 5), .string (c 6)]) w :=
 run_loadVar_row _ _ 73 73 _ (0, 0) _ h.row7 Tryz.underlying73 rfl info_118
def st7 (W : World) (b : Nat) (d : Nat → ByteArray) : World := (((((((W.setCell ⟨b, 0, none⟩ (.string (d 0))).setCell ⟨b, 1, none⟩ (.string (d 1))).setCell ⟨b, 2, none⟩ (.string (d 2))).setCell ⟨b, 3, none⟩ (.string (d 3))).setCell ⟨b, 4, none⟩ (.string (d 4))).setCell ⟨b, 5, none⟩ (.string (d 5))).setCell ⟨b, 6, none⟩ (.string (d 6)))
theorem ARR.put7 {W : World} {b : Nat} {ty : TypeId} {c : Nat → ByteArray} (h : ARR W b 7 ty c) (d : Nat → ByteArray) : ARR (st7 W b d) b 7 ty d := by
 have h2 := ((((((h.store 0 (d 0)).store 1 (d 1)).store 2 (d 2)).store 3 (d 3)).store 4 (d 4)).store 5 (d 5)).store 6 (d 6)
 refine h2.congr fun j hj => ?_
 rcases (show j = 0 ∨ j = 1 ∨ j = 2 ∨ j = 3 ∨ j = 4 ∨ j = 5 ∨ j = 6 by omega) with rfl | rfl | rfl | rfl | rfl | rfl | rfl <;> rfl
theorem Ch.st7 {S : Nat → Prop} (W : World) {b : Nat} (d : Nat → ByteArray) (hb : S b) : Ch S W (st7 W b d) :=
 ((((((Ch.setCell S W _ hb).trans (Ch.setCell S _ _ hb)).trans (Ch.setCell S _ _ hb)).trans (Ch.setCell S _ _ hb)).trans (Ch.setCell S _ _ hb)).trans (Ch.setCell S _ _ hb)).trans (Ch.setCell S _ _ hb)
set_option maxHeartbeats 1600000 in
theorem orders_any (c : Nat → ByteArray) (w : World) : Calls Tryz.prog 69 #[.agg #[.string (c 0), .string (c 1), .string (c 2), .string (c 3), .string (c 4), .string (c 5), .string (c 6)]] w fun e w' => e = .returned (.func (.func 105) #[] #[.pointer (some ⟨w.heap.size, 0, none⟩)]) ∧ ARR w' w.heap.size 7 73 c ∧ Below w.heap.size w w' := by
 have hmf : ∀ (fn : Fn) (first cap : Array Value) (w : World), (Instr.makeFunc fn first cap).run Tryz.prog w = .ok (.func fn first cap) w := fun _ _ _ _ => rfl
 have HA := Lib.hid (ARR.new7 (w := w) (ty := 73) (c := c))
 have HB := Lib.hid ((Below.refl w.heap.size w).alloc (Nat.le_refl _) (.cells #[.string (c 0), .string (c 1), .string (c 2), .string (c 3), .string (c 4), .string (c 5), .string (c 6)] 73))
 go_enter Tryz.func69, Tryz.ntmps69
 go_wp2_with fail
 go_ret
 exact ⟨rfl, HA.out, HB.out⟩
theorem idx_0 (c : Nat → ByteArray) (W : World) : (Instr.index 73 (.agg #[.string (c 0), .string (c 1), .string (c 2), .string (c 3), .string (c 4), .string (c 5), .string (c 6)]) (.int .i64 0)).run Tryz.prog W = .ok (.string (c 0)) W := by kernel_rfl
theorem idx_1 (c : Nat → ByteArray) (W : World) : (Instr.index 73 (.agg #[.string (c 0), .string (c 1), .string (c 2), .string (c 3), .string (c 4), .string (c 5), .string (c 6)]) (.int .i64 1)).run Tryz.prog W = .ok (.string (c 1)) W := by kernel_rfl
theorem idx_2 (c : Nat → ByteArray) (W : World) : (Instr.index 73 (.agg #[.string (c 0), .string (c 1), .string (c 2), .string (c 3), .string (c 4), .string (c 5), .string (c 6)]) (.int .i64 2)).run Tryz.prog W = .ok (.string (c 2)) W := by kernel_rfl
theorem idx_3 (c : Nat → ByteArray) (W : World) : (Instr.index 73 (.agg #[.string (c 0), .string (c 1), .string (c 2), .string (c 3), .string (c 4), .string (c 5), .string (c 6)]) (.int .i64 3)).run Tryz.prog W = .ok (.string (c 3)) W := by kernel_rfl
theorem idx_4 (c : Nat → ByteArray) (W : World) : (Instr.index 73 (.agg #[.string (c 0), .string (c 1), .string (c 2), .string (c 3), .string (c 4), .string (c 5), .string (c 6)]) (.int .i64 4)).run Tryz.prog W = .ok (.string (c 4)) W := by kernel_rfl
theorem idx_5 (c : Nat → ByteArray) (W : World) : (Instr.index 73 (.agg #[.string (c 0), .string (c 1), .string (c 2), .string (c 3), .string (c 4), .string (c 5), .string (c 6)]) (.int .i64 5)).run Tryz.prog W = .ok (.string (c 5)) W := by kernel_rfl
theorem idx_6 (c : Nat → ByteArray) (W : World) : (Instr.index 73 (.agg #[.string (c 0), .string (c 1), .string (c 2), .string (c 3), .string (c 4), .string (c 5), .string (c 6)]) (.int .i64 6)).run Tryz.prog W = .ok (.string (c 6)) W := by kernel_rfl
set_option maxHeartbeats 6400000 in
set_option maxRecDepth 100000 in
theorem orders_calls {m bB l : Nat} {c : Nat → ByteArray} (hm : 1 ≤ m) (J : Nat → World → Prop)
  (hY : ∀ k W, J k W → k < 7 → YieldAt Fence.wide (m - 1) Tryz.prog l #[.int .i64 (2 + (k : Int)), .string (c k)] W fun e W' => e = .returned (.bool true) ∧ J (k + 1) W')
  (W : World) (s0 : ARR W bB 7 73 c) (h0 : J 0 W) :
  CallsIn Fence.wide m Tryz.prog 105 (#[.func (.yield l) #[] #[]] ++ #[.pointer (some ⟨bB, 0, none⟩)]) W fun e W' => (∃ v, e = .returned v) ∧ J 7 W' := by
 refine callsIn_of_wp Tryz.func105 rfl trivial ?_ rfl
 simp only [Tryz.ntmps105, List.size_toArray, List.length_cons, List.length_nil, Nat.reduceAdd, Nat.reduceSub, Array.replicate_succ, Array.replicate_zero, List.push_toArray, List.append_toArray, List.nil_append, List.cons_append]
 have HY := Lib.hid hY
 have HH := Lib.hid h0
 have d0 := s0.cell (j := 0) (by omega)
 have d1 := s0.cell (j := 1) (by omega)
 have d2 := s0.cell (j := 2) (by omega)
 have d3 := s0.cell (j := 3) (by omega)
 have d4 := s0.cell (j := 4) (by omega)
 have d5 := s0.cell (j := 5) (by omega)
 have d6 := s0.cell (j := 6) (by omega)
 clear hY s0 h0
 have x0 := idx_0 c
 have x1 := idx_1 c
 have x2 := idx_2 c
 have x3 := idx_3 c
 have x4 := idx_4 c
 have x5 := idx_5 c
 have x6 := idx_6 c
 gi_wp2
 gi_loopw [6] (fun s6 wr => ∃ k : Nat, k ≤ 7 ∧ s6 = .int .i64 (k : Int) ∧ J k wr) (fun s6 _ => 7 - (intOf s6).toNat)
 case atStart => exact ⟨0, Nat.zero_le _, rfl, HH.out⟩
 case round =>
  obtain ⟨k, hk, rfl, hj⟩ := hrel
  clear d0 d1 d2 d3 d4 d5 d6 HH
  by_cases hlt : k < 7
  ·obtain ⟨fn, tmps, assign, body, hy, hR⟩ := HY.out k wr hj hlt
   have HR := Lib.hid hR
   clear hR hj
   rcases (show k = 0 ∨ k = 1 ∨ k = 2 ∨ k = 3 ∨ k = 4 ∨ k = 5 ∨ k = 6 by omega) with rfl | rfl | rfl | rfl | rfl | rfl | rfl
   ·rw [show (2 : Int) + ((0 : Nat) : Int) = 2 from rfl] at hy
    gi_wp2
    refine HR.out.mono ?_
    rintro e W3 ⟨rfl, hj3⟩
    have HJ3 := Lib.hid hj3
    clear hj3 hy HR
    gi_wp2
    go_roundw
    case rel => exact ⟨1, by omega, rfl, HJ3.out⟩
    case measure => simp [intOf]
   ·rw [show (2 : Int) + ((1 : Nat) : Int) = 3 from rfl] at hy
    gi_wp2
    refine HR.out.mono ?_
    rintro e W3 ⟨rfl, hj3⟩
    have HJ3 := Lib.hid hj3
    clear hj3 hy HR
    gi_wp2
    go_roundw
    case rel => exact ⟨2, by omega, rfl, HJ3.out⟩
    case measure => simp [intOf]
   ·rw [show (2 : Int) + ((2 : Nat) : Int) = 4 from rfl] at hy
    gi_wp2
    refine HR.out.mono ?_
    rintro e W3 ⟨rfl, hj3⟩
    have HJ3 := Lib.hid hj3
    clear hj3 hy HR
    gi_wp2
    go_roundw
    case rel => exact ⟨3, by omega, rfl, HJ3.out⟩
    case measure => simp [intOf]
   ·rw [show (2 : Int) + ((3 : Nat) : Int) = 5 from rfl] at hy
    gi_wp2
    refine HR.out.mono ?_
    rintro e W3 ⟨rfl, hj3⟩
    have HJ3 := Lib.hid hj3
    clear hj3 hy HR
    gi_wp2
    go_roundw
    case rel => exact ⟨4, by omega, rfl, HJ3.out⟩
    case measure => simp [intOf]
   ·rw [show (2 : Int) + ((4 : Nat) : Int) = 6 from rfl] at hy
    gi_wp2
    refine HR.out.mono ?_
    rintro e W3 ⟨rfl, hj3⟩
    have HJ3 := Lib.hid hj3
    clear hj3 hy HR
    gi_wp2
    go_roundw
    case rel => exact ⟨5, by omega, rfl, HJ3.out⟩
    case measure => simp [intOf]
   ·rw [show (2 : Int) + ((5 : Nat) : Int) = 7 from rfl] at hy
    gi_wp2
    refine HR.out.mono ?_
    rintro e W3 ⟨rfl, hj3⟩
    have HJ3 := Lib.hid hj3
    clear hj3 hy HR
    gi_wp2
    go_roundw
    case rel => exact ⟨6, by omega, rfl, HJ3.out⟩
    case measure => simp [intOf]
   ·rw [show (2 : Int) + ((6 : Nat) : Int) = 8 from rfl] at hy
    gi_wp2
    refine HR.out.mono ?_
    rintro e W3 ⟨rfl, hj3⟩
    have HJ3 := Lib.hid hj3
    clear hj3 hy HR
    gi_wp2
    go_roundw
    case rel => exact ⟨7, by omega, rfl, HJ3.out⟩
    case measure => simp [intOf]
  ·obtain rfl : k = 7 := by omega
   have hjk := Lib.hid hj
   clear hj
   gi_wp2
   go_end0
   exact ⟨⟨_, rfl⟩, hjk.out⟩
end

section
open Go.RowKit NV Go.Shelf
open Go.Lib (decDigits)
attribute [local go_sem] Oper.semAt_some
def mixc (c d : Nat → ByteArray) (k : Nat) : Nat → ByteArray := fun j => if j < k then d j else c j
structure ChgI (Inv : World → Prop) (w : World) (bs g : Nat) (cap : Array Value) (c d : Nat → ByteArray) (k : Nat) (W : World) : Prop where
 arr : ARR W w.heap.size 7 73 (mixc c d k)
 fn : Boxed W (w.heap.size + 1) 76 (.func (.func g) #[] cap)
 res : ARR W (w.heap.size + 2) 7 73 (fun _ => ⟨#[]⟩)
 inv : Inv W
 ch : Ch (fun j => j = bs) w W
theorem ChgI.keep {Inv : World → Prop} {w W W' : World} {bs g k : Nat} {cap : Array Value} {c d : Nat → ByteArray} (h : ChgI Inv w bs g cap c d k W) (hInv : ∀ W W', Inv W → Ch (fun j => w.heap.size ≤ j) W W' → Inv W') {S : Nat → Prop} (hc : Ch S W W') (hS : ∀ j, S j → w.heap.size + 3 ≤ j) : ChgI Inv w bs g cap c d k W' :=
 ⟨h.arr.ch hc (fun e => by have := hS _ e; omega), hc.boxed (fun e => by have := hS _ e; omega) h.fn, h.res.ch hc (fun e => by have := hS _ e; omega), hInv _ _ h.inv (hc.mono fun j _ e => by have := hS _ e; omega),
  ⟨hc.os.trans h.ch.os, hc.tape.trans h.ch.tape, hc.output.trans h.ch.output, Nat.le_trans h.ch.size hc.size, fun j hj hn => (hc.block j (Nat.lt_of_lt_of_le hj h.ch.size) (fun e => by have := hS _ e; omega)).trans (h.ch.block j hj hn)⟩⟩
set_option maxHeartbeats 6400000 in
set_option maxRecDepth 100000 in
theorem changed_any {g : Nat} {cap : Array Value} {c d : Nat → ByteArray} {bs : Nat} {w : World} (Inv : World → Prop) (hbs : bs < w.heap.size) (hInv : ∀ W W', Inv W → Ch (fun j => w.heap.size ≤ j) W W' → Inv W') (h0 : Inv w) (eg : ∀ args w, (callFunc g args).run Tryz.prog w = .ok (.enter g args) w)
  (hg : ∀ k W, k < 7 → Inv W → w.heap.size ≤ W.heap.size → Calls Tryz.prog g (#[.int .i64 (2 + (k : Int)), .string (c k)] ++ cap) W fun e W' => e = .returned (.string (d k)) ∧ Ch (fun j => j = bs) W W' ∧ Inv W') :
  Calls Tryz.prog 28 #[.agg #[.string (c 0), .string (c 1), .string (c 2), .string (c 3), .string (c 4), .string (c 5), .string (c 6)], .func (.func g) #[] cap] w fun e w' => e = .returned (.agg #[.string (d 0), .string (d 1), .string (d 2), .string (d 3), .string (d 4), .string (d 5), .string (d 6)]) ∧ Ch (fun j => j = bs) w w' ∧ Inv w' := by
 refine (callsIn_wide (n := 6)).1 ?_
 refine callsIn_of_wp_marks Tryz.func28 rfl trivial ?_ rfl
 simp only [Tryz.ntmps28, List.size_toArray, List.length_cons, List.length_nil, Nat.reduceAdd, Nat.reduceSub, Array.replicate_succ, Array.replicate_zero, List.push_toArray, List.append_toArray, List.nil_append, List.cons_append]
 obtain ⟨V1, hV1⟩ : ∃ V1, V1 = w.alloc (.cells #[.string (c 0), .string (c 1), .string (c 2), .string (c 3), .string (c 4), .string (c 5), .string (c 6)] 73) := ⟨_, rfl⟩
 obtain ⟨V2, hV2⟩ : ∃ V2, V2 = V1.alloc (.cells #[.func (.func g) #[] cap] 76) := ⟨_, rfl⟩
 obtain ⟨V3, hV3⟩ : ∃ V3, V3 = V2.alloc (.cells #[.string ⟨#[]⟩, .string ⟨#[]⟩, .string ⟨#[]⟩, .string ⟨#[]⟩, .string ⟨#[]⟩, .string ⟨#[]⟩, .string ⟨#[]⟩] 73) := ⟨_, rfl⟩
 have s1 : V1.heap.size = w.heap.size + 1 := by rw [hV1]; simp
 have s2 : V2.heap.size = w.heap.size + 2 := by rw [hV2, World.size_alloc, s1]
 have s3 : V3.heap.size = w.heap.size + 3 := by rw [hV3, World.size_alloc, s2]
 have a1 : ARR V1 w.heap.size 7 73 c := by rw [hV1]; exact ARR.new7
 have i1 : Below w.heap.size w V1 := by rw [hV1]; exact (Below.refl w.heap.size w).alloc (Nat.le_refl _) _
 have i2 : Below V1.heap.size V1 V2 := by rw [hV2]; exact (Below.refl _ V1).alloc (Nat.le_refl _) _
 have i3 : Below V2.heap.size V2 V3 := by rw [hV3]; exact (Below.refl _ V2).alloc (Nat.le_refl _) _
 have i13 : Below V1.heap.size V1 V3 := i2.trans (i3.mono i2.size)
 have i03 : Below w.heap.size w V3 := i1.trans (i13.mono i1.size)
 have f2 : Boxed V2 (w.heap.size + 1) 76 (.func (.func g) #[] cap) := by rw [hV2, ← s1]; exact Boxed.new V1 _ _
 have r3 : ARR V3 (w.heap.size + 2) 7 73 (fun _ => ⟨#[]⟩) := by rw [hV3, ← s2]; exact ARR.new7 (c := fun _ => ⟨#[]⟩)
 have HI0 := Lib.hid (show ChgI Inv w bs g cap c d 0 V3 from ⟨(a1.below i13).congr (fun j _ => (if_neg (Nat.not_lt_zero _)).symm), (Ch.below (S := fun _ => False) i3).boxed (fun h => h) f2, r3, hInv _ _ h0 (Ch.below (S := fun j => w.heap.size ≤ j) i03), Ch.below i03⟩)
 have HOR := Lib.hid (orders_any c V3)
 have HV3 := Lib.hid s3
 have HK := Lib.hid hInv
 have HG := Lib.hid hg
 have c0 := (a1.below i13).cell (j := 0) (by omega)
 have c1 := (a1.below i13).cell (j := 1) (by omega)
 have c2 := (a1.below i13).cell (j := 2) (by omega)
 have c3 := (a1.below i13).cell (j := 3) (by omega)
 have c4 := (a1.below i13).cell (j := 4) (by omega)
 have c5 := (a1.below i13).cell (j := 5) (by omega)
 have c6 := (a1.below i13).cell (j := 6) (by omega)
 clear i1 i2 i3 i13 i03 f2 r3 a1 s1 s2 s3 hInv hg h0
 subst hV3
 subst hV2
 subst hV1
 gi_wp2_with fail
 clear c0 c1 c2 c3 c4 c5 c6
 refine ⟨trivial, (callsIn_wide.2 HOR.out).mono ?_⟩
 rintro e w3 ⟨rfl, hor, hb⟩
 rw [HV3.out] at hor
 have HI1 := Lib.hid (HI0.out.keep HK.out (S := fun _ => False) (Ch.below hb) (fun j h => h.elim))
 have HO := Lib.hid hor
 have HZ := Lib.hid (show w.heap.size + 4 ≤ w3.heap.size from hor.lt)
 clear hor hb HOR HI0
 gi_wp2_with fail
 refine wpIn_rangeCh (by omega) (gf := 105) (lb := #[.pointer (some ⟨w.heap.size + 3, 0, none⟩)]) rfl (enters_of Tryz.func105 (by kernel_rfl) rfl)
  (fun _ => False) (fun j => j = w.heap.size ∨ j = bs) (fun k => #[.int .i64 (2 + (k : Int)), .string (c k)]) (fun _ => rfl) 7
  (fun _ W => ARR W (w.heap.size + 3) 7 73 c) (ChgI Inv w bs g cap c d)
  (fun j hj => hj.elim) ⟨by have := HZ.out; omega, by have := HZ.out; omega⟩
  (fun k W W' h hc => h.ch hc (by have := HZ.out; omega))
  (fun k W W' h hc => h.keep HK.out hc (fun j hj => by have := HZ.out; rcases hj with h' | h' | h' <;> (try exact h'.elim) <;> omega))
  (fun l J W _ hY s0 h0 => (orders_calls (J := fun k W => J k W ∧ ARR W (w.heap.size + 3) 7 73 c) (by omega) (fun k W h hk => hY k W h.1 h.2 hk) W s0 ⟨h0, s0⟩).mono (fun e W' h => ⟨h.1, h.2.1⟩))
  HO.out HI1.out
  (fun k => { tmps := #[.agg #[.string (c 0), .string (c 1), .string (c 2), .string (c 3), .string (c 4), .string (c 5), .string (c 6)], .func (.func g) #[] cap, .pointer (some ⟨w.heap.size, 0, none⟩), .pointer (some ⟨w.heap.size + 1, 0, none⟩), .pointer (some ⟨w.heap.size + 2, 0, none⟩), .int .i64 (2 + (k : Int)), .string (c k), .agg #[.string (c 0), .string (c 1), .string (c 2), .string (c 3), .string (c 4), .string (c 5), .string (c 6)], .func (.func 105) #[] #[.pointer (some ⟨w.heap.size + 3, 0, none⟩)], .int .i64 (2 + (k : Int)), .string (c k), undef, undef, undef, undef, undef, undef, undef, undef], defers := [] }) ?assign ?body ?done
 case assign =>
  intro l k W K hK
  gi_wp2
  exact hK
 case body =>
  rintro l k W hsW hI hk
  have d0 := hI.fn.cell
  have HC := Lib.hid ((HG.out k W hk hI.inv hI.ch.size))
  have HI := Lib.hid hI
  have hk2 : (k : Int) < 7 := by omega
  clear hI hsW HI1 HO HG
  gi_wp2_with fail
  refine ⟨trivial, (CallsIn.inRound l (callsIn_wide.2 HC.out)).mono ?_⟩
  rintro e W2 ⟨rfl, hc, hi⟩
  have ha := HI.out.arr.ch hc (by omega)
  have d1 := ha.cell hk
  have d2 := ha.free k
  have HX := Lib.hid (And.intro hc (And.intro hi ha))
  clear hc hi ha HC d0
  gi_wp2_with fail
  obtain ⟨hc, hi, ha⟩ := HX.out
  have hI := HI.out
  have st : Ch (fun j => j = w.heap.size) W2 (W2.setCell ⟨w.heap.size, k, none⟩ (.string (d k))) := Ch.setCell _ _ _ rfl
  refine ⟨(hc.mono fun j _ e => .inr e).trans (st.mono fun j _ e => .inl e), ?_⟩
  refine ⟨(ha.store k (d k)).congr (fun j _ => ?_), st.boxed (by omega) (hc.boxed (by omega) hI.fn), (hI.res.ch hc (by omega)).ch st (by omega), HK.out _ _ hi (st.mono fun j _ e => by omega), ?_⟩
  ·unfold mixc
   by_cases e : j = k
   ·subst e
    rw [if_pos rfl, if_pos (by omega)]
   ·rw [if_neg e]
    by_cases e2 : j < k
    ·rw [if_pos e2, if_pos (by omega)]
    ·rw [if_neg e2, if_neg (by omega)]
  ·have h1 := hI.ch.trans hc
   exact ⟨st.os.trans h1.os, st.tape.trans h1.tape, st.output.trans h1.output, Nat.le_trans h1.size st.size, fun j hj hn => (st.block j (Nat.lt_of_lt_of_le hj h1.size) (by omega)).trans (h1.block j hj hn)⟩
 case done =>
  rintro W hI hK
  have ha := hI.arr.congr (d := d) (fun j hj => by unfold mixc; exact if_pos hj)
  have c0 := ha.cell (j := 0) (by omega)
  have c1 := ha.cell (j := 1) (by omega)
  have c2 := ha.cell (j := 2) (by omega)
  have c3 := ha.cell (j := 3) (by omega)
  have c4 := ha.cell (j := 4) (by omega)
  have c5 := ha.cell (j := 5) (by omega)
  have c6 := ha.cell (j := 6) (by omega)
  have HF := Lib.hid (And.intro hI.ch (And.intro hI.inv (And.intro hI.res hK)))
  have r0 := hI.res.cell (j := 0) (by omega)
  have z0 := hI.res.free 0
  have r1 := hI.res.cell (j := 1) (by omega)
  have z1 := hI.res.free 1
  have r2 := hI.res.cell (j := 2) (by omega)
  have z2 := hI.res.free 2
  have r3 := hI.res.cell (j := 3) (by omega)
  have z3 := hI.res.free 3
  have r4 := hI.res.cell (j := 4) (by omega)
  have z4 := hI.res.free 4
  have r5 := hI.res.cell (j := 5) (by omega)
  have z5 := hI.res.free 5
  have r6 := hI.res.cell (j := 6) (by omega)
  have z6 := hI.res.free 6
  clear hI ha HI1 HO HG hK
  gi_wp2
  obtain ⟨hc, hi, hr, hK⟩ := HF.out
  have hz := HZ.out
  have hp := hr.put7 d
  have cs := Ch.st7 (S := fun j => j = w.heap.size + 2) W d rfl
  have hK' : (st7 W (w.heap.size + 2) d).heap[w3.heap.size]? = some (.deferred (some [])) := (cs.block _ (Array.getElem?_eq_some_iff.1 hK).1 (by omega)).trans hK
  have cp := Ch.putObj (fun j => j = w3.heap.size) (st7 W (w.heap.size + 2) d) (r := w3.heap.size) (.deferred none) rfl
  refine ⟨by simp, .inl ⟨_, _, rfl, run_takeDeferred hK', ?_⟩⟩
  have hp2 := hp.ch cp (by omega)
  have hl := hp2.load7
  have cc := (cs.mono (T := fun j => w.heap.size ≤ j) (fun j _ e => by omega)).trans (cp.mono (T := fun j => w.heap.size ≤ j) (fun j _ e => by omega))
  refine ⟨_, (by simp [results, Tryz.results28, asAddr]; exact hl), rfl, ?_, HK.out _ _ hi cc⟩
  exact ⟨cc.os.trans hc.os, cc.tape.trans hc.tape, cc.output.trans hc.output, Nat.le_trans hc.size cc.size, fun j hj hn => (cc.block j (Nat.lt_of_lt_of_le hj hc.size) (by omega)).trans (hc.block j hj hn)⟩
end

section
open Go.RowKit NV Go.Shelf
open Go.Lib (decDigits)
theorem ARR.new8 {w : World} {ty : TypeId} {c : Nat → ByteArray} : ARR (w.alloc (.cells #[.string (c 0), .string (c 1), .string (c 2), .string (c 3), .string (c 4), .string (c 5), .string (c 6), .string (c 7)] ty)) w.heap.size 8 ty c :=
 ⟨_, heap_alloc_new w _, rfl, fun j hj => by
  rcases (show j = 0 ∨ j = 1 ∨ j = 2 ∨ j = 3 ∨ j = 4 ∨ j = 5 ∨ j = 6 ∨ j = 7 by omega) with rfl | rfl | rfl | rfl | rfl | rfl | rfl | rfl <;> rfl⟩
theorem ARR.row8 {w : World} {b : Nat} {ty : TypeId} {c : Nat → ByteArray} (h : ARR w b 8 ty c) : w.heap[b]? = some (.cells #[.string (c 0), .string (c 1), .string (c 2), .string (c 3), .string (c 4), .string (c 5), .string (c 6), .string (c 7)] ty (0, 0)) := by
 obtain ⟨cur, h1, h2, h3⟩ := h
 have e : cur = #[.string (c 0), .string (c 1), .string (c 2), .string (c 3), .string (c 4), .string (c 5), .string (c 6), .string (c 7)] := by
  refine Array.ext_getElem? fun j => ?_
  by_cases hi : j < 8
  ·rw [h3 j hi]
   rcases (show j = 0 ∨ j = 1 ∨ j = 2 ∨ j = 3 ∨ j = 4 ∨ j = 5 ∨ j = 6 ∨ j = 7 by omega) with rfl | rfl | rfl | rfl | rfl | rfl | rfl | rfl <;> rfl
  ·rw [Array.getElem?_eq_none (by omega), Array.getElem?_eq_none (by show 8 ≤ j; omega)]
 rw [h1, e]
theorem info_63 : (Tryz.prog.info? 35).map (·.size) = some 8 := by kernel_rfl
theorem ARR.load8 {w : World} {b : Nat} {c : Nat → ByteArray} (h : ARR w b 8 35 c) : (loadVar 35 ⟨b, 0, none⟩).run Tryz.prog w = .ok (.agg #[.string (c 0), .string (c 1), .string (c 2), .string (c 3), .string (c 4), .string (c 5), .string (c 6), .string (c 7)]) w :=
 run_loadVar_row _ _ 35 35 _ (0, 0) _ h.row8 Tryz.underlying35 rfl info_63
def st8 (W : World) (b : Nat) (d : Nat → ByteArray) : World := ((((((((W.setCell ⟨b, 0, none⟩ (.string (d 0))).setCell ⟨b, 1, none⟩ (.string (d 1))).setCell ⟨b, 2, none⟩ (.string (d 2))).setCell ⟨b, 3, none⟩ (.string (d 3))).setCell ⟨b, 4, none⟩ (.string (d 4))).setCell ⟨b, 5, none⟩ (.string (d 5))).setCell ⟨b, 6, none⟩ (.string (d 6))).setCell ⟨b, 7, none⟩ (.string (d 7)))
theorem ARR.put8 {W : World} {b : Nat} {ty : TypeId} {c : Nat → ByteArray} (h : ARR W b 8 ty c) (d : Nat → ByteArray) : ARR (st8 W b d) b 8 ty d := by
 refine ((((((((h.store 0 (d 0)).store 1 (d 1)).store 2 (d 2)).store 3 (d 3)).store 4 (d 4)).store 5 (d 5)).store 6 (d 6)).store 7 (d 7)).congr fun j hj => ?_
 rcases (show j = 0 ∨ j = 1 ∨ j = 2 ∨ j = 3 ∨ j = 4 ∨ j = 5 ∨ j = 6 ∨ j = 7 by omega) with rfl | rfl | rfl | rfl | rfl | rfl | rfl | rfl <;> rfl
theorem Ch.st8 {S : Nat → Prop} (W : World) {b : Nat} (d : Nat → ByteArray) (hb : S b) : Ch S W (st8 W b d) := (((((((Ch.setCell S W _ hb).trans (Ch.setCell S _ _ hb)).trans (Ch.setCell S _ _ hb)).trans (Ch.setCell S _ _ hb)).trans (Ch.setCell S _ _ hb)).trans (Ch.setCell S _ _ hb)).trans (Ch.setCell S _ _ hb)).trans (Ch.setCell S _ _ hb)
structure SO (W : World) (bs : Nat) : Prop where
 c : W.cell? ⟨bs, 0, none⟩ = some (.int .i64 0)
 z : W.frozen? ⟨bs, 0, none⟩ = false
 lt : bs < W.heap.size
theorem SO.ch {S : Nat → Prop} {W W' : World} {bs : Nat} (h : SO W bs) (hc : Ch S W W') (hs : ¬ S bs) : SO W' bs := by
 have hb := hc.block bs h.lt hs
 exact ⟨by have := h.c; unfold World.cell? at this ⊢; rw [hb]; exact this, by have := h.z; unfold World.frozen? at this ⊢; rw [hb]; exact this, Nat.lt_of_lt_of_le h.lt hc.size⟩
theorem SO.below {W W' : World} {bs : Nat} (h : SO W bs) (hb : Below W.heap.size W W') : SO W' bs := h.ch (Ch.below (S := fun _ => False) hb) (fun h => h)
theorem SO.put {W : World} {bs : Nat} (h : SO W bs) : SO (W.setCell ⟨bs, 0, none⟩ (.int .i64 0)) bs :=
 ⟨World.cell?_setCell_same _ _ _ h.c, by rw [World.frozen?_setCell]; exact h.z, by simpa using h.lt⟩
theorem SO.new {w : World} {ty : TypeId} : SO (w.alloc (.cells #[.int .i64 0] ty)) w.heap.size := ⟨by simp, by simp, by simp⟩
def Stp (s : ByteArray) (bs : Nat) (W : World) (e : Ending) (W' : World) : Prop := e = .returned (.string s) ∧ Ch (fun j => j = bs) W W' ∧ SO W' bs
set_option maxHeartbeats 1600000 in
theorem next_ok {bs : Nat} {x : ByteArray} {W : World} (h : SO W bs) : Calls Tryz.prog 26 #[.pointer (some ⟨bs, 0, none⟩), .string x, .int .i64 0] W (Stp x bs W) := by
 have H := Lib.hid h
 obtain ⟨c0, z0, _⟩ := h
 go_enter Tryz.func26, Tryz.ntmps26
 go_wp2_with fail
 go_ret
 exact ⟨rfl, Ch.setCell _ _ _ rfl, H.out.put⟩
theorem Stp.trans {x y : ByteArray} {bs : Nat} {a b c : World} {e f : Ending} (h : Stp x bs a e b) (k : Stp y bs b f c) : Stp y bs a f c := ⟨k.1, h.2.1.trans k.2.1, k.2.2⟩
set_option maxHeartbeats 1600000 in
theorem atMost_ok {bs : Nat} {x m : ByteArray} {W : World} (h : SO W bs) (hm : ∀ V, Ch (fun j => j = bs) W V → Calls Tryz.prog 111 #[.string x, .string ⟨#[49]⟩] V fun e w' => e = .returned (.tuple #[.string m, .int .i64 0]) ∧ Below V.heap.size V w') :
  Calls Tryz.prog 85 #[.pointer (some ⟨bs, 0, none⟩), .string x, .int .i64 0] W (Stp m bs W) := by
 have H := Lib.hid (next_ok (x := x) h)
 have HM := Lib.hid hm
 clear h hm
 go_enter Tryz.func85, Tryz.ntmps85
 go_wp2_with fail
 refine H.out.mono ?_
 rintro e W1 ⟨rfl, hc, hs⟩
 have HC := Lib.hid (And.intro hc hs)
 clear hc hs H
 go_wp2_with fail
 refine (HM.out _ HC.out.1).mono ?_
 rintro e W2 ⟨rfl, hb⟩
 have HC2 := Lib.hid (And.intro (HC.out.1.trans (Ch.below hb)) (HC.out.2.below hb))
 have HN := Lib.hid (next_ok (x := m) (HC.out.2.below hb))
 clear hb HC HM
 go_wp2_with fail
 refine HN.out.mono ?_
 rintro e W3 ⟨rfl, hc, hs⟩
 have HC3 := Lib.hid (And.intro (HC2.out.1.trans hc) hs)
 clear hc hs HC2 HN
 go_wp2_with fail
 go_ret
 exact ⟨rfl, HC3.out.1, HC3.out.2⟩
set_option maxHeartbeats 1600000 in
theorem self_ok {bs : Nat} {n : Int} {x y : ByteArray} {W : World} (h : SO W bs)
  (h1 : Calls Tryz.prog 109 #[.int .i64 n] W fun e w' => e = .returned (.string x) ∧ Below W.heap.size W w')
  (h2 : ∀ V, Below W.heap.size W V → Calls Tryz.prog 30 #[.string x, .int .i64 n] V fun e w' => e = .returned (.tuple #[.string y, .int .i64 0]) ∧ Below V.heap.size V w') :
  Calls Tryz.prog 83 #[.pointer (some ⟨bs, 0, none⟩), .int .i64 n] W (Stp y bs W) := by
 have H := Lib.hid h
 have H1 := Lib.hid h1
 have H2 := Lib.hid h2
 clear h h1 h2
 go_enter Tryz.func83, Tryz.ntmps83
 go_wp2_with fail
 refine H1.out.mono ?_
 rintro e W1 ⟨rfl, hb⟩
 have HB := Lib.hid hb
 clear hb H1
 go_wp2_with fail
 refine (H2.out _ HB.out).mono ?_
 rintro e W2 ⟨rfl, hb⟩
 have HB2 := Lib.hid (HB.out.trans (hb.mono HB.out.size))
 clear hb HB H2
 have HN := Lib.hid (next_ok (x := y) (H.out.below HB2.out))
 go_wp2_with fail
 refine HN.out.mono ?_
 rintro e W3 ⟨rfl, hc, hs⟩
 have HC3 := Lib.hid (And.intro ((Ch.below HB2.out).trans hc) hs)
 clear hc hs HB2 HN
 go_wp2_with fail
 go_ret
 exact ⟨rfl, HC3.out.1, HC3.out.2⟩
set_option maxHeartbeats 1600000 in
set_option maxRecDepth 100000 in
theorem bof_any (c : Nat → ByteArray) {k : Nat} (hk : k < 7) (w : World) : Calls Tryz.prog 41 #[.agg #[.string (c 0), .string (c 1), .string (c 2), .string (c 3), .string (c 4), .string (c 5), .string (c 6)], .int .i64 (2 + (k : Int))] w fun e w' => e = .returned (.string (c k)) ∧ Below w.heap.size w w' := by
 have HB := Lib.hid ((Below.refl w.heap.size w).alloc (Nat.le_refl _) (.cells #[.string (c 0), .string (c 1), .string (c 2), .string (c 3), .string (c 4), .string (c 5), .string (c 6)] 73))
 have c0 := (ARR.new7 (w := w) (ty := 73) (c := c)).cell hk
 have hk2 : (k : Int) < 7 := by omega
 go_enter Tryz.func41, Tryz.ntmps41
 go_wp2_with fail
 go_ret
 exact ⟨rfl, HB.out⟩
set_option maxHeartbeats 1600000 in
set_option maxRecDepth 100000 in
theorem unlessC_ok (c : Nat → ByteArray) (w : World) : Calls Tryz.prog 32 #[.int .i64 0, .agg #[.string (c 0), .string (c 1), .string (c 2), .string (c 3), .string (c 4), .string (c 5), .string (c 6), .string (c 7)]] w fun e w' => e = .returned (.tuple #[.agg #[.string (c 0), .string (c 1), .string (c 2), .string (c 3), .string (c 4), .string (c 5), .string (c 6), .string (c 7)], .int .i64 0]) ∧ Below w.heap.size w w' := by
 have a1 : ARR (w.alloc (.cells #[.string (c 0), .string (c 1), .string (c 2), .string (c 3), .string (c 4), .string (c 5), .string (c 6), .string (c 7)] 35)) w.heap.size 8 35 c := ARR.new8
 have i1 := (Below.refl w.heap.size w).alloc (Nat.le_refl _) (.cells #[.string (c 0), .string (c 1), .string (c 2), .string (c 3), .string (c 4), .string (c 5), .string (c 6), .string (c 7)] 35)
 have i2 := (Below.refl (w.alloc (.cells #[.string (c 0), .string (c 1), .string (c 2), .string (c 3), .string (c 4), .string (c 5), .string (c 6), .string (c 7)] 35)).heap.size (w.alloc (.cells #[.string (c 0), .string (c 1), .string (c 2), .string (c 3), .string (c 4), .string (c 5), .string (c 6), .string (c 7)] 35))).alloc (Nat.le_refl _) (.cells #[.string ⟨#[]⟩, .string ⟨#[]⟩, .string ⟨#[]⟩, .string ⟨#[]⟩, .string ⟨#[]⟩, .string ⟨#[]⟩, .string ⟨#[]⟩, .string ⟨#[]⟩] 35)
 have a2 : ARR ((w.alloc (.cells #[.string (c 0), .string (c 1), .string (c 2), .string (c 3), .string (c 4), .string (c 5), .string (c 6), .string (c 7)] 35)).alloc (.cells #[.string ⟨#[]⟩, .string ⟨#[]⟩, .string ⟨#[]⟩, .string ⟨#[]⟩, .string ⟨#[]⟩, .string ⟨#[]⟩, .string ⟨#[]⟩, .string ⟨#[]⟩] 35)) (w.heap.size + 1) 8 35 (fun _ => ⟨#[]⟩) := by
  have h := ARR.new8 (w := w.alloc (.cells #[.string (c 0), .string (c 1), .string (c 2), .string (c 3), .string (c 4), .string (c 5), .string (c 6), .string (c 7)] 35)) (ty := 35) (c := fun _ => ⟨#[]⟩)
  rw [World.size_alloc] at h
  exact h
 have a3 : ARR ((w.alloc (.cells #[.string (c 0), .string (c 1), .string (c 2), .string (c 3), .string (c 4), .string (c 5), .string (c 6), .string (c 7)] 35)).alloc (.cells #[.string (c 0), .string (c 1), .string (c 2), .string (c 3), .string (c 4), .string (c 5), .string (c 6), .string (c 7)] 35)) (w.heap.size + 1) 8 35 c := by
  have h := ARR.new8 (w := w.alloc (.cells #[.string (c 0), .string (c 1), .string (c 2), .string (c 3), .string (c 4), .string (c 5), .string (c 6), .string (c 7)] 35)) (ty := 35) (c := c)
  rw [World.size_alloc] at h
  exact h
 have HX := Lib.hid (And.intro a3.load8 (i1.alloc i1.size (.cells #[.string (c 0), .string (c 1), .string (c 2), .string (c 3), .string (c 4), .string (c 5), .string (c 6), .string (c 7)] 35)))
 have d0 := (a1.below i2).cell (j := 0) (by omega)
 have d1 := (a1.below i2).cell (j := 1) (by omega)
 have d2 := (a1.below i2).cell (j := 2) (by omega)
 have d3 := (a1.below i2).cell (j := 3) (by omega)
 have d4 := (a1.below i2).cell (j := 4) (by omega)
 have d5 := (a1.below i2).cell (j := 5) (by omega)
 have d6 := (a1.below i2).cell (j := 6) (by omega)
 have d7 := (a1.below i2).cell (j := 7) (by omega)
 have e0 := a2.cell (j := 0) (by omega)
 have z0 := a2.free 0
 have e1 := a2.cell (j := 1) (by omega)
 have z1 := a2.free 1
 have e2 := a2.cell (j := 2) (by omega)
 have z2 := a2.free 2
 have e3 := a2.cell (j := 3) (by omega)
 have z3 := a2.free 3
 have e4 := a2.cell (j := 4) (by omega)
 have z4 := a2.free 4
 have e5 := a2.cell (j := 5) (by omega)
 have z5 := a2.free 5
 have e6 := a2.cell (j := 6) (by omega)
 have z6 := a2.free 6
 have e7 := a2.cell (j := 7) (by omega)
 have z7 := a2.free 7
 clear a1 a2 a3 i1 i2
 go_enter Tryz.func32, Tryz.ntmps32
 go_wp2_with fail
 refine bodyPost_ret (v := .tuple #[.agg #[.string (c 0), .string (c 1), .string (c 2), .string (c 3), .string (c 4), .string (c 5), .string (c 6), .string (c 7)], .int .i64 0]) (by have h := HX.out.1; simp [results, Tryz.results32, asAddr, h]) rfl ?_
 exact ⟨rfl, HX.out.2⟩
end

section
open Go.RowKit NV Go.Shelf
open Go.Lib (decDigits)
theorem Ch.fresh {S T : Nat → Prop} {a b c : World} (h : Ch T a b) (k : Ch S b c) (hs : ∀ j, S j → T j ∨ a.heap.size ≤ j) : Ch T a c :=
 ⟨k.os.trans h.os, k.tape.trans h.tape, k.output.trans h.output, Nat.le_trans h.size k.size, fun j hj hn => (k.block j (Nat.lt_of_lt_of_le hj h.size) (fun e => by
  rcases hs j e with h1 | h1
  ·exact hn h1
  ·omega)).trans (h.block j hj hn)⟩
structure IV (v : World) (bs : Nat) (W : World) : Prop where
 so : SO W bs
 ch : Ch (fun j => j = bs) v W
theorem IV.keep {v W W' : World} {bs : Nat} (h : IV v bs W) {S : Nat → Prop} (hc : Ch S W W') (hs : ∀ j, S j → v.heap.size ≤ j) (hb : bs < v.heap.size) : IV v bs W' :=
 ⟨h.so.ch hc (fun e => by have := hs _ e; omega), h.ch.fresh hc (fun j hj => .inr (hs j hj))⟩
theorem IV.below {v W W' : World} {bs : Nat} (h : IV v bs W) (hb : Below W.heap.size W W') : IV v bs W' := ⟨h.so.below hb, h.ch.trans (Ch.below hb)⟩
theorem IV.step {v W W' : World} {bs : Nat} (h : IV v bs W) (hc : Ch (fun j => j = bs) W W') (hs : SO W' bs) : IV v bs W' := ⟨hs, h.ch.trans hc⟩
theorem IV.arr {v W : World} {bs b n ty : Nat} {c : Nat → ByteArray} (h : IV v bs W) (ha : ARR v b n ty c) (hb : b ≠ bs) : ARR W b n ty c := ha.ch h.ch hb
theorem IV.bel {w v W : World} {bs : Nat} (h : IV v bs W) (hv : Below w.heap.size w v) (hb : w.heap.size ≤ bs) : Below w.heap.size w W := hv.trans (h.ch.to_below hv.size (fun j e => by omega))
def Cv (d : Nat → ByteArray) (w : World) (e : Ending) (w' : World) : Prop := e = .returned (.tuple #[.agg #[.string (d 0), .string (d 1), .string (d 2), .string (d 3), .string (d 4), .string (d 5), .string (d 6), .string (d 7)], .int .i64 0]) ∧ Below w.heap.size w w'
end

section
open Go.RowKit NV Go.Shelf
open Go.Lib (decDigits)
attribute [local go_sem] Oper.semAt_some
theorem rowH_ch {S : Nat → Prop} {w w' : World} {base e sz n : Nat} {v : Value} {xs : List Value} (h : w.ownsRow base e sz v n xs) (hc : Ch S w w') (hS : ∀ j, base ≤ j → ¬ S j) : w'.ownsRow base e sz v n xs := by
 refine ⟨h.1, ?_⟩
 rcases h.2 with h2 | ⟨g, cap, cur, hv, hg, hh, rest⟩
 ·exact .inl h2
 ·exact .inr ⟨g, cap, cur, hv, hg, (hc.block g (Array.getElem?_eq_some_iff.1 hh).1 (hS g hg)).trans hh, rest⟩
theorem Ch.grownH {S : Nat → Prop} {w w' : World} {row : Option Nat} (hg : w.grownBy w' row) (hr : ∀ r, row = some r → S r) : Ch S w w' :=
 ⟨hg.os, hg.tape, hg.output, hg.size, fun j hj hs => hg.block j hj (fun e => hs (hr j e.symm))⟩
def pF (c : Nat → ByteArray) (j : Nat) : ByteArray := if j < 7 then c j else ⟨#[49]⟩
def pD (c : Nat → ByteArray) (j : Nat) : ByteArray := if j < 7 then ⟨#[48]⟩ else c 7
def pcells (c : Nat → ByteArray) (k : Nat) : List Value := (List.range k).flatMap fun j => [.string (pF c j), .string (pD c j)]
theorem pcells_next (c : Nat → ByteArray) (k : Nat) : pcells c (k + 1) = pcells c k ++ [.string (pF c k), .string (pD c k)] := by unfold pcells; rw [List.range_succ, List.flatMap_append]; rfl
theorem pcells_get (c : Nat → ByteArray) {j : Nat} : ∀ {k : Nat}, j < k → (pcells c k)[j * 2]? = some (.string (pF c j)) ∧ (pcells c k)[j * 2 + 1]? = some (.string (pD c j)) := by
 have hl : ∀ k, (pcells c k).length = k * 2 := fun k => by
  induction k with
  | zero => rfl
  | succ k ih => rw [pcells_next, List.length_append, ih]; show k * 2 + 2 = _; omega
 intro k
 induction k with
 | zero => intro h; omega
 | succ k ih =>
  intro h
  rw [pcells_next]
  by_cases e : j < k
  ·obtain ⟨h1, h2⟩ := ih e
   have hk := hl k
   rw [List.getElem?_append_left (by omega), List.getElem?_append_left (by omega)]
   exact ⟨h1, h2⟩
  ·obtain rfl : j = k := by omega
   rw [List.getElem?_append_right (by rw [hl]; omega), List.getElem?_append_right (by rw [hl]; omega), hl, Nat.sub_self, Nat.add_sub_cancel_left]
   exact ⟨rfl, rfl⟩
theorem infoLo : (Tryz.prog.info? 49).map (fun i => (i.zero, i.size, i.bytes)) = some (some (.agg #[.string ⟨#[]⟩, .string ⟨#[]⟩]), 2, 32) := by kernel_rfl
theorem type_neL : 145 ≠ 49 := by decide
set_option maxHeartbeats 12800000 in
set_option maxRecDepth 100000 in
theorem mCheck_ok {c : Nat → ByteArray} {w : World} (hk : ∀ j, j < 8 → ∀ W, Below w.heap.size w W → Calls Tryz.prog 25 #[.agg #[.string (pF c j), .string (pD c j)]] W (Er 0 W)) :
  Calls Tryz.prog 80 #[.agg #[.string (c 0), .string (c 1), .string (c 2), .string (c 3), .string (c 4), .string (c 5), .string (c 6), .string (c 7)]] w (Er 0 w) := by
 obtain ⟨i0, hi, hz0, hz1, hz2⟩ := info_parts infoLo
 have hmf : ∀ (fn : Fn) (first cap : Array Value) (w : World), (Instr.makeFunc fn first cap).run Tryz.prog w = .ok (.func fn first cap) w := fun _ _ _ _ => rfl
 refine (callsIn_wide (n := 6)).1 ?_
 refine callsIn_of_wp_marks Tryz.func80 rfl trivial ?_ rfl
 simp only [Tryz.ntmps80, List.size_toArray, List.length_cons, List.length_nil, Nat.reduceAdd, Nat.reduceSub, Array.replicate_succ, Array.replicate_zero, List.push_toArray, List.append_toArray, List.nil_append, List.cons_append]
 obtain ⟨V1, hV1⟩ : ∃ V1, V1 = w.alloc (.cells #[.string (c 0), .string (c 1), .string (c 2), .string (c 3), .string (c 4), .string (c 5), .string (c 6), .string (c 7)] 35) := ⟨_, rfl⟩
 obtain ⟨V2, hV2⟩ : ∃ V2, V2 = V1.alloc (.cells #[.slice none 0 0] 145) := ⟨_, rfl⟩
 have s1 : V1.heap.size = w.heap.size + 1 := by rw [hV1]; simp
 have s2 : V2.heap.size = w.heap.size + 2 := by rw [hV2, World.size_alloc, s1]
 have a1 : ARR V1 w.heap.size 8 35 c := by rw [hV1]; exact ARR.new8
 have i1 : Below w.heap.size w V1 := by rw [hV1]; exact (Below.refl w.heap.size w).alloc (Nat.le_refl _) _
 have i2 : Below V1.heap.size V1 V2 := by rw [hV2]; exact (Below.refl _ V1).alloc (Nat.le_refl _) _
 have f2 : Boxed V2 (w.heap.size + 1) 145 (.slice none 0 0) := by rw [hV2, ← s1]; exact Boxed.new V1 _ _
 have a2 := a1.below i2
 have HOR := Lib.hid (orders_any c V2)
 have H2 := Lib.hid (And.intro a2 (And.intro f2 (And.intro (i1.trans (i2.mono i1.size)) s2)))
 have K := Lib.hid hk
 have c0 := a2.cell (j := 0) (by omega)
 have c1 := a2.cell (j := 1) (by omega)
 have c2 := a2.cell (j := 2) (by omega)
 have c3 := a2.cell (j := 3) (by omega)
 have c4 := a2.cell (j := 4) (by omega)
 have c5 := a2.cell (j := 5) (by omega)
 have c6 := a2.cell (j := 6) (by omega)
 have c7 := a2.cell (j := 7) (by omega)
 clear i1 i2 a1 a2 f2 s1 s2 hk
 subst hV2
 subst hV1
 gi_wp2_with fail
 clear c0 c1 c2 c3 c4 c5 c6 c7
 refine ⟨trivial, (callsIn_wide.2 HOR.out).mono ?_⟩
 rintro e w3 ⟨rfl, hor, hb⟩
 rw [H2.out.2.2.2] at hor
 have HZ := Lib.hid (show w.heap.size + 3 ≤ w3.heap.size from hor.lt)
 have H3 := Lib.hid (And.intro (H2.out.1.below hb) (And.intro ((Ch.below (S := fun _ => False) hb).boxed (fun h => h) H2.out.2.1) (H2.out.2.2.1.trans (hb.mono H2.out.2.2.1.size))))
 have HO := Lib.hid hor
 clear hor hb HOR H2
 gi_wp2_with fail
 refine wpIn_rangeCh (by omega) (gf := 105) (lb := #[.pointer (some ⟨w.heap.size + 2, 0, none⟩)]) rfl (enters_of Tryz.func105 (by kernel_rfl) rfl)
  (fun _ => False) (fun j => j = w.heap.size + 1 ∨ w3.heap.size + 2 ≤ j) (fun k => #[.int .i64 (2 + (k : Int)), .string (c k)]) (fun _ => rfl) 7
  (fun _ W => ARR W (w.heap.size + 2) 7 73 c)
  (fun k W => ∃ v, Boxed W (w.heap.size + 1) 145 v ∧ W.ownsRow (w3.heap.size + 2) 49 2 v k (pcells c k) ∧ ARR W w.heap.size 8 35 c ∧ Below w.heap.size w W ∧ (k ≠ 0 → w3.heap.size + 2 ≤ W.heap.size))
  (fun j hj => hj.elim) ⟨by have := HZ.out; omega, by have := HZ.out; omega⟩
  (fun k W W' h hc => h.ch hc (by have := HZ.out; omega))
  (fun k W W' h hc => by
   have hz := HZ.out
   obtain ⟨v, h1, h2, h3, h4⟩ := h
   obtain ⟨h4, h5⟩ := h4
   exact ⟨v, hc.boxed (fun e => by rcases e with h' | h' | h' <;> (try exact h'.elim) <;> omega) h1, rowH_ch h2 hc (fun j hj e => by rcases e with h' | h' | h' <;> (try exact h'.elim) <;> omega), h3.ch hc (fun e => by rcases e with h' | h' | h' <;> (try exact h'.elim) <;> omega), h4.trans (hc.to_below h4.size (fun j hj => by rcases hj with h' | h' | h' <;> (try exact h'.elim) <;> omega)), fun h => Nat.le_trans (h5 h) hc.size⟩)
  (fun l J W _ hY s0 h0 => (orders_calls (J := fun k W => J k W ∧ ARR W (w.heap.size + 2) 7 73 c) (by omega) (fun k W h hk => hY k W h.1 h.2 hk) W s0 ⟨h0, s0⟩).mono (fun e W' h => ⟨h.1, h.2.1⟩))
  HO.out ⟨_, H3.out.2.1, World.ownsRow_nil _ _ _ _, H3.out.1, H3.out.2.2, fun h => absurd rfl h⟩
  (fun k => { tmps := #[.agg #[.string (c 0), .string (c 1), .string (c 2), .string (c 3), .string (c 4), .string (c 5), .string (c 6), .string (c 7)], .pointer (some ⟨w.heap.size, 0, none⟩), .int .i64 0, .pointer (some ⟨w.heap.size + 1, 0, none⟩), undef, .string (c k), undef, undef, undef, undef, .pointer (some ⟨w.heap.size, 0, none⟩), .agg #[.string (c 0), .string (c 1), .string (c 2), .string (c 3), .string (c 4), .string (c 5), .string (c 6)], .func (.func 105) #[] #[.pointer (some ⟨w.heap.size + 2, 0, none⟩)], .int .i64 (2 + (k : Int)), .string (c k), undef, undef, undef, undef, undef, undef, undef, undef, undef, undef, undef, undef, undef, undef, undef, undef, undef, undef, undef, undef, undef, undef, undef, undef, undef, undef, undef, undef], defers := [] }) ?assign ?body ?done
 case assign =>
  intro l k W K hK
  gi_wp2
  exact hK
 case body =>
  rintro l k W hsW ⟨v, hbx, hrow, ha, hB, _⟩ hk
  have d0 := hbx.cell
  have HY := Lib.hid (And.intro hbx (And.intro hrow (And.intro ha hB)))
  have HSW := Lib.hid hsW
  have HNX := Lib.hid (show pcells c (k + 1) = pcells c k ++ [.string (c k), .string ⟨#[48]⟩] by
   rw [pcells_next]
   unfold pF pD
   rw [if_pos hk, if_pos hk])
  clear hbx hrow ha hB hsW H3 HO
  gi_wp2_with (gi_at_builtin; refine wpListIn_append_own_at _ rfl _ _ 145 rfl (w3.heap.size + 2) 49 i0 (.agg #[.string ⟨#[]⟩, .string ⟨#[]⟩]) 2 32 Tryz.underlying145 hi hz0 hz1 hz2 rfl (by decide) _ _ _ rfl (HY.out.2.1.alloc _) ⟨W.heap.size, 0, none⟩ 1 1 [.string (c k), .string ⟨#[48]⟩] rfl rfl (World.news_of_block (heap_alloc_new _ _)) (fun u hu => by simp at hu; rcases hu with rfl | rfl <;> rfl) ?c3 ?c4 ?c5 ?_)
  case c3 => unfold maxLen; omega
  case c4 => omega
  case c5 => have := HSW.out; simp; omega
  intro v' w6 hown' hgrow _ hblk
  obtain ⟨g', cap', rfl⟩ := ownsRow_succ hown'
  have hv1 := (HY.out.1.alloc (.cells #[.string (c k), .string ⟨#[48]⟩] 49)).kept hgrow (HY.out.1.not_row type_neL HY.out.2.1)
  have d1 := hv1.cell
  have d2 := hv1.frozen
  have HG := Lib.hid (And.intro hown' (And.intro hgrow hv1))
  clear hown' hgrow hblk hv1 d0
  gi_wp2_with fail
  obtain ⟨hown', hgrow, hv1⟩ := HG.out
  obtain ⟨hbx, hrow, ha, hB⟩ := HY.out
  have hz := HZ.out
  have hsw := HSW.out
  have hrl := hrow.lt
  have hch : Ch (fun j => j = w.heap.size + 1 ∨ w3.heap.size + 2 ≤ j) W (w6.setCell ⟨w.heap.size + 1, 0, none⟩ (.slice (some ⟨g', 0, none⟩) (k + 1) cap')) :=
   ((Ch.alloc _ _ _).trans (Ch.grownH hgrow (fun r hr => .inr (hrl r hr).1))).trans (Ch.setCell _ _ _ (.inl rfl))
  refine ⟨hch, _, hv1.set _, ?_, ha.ch hch (by omega), hB.trans (hch.to_below hB.size (fun j hj => by omega)), fun _ => Nat.le_trans hsw hch.size⟩
  rw [HNX.out]
  exact hown'.kept (grownBy_setCell' w6 _ _) (.inr (hv1.not_row type_neL hown').symm)
 case done =>
  rintro W ⟨v, hbx, hrow, ha, hB, hS7⟩ hK
  have d0 := hbx.cell
  have l7 := ha.cell (j := 7) (by omega)
  have HY := Lib.hid (And.intro hbx (And.intro hrow (And.intro hB hK)))
  have HSW := Lib.hid (hS7 (by decide))
  have HNX := Lib.hid (show pcells c 8 = pcells c 7 ++ [.string ⟨#[49]⟩, .string (c 7)] by
   rw [pcells_next]
   rfl)
  clear hbx hrow ha hB hK hS7 H3 HO
  gi_wp2_with (gi_at_builtin; refine wpListIn_append_own_at _ rfl _ _ 145 rfl (w3.heap.size + 2) 49 i0 (.agg #[.string ⟨#[]⟩, .string ⟨#[]⟩]) 2 32 Tryz.underlying145 hi hz0 hz1 hz2 rfl (by decide) _ _ _ rfl (HY.out.2.1.alloc _) ⟨W.heap.size, 0, none⟩ 1 1 [.string ⟨#[49]⟩, .string (c 7)] rfl rfl (World.news_of_block (heap_alloc_new _ _)) (fun u hu => by simp at hu; rcases hu with rfl | rfl <;> rfl) ?c3 ?c4 ?c5 ?_)
  case c3 => unfold maxLen; omega
  case c4 => omega
  case c5 => have := HSW.out; simp; omega
  intro v' w6 hown' hgrow _ _
  obtain ⟨g', cap', hv'⟩ := ownsRow_succ hown'
  replace hv' : v' = .slice (some ⟨g', 0, none⟩) 8 cap' := hv'
  subst hv'
  replace hown' : w6.ownsRow (w3.heap.size + 2) 49 2 (.slice (some ⟨g', 0, none⟩) 8 cap') 8 _ := hown'
  have hv1 := (HY.out.1.alloc (.cells #[.string ⟨#[49]⟩, .string (c 7)] 49)).kept hgrow (HY.out.1.not_row type_neL HY.out.2.1)
  have d1 := hv1.cell
  have d2 := hv1.frozen
  have hrl := HY.out.2.1.lt
  have hch : Ch (fun j => j = w.heap.size + 1 ∨ w3.heap.size + 2 ≤ j) W (w6.setCell ⟨w.heap.size + 1, 0, none⟩ (.slice (some ⟨g', 0, none⟩) 8 cap')) :=
   ((Ch.alloc _ _ _).trans (Ch.grownH hgrow (fun r hr => .inr (hrl r hr).1))).trans (Ch.setCell _ _ _ (.inl rfl))
  have hB6 := HY.out.2.2.1.trans (hch.to_below HY.out.2.2.1.size (fun j hj => by have := HZ.out; omega))
  have hR6 := hown'.kept (grownBy_setCell' w6 (w.heap.size + 1) (.slice (some ⟨g', 0, none⟩) 8 cap')) (.inr (hv1.not_row type_neL hown').symm)
  rw [← HNX.out] at hR6
  have hx6 := hv1.set (.slice (some ⟨g', 0, none⟩) 8 cap')
  have hK6 := (hch.block w3.heap.size (by have := HSW.out; omega) (by have := HZ.out; omega)).trans HY.out.2.2.2
  have HG := Lib.hid (And.intro hR6 (And.intro hB6 hK6))
  have d3 := hx6.cell
  clear hown' hgrow hv1 d0 l7 hch hrl hR6 hB6 hK6 hx6 HY HNX HSW
  gi_wp2_with fail
  gi_loopw [6, 28] (fun fv iv wr => ∃ j : Nat, j ≤ 8 ∧ fv = .int .i64 0 ∧ iv = .int .i64 (j : Int) ∧ wr.ownsRow (w3.heap.size + 2) 49 2 (.slice (some ⟨g', 0, none⟩) 8 cap') 8 (pcells c 8) ∧ Below w.heap.size w wr ∧ wr.heap[w3.heap.size]? = some (.deferred (some []))) (fun _ iv _ => 8 - (intOf iv).toNat)
  case atStart => exact ⟨0, by omega, rfl, rfl, HG.out⟩
  case round =>
   obtain ⟨j, hj, rfl, rfl, hrow, hB, hK⟩ := hrel
   clear d1 d2 d3 HG
   by_cases hlt : j < 8
   ·have e0 := hrow.cells (g := g') rfl _ _ (pcells_get c hlt).1
    have e1 := hrow.cells (g := g') rfl _ _ (pcells_get c hlt).2
    rw [Addr.add_lit, Nat.zero_add] at e0 e1
    have hz := HZ.out
    have hlt3 := (Array.getElem?_eq_some_iff.1 hK).1
    have HB1 := Lib.hid (hB.alloc hB.size (.cells #[.string (pF c j), .string (pD c j)] 49))
    have HR1 := Lib.hid (hrow.alloc (.cells #[.string (pF c j), .string (pD c j)] 49))
    have HK1 := Lib.hid ((((Below.refl wr.heap.size wr).alloc (Nat.le_refl _) (.cells #[.string (pF c j), .string (pD c j)] 49)).block _ hlt3).trans hK)
    have HKC := Lib.hid (K.out j hlt _ HB1.out)
    have hjl : (j : Int) < 8 := by omega
    clear hrow hB hK hlt3
    gi_wp2_with fail
    refine ⟨trivial, (callsIn_wide.2 HKC.out).mono ?_⟩
    rintro e w7 ⟨rfl, hb⟩
    have HB2 := Lib.hid (HB1.out.trans (hb.mono HB1.out.size))
    have HR2 := Lib.hid (rowH_ch HR1.out (Ch.below (S := fun _ => False) hb) (fun _ _ h => h))
    have HK2 := Lib.hid ((hb.block _ (Array.getElem?_eq_some_iff.1 HK1.out).1).trans HK1.out)
    clear hb HKC HB1 HR1 HK1 e0 e1
    gi_wp2_with fail
    go_roundw
    case rel => exact ⟨j + 1, by omega, rfl, by go_num, HR2.out, HB2.out, HK2.out⟩
    case measure => simp [intOf]; omega
   ·obtain rfl : j = 8 := by omega
    have HK1 := Lib.hid hK
    have HB1 := Lib.hid hB
    clear hrow hB hK
    gi_wp2_with fail
    refine ⟨by simp, .inl ⟨_, _, rfl, run_takeDeferred HK1.out, ?_⟩⟩
    refine ⟨_, by simp [results, Tryz.results80], rfl, ?_⟩
    exact HB1.out.trans ((Ch.putObj (fun j => j = w3.heap.size) _ (.deferred none) rfl).to_below HB1.out.size (fun j hj => by have := HZ.out; omega))
end

section
open Go.RowKit NV Go.Shelf
open Go.Lib (decDigits)
set_option maxHeartbeats 3200000 in
set_option maxRecDepth 100000 in
theorem mBoth_ok {a b : Nat → ByteArray} {w : World} (k1 : ∀ W, Below w.heap.size w W → Calls Tryz.prog 80 #[.agg #[.string (a 0), .string (a 1), .string (a 2), .string (a 3), .string (a 4), .string (a 5), .string (a 6), .string (a 7)]] W (Er 0 W)) (k2 : ∀ W, Below w.heap.size w W → Calls Tryz.prog 80 #[.agg #[.string (b 0), .string (b 1), .string (b 2), .string (b 3), .string (b 4), .string (b 5), .string (b 6), .string (b 7)]] W (Er 0 W)) :
  Calls Tryz.prog 38 #[.agg #[.string (a 0), .string (a 1), .string (a 2), .string (a 3), .string (a 4), .string (a 5), .string (a 6), .string (a 7)], .agg #[.string (b 0), .string (b 1), .string (b 2), .string (b 3), .string (b 4), .string (b 5), .string (b 6), .string (b 7)]] w (Er 0 w) := by
 have K1 := Lib.hid k1
 have K2 := Lib.hid k2
 obtain ⟨V1, hV1⟩ : ∃ V1, V1 = w.alloc (.cells #[.string (a 0), .string (a 1), .string (a 2), .string (a 3), .string (a 4), .string (a 5), .string (a 6), .string (a 7)] 35) := ⟨_, rfl⟩
 obtain ⟨V2, hV2⟩ : ∃ V2, V2 = V1.alloc (.cells #[.string (b 0), .string (b 1), .string (b 2), .string (b 3), .string (b 4), .string (b 5), .string (b 6), .string (b 7)] 35) := ⟨_, rfl⟩
 have s1 : V1.heap.size = w.heap.size + 1 := by rw [hV1]; simp
 have a1 : ARR V1 w.heap.size 8 35 a := by rw [hV1]; exact ARR.new8
 have a2 : ARR V2 (w.heap.size + 1) 8 35 b := by rw [hV2, ← s1]; exact ARR.new8
 have i1 : Below w.heap.size w V1 := by rw [hV1]; exact (Below.refl w.heap.size w).alloc (Nat.le_refl _) _
 have i2 : Below V1.heap.size V1 V2 := by rw [hV2]; exact (Below.refl _ V1).alloc (Nat.le_refl _) _
 have HB := Lib.hid (i1.trans (i2.mono i1.size))
 have HA := Lib.hid (And.intro (a1.below i2) a2)
 clear i1 i2 a1 a2 s1 k1 k2
 subst hV2
 subst hV1
 have p0 := HA.out.1.cell (j := 0) (by omega)
 have p1 := HA.out.1.cell (j := 1) (by omega)
 have p2 := HA.out.1.cell (j := 2) (by omega)
 have p3 := HA.out.1.cell (j := 3) (by omega)
 have p4 := HA.out.1.cell (j := 4) (by omega)
 have p5 := HA.out.1.cell (j := 5) (by omega)
 have p6 := HA.out.1.cell (j := 6) (by omega)
 have p7 := HA.out.1.cell (j := 7) (by omega)
 have q0 := HA.out.2.cell (j := 0) (by omega)
 have q1 := HA.out.2.cell (j := 1) (by omega)
 have q2 := HA.out.2.cell (j := 2) (by omega)
 have q3 := HA.out.2.cell (j := 3) (by omega)
 have q4 := HA.out.2.cell (j := 4) (by omega)
 have q5 := HA.out.2.cell (j := 5) (by omega)
 have q6 := HA.out.2.cell (j := 6) (by omega)
 have q7 := HA.out.2.cell (j := 7) (by omega)
 go_enter Tryz.func38, Tryz.ntmps38
 go_wp2_with fail
 refine (K1.out _ HB.out).mono ?_
 rintro e w1 ⟨rfl, hb⟩
 have HB1 := Lib.hid (HB.out.trans (hb.mono HB.out.size))
 have a2 := HA.out.2.below hb
 clear hb HB K1 HA p0 q0 p1 q1 p2 q2 p3 q3 p4 q4 p5 q5 p6 q6 p7 q7
 have q0 := a2.cell (j := 0) (by omega)
 have q1 := a2.cell (j := 1) (by omega)
 have q2 := a2.cell (j := 2) (by omega)
 have q3 := a2.cell (j := 3) (by omega)
 have q4 := a2.cell (j := 4) (by omega)
 have q5 := a2.cell (j := 5) (by omega)
 have q6 := a2.cell (j := 6) (by omega)
 have q7 := a2.cell (j := 7) (by omega)
 clear a2
 go_wp2_with fail
 refine (K2.out _ HB1.out).mono ?_
 rintro e w2 ⟨rfl, hb⟩
 have HB2 := Lib.hid (HB1.out.trans (hb.mono HB1.out.size))
 clear hb HB1 K2 q0 q1 q2 q3 q4 q5 q6 q7
 go_wp2_with fail
 go_ret
 exact ⟨rfl, HB2.out⟩
set_option maxHeartbeats 3200000 in
set_option maxRecDepth 100000 in
theorem mCheckTo_ok {c : Nat → ByteArray} {f : ByteArray} {k : Nat} {w : World} (hk : k < 7) (k1 : ∀ W, Below w.heap.size w W → Calls Tryz.prog 80 #[.agg #[.string (c 0), .string (c 1), .string (c 2), .string (c 3), .string (c 4), .string (c 5), .string (c 6), .string (c 7)]] W (Er 0 W)) (k2 : ∀ W, Below w.heap.size w W → Calls Tryz.prog 25 #[.agg #[.string f, .string ⟨#[48]⟩]] W (Er 0 W)) :
  Calls Tryz.prog 43 #[.agg #[.string (c 0), .string (c 1), .string (c 2), .string (c 3), .string (c 4), .string (c 5), .string (c 6), .string (c 7)], .int .i64 (2 + (k : Int)), .string f] w (Er 0 w) := by
 have K1 := Lib.hid k1
 have K2 := Lib.hid k2
 have a1 : ARR (w.alloc (.cells #[.string (c 0), .string (c 1), .string (c 2), .string (c 3), .string (c 4), .string (c 5), .string (c 6), .string (c 7)] 35)) w.heap.size 8 35 c := ARR.new8
 have HB := Lib.hid ((Below.refl w.heap.size w).alloc (Nat.le_refl _) (.cells #[.string (c 0), .string (c 1), .string (c 2), .string (c 3), .string (c 4), .string (c 5), .string (c 6), .string (c 7)] 35))
 have p0 := a1.cell (j := 0) (by omega)
 have p1 := a1.cell (j := 1) (by omega)
 have p2 := a1.cell (j := 2) (by omega)
 have p3 := a1.cell (j := 3) (by omega)
 have p4 := a1.cell (j := 4) (by omega)
 have p5 := a1.cell (j := 5) (by omega)
 have p6 := a1.cell (j := 6) (by omega)
 have p7 := a1.cell (j := 7) (by omega)
 have h2 : ¬ (2 + (k : Int)) < 2 := by omega
 have h8 : ¬ 8 < (2 + (k : Int)) := by omega
 clear a1 k1 k2
 go_enter Tryz.func43, Tryz.ntmps43
 go_wp2_with fail
 refine (K1.out _ HB.out).mono ?_
 rintro e w1 ⟨rfl, hb⟩
 have HB1 := Lib.hid (HB.out.trans (hb.mono HB.out.size))
 clear hb HB K1 p0 p1 p2 p3 p4 p5 p6 p7
 go_wp2_with fail
 refine (K2.out _ HB1.out).mono ?_
 rintro e w2 ⟨rfl, hb⟩
 have HB2 := Lib.hid (HB1.out.trans (hb.mono HB1.out.size))
 clear hb HB1 K2
 go_wp2_with fail
 go_ret
 exact ⟨rfl, HB2.out⟩
set_option maxHeartbeats 1600000 in
set_option maxRecDepth 100000 in
theorem unlessL_ok (f d : ByteArray) (w : World) : Calls Tryz.prog 86 #[.int .i64 0, .agg #[.string f, .string d]] w (Rl f d w) := by
 have r1 : RB w (w.alloc (.cells #[.string f, .string d] 49)) w.heap.size f d := RB.new (Nat.le_refl _)
 have i1 := (Below.refl w.heap.size w).alloc (Nat.le_refl _) (.cells #[.string f, .string d] 49)
 have i2 := (Below.refl (w.alloc (.cells #[.string f, .string d] 49)).heap.size (w.alloc (.cells #[.string f, .string d] 49))).alloc (Nat.le_refl _) (.cells #[.string f, .string d] 49)
 have q1 := r1.below i2
 have q2 : RB w ((w.alloc (.cells #[.string f, .string d] 49)).alloc (.cells #[.string f, .string d] 49)) (w.heap.size + 1) f d := by
  have h := RB.new (w := w) (W := w.alloc (.cells #[.string f, .string d] 49)) (s := f) (t := d) (ty := 49) (by simp)
  simpa using h
 have r0 := r1.below ((Below.refl (w.alloc (.cells #[.string f, .string d] 49)).heap.size (w.alloc (.cells #[.string f, .string d] 49))).alloc (Nat.le_refl _) (.cells #[.string ⟨#[]⟩, .string ⟨#[]⟩] 49))
 have c0 := r0.c0
 have c1 := r0.c1
 have HX := Lib.hid (And.intro q2.c0 (And.intro q2.c1 (i1.trans (i2.mono i1.size))))
 clear r1 i1 i2 q1 q2 r0
 go_enter Tryz.func86, Tryz.ntmps86
 go_wp2_with fail
 refine bodyPost_ret (v := .tuple #[.agg #[.string f, .string d], .int .i64 0]) (by have h0 := HX.out.1; have h1 := HX.out.2.1; simp [results, Tryz.results86, go_sem, h0, h1]) rfl ?_
 exact ⟨rfl, HX.out.2.2⟩
set_option maxHeartbeats 12800000 in
set_option maxRecDepth 100000 in
theorem lossBy_ok {c : Nat → ByteArray} {f pw i1 i2 s1 s2 wt e1 e2 sf l1 su m : ByteArray} {k : Nat} {w : World} (hk : k < 7)
  (p1 : ∀ W, Below w.heap.size w W → Calls Tryz.prog 30 #[.string f, .int .i64 (2 + (k : Int) - 1)] W fun e w' => e = .returned (.tuple #[.string pw, .int .i64 0]) ∧ Below W.heap.size W w')
  (pi : ∀ W, Below w.heap.size w W → Calls Tryz.prog 109 #[.int .i64 (2 + (k : Int) - 1)] W fun e w' => e = .returned (.string i1) ∧ Below W.heap.size W w')
  (pj : ∀ W, Below w.heap.size w W → Calls Tryz.prog 109 #[.int .i64 (2 + (k : Int))] W fun e w' => e = .returned (.string i2) ∧ Below W.heap.size W w')
  (p2 : ∀ W, Below w.heap.size w W → Calls Tryz.prog 30 #[.string i1, .int .i64 (2 + (k : Int) - 1)] W fun e w' => e = .returned (.tuple #[.string s1, .int .i64 0]) ∧ Below W.heap.size W w')
  (p3 : ∀ W, Below w.heap.size w W → Calls Tryz.prog 30 #[.string i2, .int .i64 (2 + (k : Int))] W fun e w' => e = .returned (.tuple #[.string s2, .int .i64 0]) ∧ Below W.heap.size W w')
  (p4 : ∀ W, Below w.heap.size w W → Calls Tryz.prog 31 #[.string s1, .string s2] W fun e w' => e = .returned (.tuple #[.string wt, .int .i64 0]) ∧ Below W.heap.size W w')
  (p5 : ∀ W, Below w.heap.size w W → Calls Tryz.prog 84 #[.string (c k), .string wt] W fun e w' => e = .returned (.tuple #[.string e1, .int .i64 0]) ∧ Below W.heap.size W w')
  (p6 : ∀ W, Below w.heap.size w W → Calls Tryz.prog 31 #[.string e1, .string pw] W fun e w' => e = .returned (.tuple #[.string e2, .int .i64 0]) ∧ Below W.heap.size W w')
  (p7 : ∀ W, Below w.heap.size w W → Calls Tryz.prog 27 #[.string f, .string ⟨#[49]⟩] W fun e w' => e = .returned (.tuple #[.string sf, .int .i64 0]) ∧ Below W.heap.size W w')
  (p8 : ∀ W, Below w.heap.size w W → Calls Tryz.prog 84 #[.string sf, .string (c 7)] W fun e w' => e = .returned (.tuple #[.string l1, .int .i64 0]) ∧ Below W.heap.size W w')
  (p9 : ∀ W, Below w.heap.size w W → Calls Tryz.prog 27 #[.string e2, .string l1] W fun e w' => e = .returned (.tuple #[.string su, .int .i64 0]) ∧ Below W.heap.size W w')
  (pa : ∀ W, Below w.heap.size w W → Calls Tryz.prog 111 #[.string su, .string ⟨#[49]⟩] W fun e w' => e = .returned (.tuple #[.string m, .int .i64 0]) ∧ Below W.heap.size W w') :
  Calls Tryz.prog 44 #[.agg #[.string (c 0), .string (c 1), .string (c 2), .string (c 3), .string (c 4), .string (c 5), .string (c 6), .string (c 7)], .int .i64 (2 + (k : Int)), .string f] w (Rl f m w) := by
 have P1 := Lib.hid p1
 have PI := Lib.hid pi
 have PJ := Lib.hid pj
 have P2 := Lib.hid p2
 have P3 := Lib.hid p3
 have P4 := Lib.hid p4
 have P5 := Lib.hid p5
 have P6 := Lib.hid p6
 have P7 := Lib.hid p7
 have P8 := Lib.hid p8
 have P9 := Lib.hid p9
 have PA := Lib.hid pa
 clear p1 pi pj p2 p3 p4 p5 p6 p7 p8 p9 pa
 obtain ⟨V1, hV1⟩ : ∃ V1, V1 = w.alloc (.cells #[.string (c 0), .string (c 1), .string (c 2), .string (c 3), .string (c 4), .string (c 5), .string (c 6), .string (c 7)] 35) := ⟨_, rfl⟩
 obtain ⟨V2, hV2⟩ : ∃ V2, V2 = V1.alloc (.cells #[.string ⟨#[]⟩, .string ⟨#[]⟩] 49) := ⟨_, rfl⟩
 obtain ⟨v, hv⟩ : ∃ v, v = V2.alloc (.cells #[.int .i64 0] 71) := ⟨_, rfl⟩
 have z1 : V1.heap.size = w.heap.size + 1 := by rw [hV1]; simp
 have z2 : V2.heap.size = w.heap.size + 2 := by rw [hV2, World.size_alloc, z1]
 have a1 : ARR V1 w.heap.size 8 35 c := by rw [hV1]; exact ARR.new8
 have r2 : RB w V2 (w.heap.size + 1) ⟨#[]⟩ ⟨#[]⟩ := by rw [hV2, ← z1]; exact RB.new (by omega)
 have so : SO v (w.heap.size + 2) := by rw [hv, ← z2]; exact SO.new
 have j1 : Below w.heap.size w V1 := by rw [hV1]; exact (Below.refl w.heap.size w).alloc (Nat.le_refl _) _
 have j2 : Below V1.heap.size V1 V2 := by rw [hV2]; exact (Below.refl _ V1).alloc (Nat.le_refl _) _
 have j3 : Below V2.heap.size V2 v := by rw [hv]; exact (Below.refl _ V2).alloc (Nat.le_refl _) _
 have HBV := Lib.hid (j1.trans ((j2.trans (j3.mono j2.size)).mono j1.size))
 have HV := Lib.hid (And.intro ((a1.below j2).below j3) (r2.below j3))
 have HI := Lib.hid (show IV v (w.heap.size + 2) v from ⟨so, Ch.refl _ _⟩)
 have HE := Lib.hid (fun W (h : IV v (w.heap.size + 2) W) => h.bel HBV.out (show w.heap.size ≤ w.heap.size + 2 by omega))
 have hk7 : (k : Int) < 7 := by omega
 clear a1 r2 so j1 j2 j3 z1 z2
 subst hv
 subst hV2
 subst hV1
 go_enter Tryz.func44, Tryz.ntmps44
 go_wp2_with fail
 refine (P1.out _ (HE.out _ HI.out)).mono ?_
 rintro e w1 ⟨rfl, hb⟩
 have HI1 := Lib.hid (HI.out.below hb)
 clear hb HI P1
 go_wp2_with fail
 refine (next_ok (HI1.out).so).mono ?_
 rintro e w2 ⟨rfl, hc, hs⟩
 have HI2 := Lib.hid (HI1.out.step hc hs)
 clear hc hs HI1
 go_wp2_with fail
 refine (self_ok (y := s1) (HI2.out).so (PI.out _ (HE.out _ (HI2.out))) (fun V hV => by have hV0 := HE.out _ (HI2.out); exact P2.out V (hV0.trans (hV.mono hV0.size)))).mono ?_
 rintro e w3 ⟨rfl, hc, hs⟩
 have HI3 := Lib.hid (HI2.out.step hc hs)
 clear hc hs HI2
 go_wp2_with fail
 refine (self_ok (y := s2) (HI3.out).so (PJ.out _ (HE.out _ (HI3.out))) (fun V hV => by have hV0 := HE.out _ (HI3.out); exact P3.out V (hV0.trans (hV.mono hV0.size)))).mono ?_
 rintro e w4 ⟨rfl, hc, hs⟩
 have HI4 := Lib.hid (HI3.out.step hc hs)
 clear hc hs HI3
 go_wp2_with fail
 refine (P4.out _ (HE.out _ HI4.out)).mono ?_
 rintro e w5 ⟨rfl, hb⟩
 have HI5 := Lib.hid (HI4.out.below hb)
 clear hb HI4 P4
 go_wp2_with fail
 refine (next_ok (HI5.out).so).mono ?_
 rintro e w6 ⟨rfl, hc, hs⟩
 have HI6 := Lib.hid (HI5.out.step hc hs)
 clear hc hs HI5
 have ha := HI6.out.arr HV.out.1 (by omega)
 have c0 := ha.cell (j := 0) (by omega)
 have c1 := ha.cell (j := 1) (by omega)
 have c2 := ha.cell (j := 2) (by omega)
 have c3 := ha.cell (j := 3) (by omega)
 have c4 := ha.cell (j := 4) (by omega)
 have c5 := ha.cell (j := 5) (by omega)
 have c6 := ha.cell (j := 6) (by omega)
 clear ha
 go_wp2_with fail
 refine (bof_any c hk _).mono ?_
 rintro e w7 ⟨rfl, hb⟩
 have HI7 := Lib.hid (HI6.out.below hb)
 clear hb HI6 c0 c1 c2 c3 c4 c5 c6
 go_wp2_with fail
 refine (P5.out _ (HE.out _ HI7.out)).mono ?_
 rintro e w8 ⟨rfl, hb⟩
 have HI8 := Lib.hid (HI7.out.below hb)
 clear hb HI7 P5
 go_wp2_with fail
 refine (next_ok (HI8.out).so).mono ?_
 rintro e w9 ⟨rfl, hc, hs⟩
 have HI9 := Lib.hid (HI8.out.step hc hs)
 clear hc hs HI8
 go_wp2_with fail
 refine (P6.out _ (HE.out _ HI9.out)).mono ?_
 rintro e w10 ⟨rfl, hb⟩
 have HI10 := Lib.hid (HI9.out.below hb)
 clear hb HI9 P6
 go_wp2_with fail
 refine (next_ok (HI10.out).so).mono ?_
 rintro e w11 ⟨rfl, hc, hs⟩
 have HI11 := Lib.hid (HI10.out.step hc hs)
 clear hc hs HI10
 go_wp2_with fail
 refine wp_world (Below.refl w11.heap.size w11) (fun wx hbx => ?_)
 have HJ := Lib.hid (HI11.out.below hbx)
 have HLD := Lib.hid (show ∀ W, Ch (fun j => j = w.heap.size + 2) wx W → W.cell? ⟨w.heap.size, 7, none⟩ = some (.string (c 7)) from fun W h => ((HJ.out.arr HV.out.1 (by omega)).ch h (by omega)).cell (j := 7) (by omega))
 clear hbx HI11
 refine wp_region_held (S := fun W => Ch (fun j => j = w.heap.size + 2) wx W) (by kernel_rfl) ?_
 change wpAnyH _ _ _ _ _ 12 _ _ wx.drew
 have hB0 := (Below.refl wx.heap.size wx).drew
 have hD0 : Ch (fun j => j = w.heap.size + 2) wx wx.drew := Ch.below hB0
 generalize wx.drew = W at *
 have hI := HJ.out.below hB0
 clear hB0 HJ
 refine wpHz_take (i := 0) (d := 44) (v := .string f) rfl rfl (by kernel_rfl) (by kernel_rfl) (by kernel_rfl) (fun _ _ _ h => h) rfl (fun W _ => by go_simp) hD0 ?_
 simp only [Act.put, sA, sB, sC]
 refine wpHz_take (i := 5) (d := 49) (v := .pointer (some ⟨w.heap.size, 7, none⟩)) rfl rfl (by kernel_rfl) (by kernel_rfl) (by kernel_rfl) (fun _ _ _ h => h) rfl (fun W _ => by go_simp) hD0 ?_
 simp only [Act.put, sA, sB, sC]
 refine wpHz_take (i := 6) (d := 50) (v := .string (c 7)) rfl rfl (by kernel_rfl) (by kernel_rfl) (by kernel_rfl) (fun _ _ _ h => h) rfl (fun W hW => by have e0 := HLD.out W hW; go_simp) hD0 ?_
 simp only [Act.put, sA, sB, sC]
 refine wpHz_one (i := 1) (by kernel_rfl) ?_
 refine wpOz_run rfl rfl (wpz_enter (d := 45) rfl (by go_simp) ((P7.out _ (HE.out _ hI)).mono ?_))
 rintro e y1 ⟨rfl, hb⟩
 have hD1 : Ch (fun j => j = w.heap.size + 2) wx y1 := hD0.trans (Ch.below hb)
 have hI := hI.below hb
 clear hb
 refine ⟨_, rfl, hD1, ?_⟩
 simp only [Act.put, sA, sB, sC]
 refine wpHz_take (i := 2) (d := 46) (v := .string sf) rfl rfl (by kernel_rfl) (by kernel_rfl) (by kernel_rfl) (fun _ _ _ h => h) rfl (fun W _ => by go_simp) hD1 ?_
 simp only [Act.put, sA, sB, sC]
 refine wpHz_take (i := 3) (d := 47) (v := .int .i64 0) rfl rfl (by kernel_rfl) (by kernel_rfl) (by kernel_rfl) (fun _ _ _ h => h) rfl (fun W _ => by go_simp) hD1 ?_
 simp only [Act.put, sA, sB, sC]
 refine wpHz_one (i := 4) (by kernel_rfl) ?_
 refine wpOz_run rfl rfl (wpz_enter (d := 48) rfl (by go_simp) ((next_ok (x := sf) hI.so).mono ?_))
 rintro e y2 ⟨rfl, hc, hs⟩
 have hD2 : Ch (fun j => j = w.heap.size + 2) wx y2 := hD1.trans hc
 have hI := hI.step hc hs
 clear hc hs
 refine ⟨_, rfl, hD2, ?_⟩
 simp only [Act.put, sA, sB, sC]
 refine wpHz_one (i := 7) (by kernel_rfl) ?_
 refine wpOz_run rfl rfl (wpz_enter (d := 51) rfl (by go_simp) ((P8.out _ (HE.out _ hI)).mono ?_))
 rintro e y3 ⟨rfl, hb⟩
 have hD3 : Ch (fun j => j = w.heap.size + 2) wx y3 := hD2.trans (Ch.below hb)
 have hI := hI.below hb
 clear hb
 refine ⟨_, rfl, hD3, ?_⟩
 simp only [Act.put, sA, sB, sC]
 refine wpHz_take (i := 8) (d := 52) (v := .string l1) rfl rfl (by kernel_rfl) (by kernel_rfl) (by kernel_rfl) (fun _ _ _ h => h) rfl (fun W _ => by go_simp) hD3 ?_
 simp only [Act.put, sA, sB, sC]
 refine wpHz_take (i := 9) (d := 53) (v := .int .i64 0) rfl rfl (by kernel_rfl) (by kernel_rfl) (by kernel_rfl) (fun _ _ _ h => h) rfl (fun W _ => by go_simp) hD3 ?_
 simp only [Act.put, sA, sB, sC]
 refine wpHz_one (i := 10) (by kernel_rfl) ?_
 refine wpOz_run rfl rfl (wpz_enter (d := 54) rfl (by go_simp) ((next_ok (x := l1) hI.so).mono ?_))
 rintro e y4 ⟨rfl, hc, hs⟩
 have hD4 : Ch (fun j => j = w.heap.size + 2) wx y4 := hD3.trans hc
 have hI := hI.step hc hs
 clear hc hs
 refine ⟨_, rfl, hD4, ?_⟩
 simp only [Act.put, sA, sB, sC]
 refine wpHz_take (i := 11) (d := 12) (v := .string l1) rfl rfl (by kernel_rfl) (by kernel_rfl) (by kernel_rfl) (fun _ _ _ h => h) rfl (fun W _ => by go_simp) hD4 ?_
 simp only [Act.put, sA, sB, sC]
 refine wpAnyH_done (by kernel_rfl) ?_ _
 have HJ := Lib.hid hI
 clear hI hD0 hD1 hD2 hD3 hD4 HLD P7 P8
 go_wp2_with fail
 refine (P9.out _ (HE.out _ HJ.out)).mono ?_
 rintro e w12 ⟨rfl, hb⟩
 have HI12 := Lib.hid (HJ.out.below hb)
 clear hb HJ P9
 go_wp2_with fail
 refine (atMost_ok (x := su) (m := m) (HI12.out).so (fun V hV => by have hV0 := HE.out _ (HI12.out); exact PA.out V (hV0.trans (hV.to_below hV0.size (fun j hj => by omega))))).mono ?_
 rintro e w13 ⟨rfl, hc, hs⟩
 have HI13 := Lib.hid (HI12.out.step hc hs)
 clear hc hs HI12
 have f0 := HI13.out.so.c
 have HU := Lib.hid (fun W => unlessL_ok f m W)
 clear PA
 go_wp2_with fail
 refine (HU.out _).mono ?_
 rintro e w99 ⟨rfl, hb⟩
 have hi5 := HI13.out.below hb
 have hq := HV.out.2
 have hq5 : RB w w99 (w.heap.size + 1) ⟨#[]⟩ ⟨#[]⟩ := by
  have hlt := hq.lt
  have h := hi5.ch
  have hb5 := h.block (w.heap.size + 1) hlt (by omega)
  exact ⟨Nat.lt_of_lt_of_le hlt h.size, hq.ge, (World.cell?_of_block (a := ⟨w.heap.size + 1, 0, none⟩) hb5).trans hq.c0, (World.cell?_of_block (a := ⟨w.heap.size + 1, 1, none⟩) hb5).trans hq.c1, (World.frozen?_of_block (a := ⟨w.heap.size + 1, 0, none⟩) hb5).trans hq.z0, (World.frozen?_of_block (a := ⟨w.heap.size + 1, 1, none⟩) hb5).trans hq.z1⟩
 have HX := Lib.hid (((HE.out _ hi5).setCell (p := ⟨w.heap.size + 1, 0, none⟩) (by show w.heap.size ≤ w.heap.size + 1; omega) (.string f)).setCell (p := ⟨w.heap.size + 1, 1, none⟩) (by show w.heap.size ≤ w.heap.size + 1; omega) (.string m))
 obtain ⟨_, _, d0, d1, z0, z1⟩ := hq5
 clear hb hi5 hq f0 HU HI13 HE
 go_wp2_with fail
 refine bodyPost_ret (v := .tuple #[.agg #[.string f, .string m], .int .i64 0]) (by simp [results, Tryz.results44, go_sem, d0, d1]) rfl ?_
 exact ⟨rfl, HX.out⟩
end

section
open Go.RowKit NV Go.Shelf
open Go.Lib (decDigits)
set_option maxHeartbeats 3200000 in
set_option maxRecDepth 100000 in
theorem mTo_ok {c : Nat → ByteArray} {f m : ByteArray} {k : Nat} {w : World} (k1 : ∀ W, Below w.heap.size w W → Calls Tryz.prog 43 #[.agg #[.string (c 0), .string (c 1), .string (c 2), .string (c 3), .string (c 4), .string (c 5), .string (c 6), .string (c 7)], .int .i64 (2 + (k : Int)), .string f] W (Er 0 W)) (k2 : ∀ W, Below w.heap.size w W → Calls Tryz.prog 44 #[.agg #[.string (c 0), .string (c 1), .string (c 2), .string (c 3), .string (c 4), .string (c 5), .string (c 6), .string (c 7)], .int .i64 (2 + (k : Int)), .string f] W (Rl f m W)) :
  Calls Tryz.prog 15 #[.agg #[.string (c 0), .string (c 1), .string (c 2), .string (c 3), .string (c 4), .string (c 5), .string (c 6), .string (c 7)], .int .i64 (2 + (k : Int)), .string f] w (Rl f m w) := by
 have K1 := Lib.hid k1
 have K2 := Lib.hid k2
 obtain ⟨V1, hV1⟩ : ∃ V1, V1 = w.alloc (.cells #[.string (c 0), .string (c 1), .string (c 2), .string (c 3), .string (c 4), .string (c 5), .string (c 6), .string (c 7)] 35) := ⟨_, rfl⟩
 obtain ⟨V2, hV2⟩ : ∃ V2, V2 = V1.alloc (.cells #[.string ⟨#[]⟩, .string ⟨#[]⟩] 49) := ⟨_, rfl⟩
 have s1 : V1.heap.size = w.heap.size + 1 := by rw [hV1]; simp
 have a1 : ARR V1 w.heap.size 8 35 c := by rw [hV1]; exact ARR.new8
 have r2 : RB w V2 (w.heap.size + 1) ⟨#[]⟩ ⟨#[]⟩ := by rw [hV2, ← s1]; exact RB.new (by omega)
 have i1 : Below w.heap.size w V1 := by rw [hV1]; exact (Below.refl w.heap.size w).alloc (Nat.le_refl _) _
 have i2 : Below V1.heap.size V1 V2 := by rw [hV2]; exact (Below.refl _ V1).alloc (Nat.le_refl _) _
 have HB := Lib.hid (i1.trans (i2.mono i1.size))
 have HA := Lib.hid (And.intro (a1.below i2) r2)
 clear i1 i2 a1 r2 s1 k1 k2
 subst hV2
 subst hV1
 have p0 := HA.out.1.cell (j := 0) (by omega)
 have p1 := HA.out.1.cell (j := 1) (by omega)
 have p2 := HA.out.1.cell (j := 2) (by omega)
 have p3 := HA.out.1.cell (j := 3) (by omega)
 have p4 := HA.out.1.cell (j := 4) (by omega)
 have p5 := HA.out.1.cell (j := 5) (by omega)
 have p6 := HA.out.1.cell (j := 6) (by omega)
 have p7 := HA.out.1.cell (j := 7) (by omega)
 go_enter Tryz.func15, Tryz.ntmps15
 go_wp2_with fail
 refine (K1.out _ HB.out).mono ?_
 rintro e w1 ⟨rfl, hb⟩
 have HB1 := Lib.hid (HB.out.trans (hb.mono HB.out.size))
 have a2 := HA.out.1.below hb
 have HR := Lib.hid (HA.out.2.below hb)
 clear hb HB K1 HA p0 p1 p2 p3 p4 p5 p6 p7
 have p0 := a2.cell (j := 0) (by omega)
 have p1 := a2.cell (j := 1) (by omega)
 have p2 := a2.cell (j := 2) (by omega)
 have p3 := a2.cell (j := 3) (by omega)
 have p4 := a2.cell (j := 4) (by omega)
 have p5 := a2.cell (j := 5) (by omega)
 have p6 := a2.cell (j := 6) (by omega)
 have p7 := a2.cell (j := 7) (by omega)
 clear a2
 go_wp2_with fail
 refine (K2.out _ HB1.out).mono ?_
 rintro e w2 ⟨rfl, hb⟩
 have HB2 := Lib.hid (HB1.out.trans (hb.mono HB1.out.size))
 obtain ⟨_, _, d0, d1, z0, z1⟩ := HR.out.below hb
 clear hb HB1 K2 HR p0 p1 p2 p3 p4 p5 p6 p7
 go_wp2_with fail
 refine bodyPost_ret (v := .tuple #[.agg #[.string f, .string m], .int .i64 0]) (by simp [results, Tryz.results15, go_sem, d0, d1]) rfl ?_
 exact ⟨rfl, (HB2.out.setCell (p := ⟨w.heap.size + 1, 0, none⟩) (by show w.heap.size ≤ w.heap.size + 1; omega) _).setCell (p := ⟨w.heap.size + 1, 1, none⟩) (by show w.heap.size ≤ w.heap.size + 1; omega) _⟩
set_option maxHeartbeats 6400000 in
set_option maxRecDepth 100000 in
theorem of1_ok {k bs bf bw : Nat} {x f wh t1 t2 t3 t4 : ByteArray} {W : World} (h : SO W bs) (hf : Boxed W bf 23 (.string f)) (hw : Boxed W bw 23 (.string wh)) (nf : bf ≠ bs) (nw : bw ≠ bs) (hk : k < 7)
  (p1 : ∀ V, Ch (fun j => j = bs) W V → Calls Tryz.prog 30 #[.string f, .int .i64 (2 + (k : Int))] V fun e w' => e = .returned (.tuple #[.string t1, .int .i64 0]) ∧ Below V.heap.size V w')
  (p2 : ∀ V, Ch (fun j => j = bs) W V → Calls Tryz.prog 30 #[.string f, .int .i64 (1 - (2 + (k : Int)))] V fun e w' => e = .returned (.tuple #[.string t2, .int .i64 0]) ∧ Below V.heap.size V w')
  (p3 : ∀ V, Ch (fun j => j = bs) W V → Calls Tryz.prog 27 #[.string t1, .string t2] V fun e w' => e = .returned (.tuple #[.string t3, .int .i64 0]) ∧ Below V.heap.size V w')
  (p4 : ∀ V, Ch (fun j => j = bs) W V → Calls Tryz.prog 31 #[.string t3, .string wh] V fun e w' => e = .returned (.tuple #[.string t4, .int .i64 0]) ∧ Below V.heap.size V w') :
  Calls Tryz.prog 29 (#[.int .i64 (2 + (k : Int)), .string x] ++ #[.pointer (some ⟨bs, 0, none⟩), .pointer (some ⟨bf, 0, none⟩), .pointer (some ⟨bw, 0, none⟩)]) W (Stp t4 bs W) := by
 have P1 := Lib.hid p1
 have P2 := Lib.hid p2
 have P3 := Lib.hid p3
 have P4 := Lib.hid p4
 have HI := Lib.hid (show IV W bs W from ⟨h, Ch.refl _ _⟩)
 have HFW := Lib.hid (fun V (hc : Ch (fun j => j = bs) W V) => And.intro (hc.boxed nf hf).cell (hc.boxed nw hw).cell)
 have c0 := hf.cell
 have hk7 : (k : Int) < 7 := by omega
 clear h hf hw nf nw p1 p2 p3 p4
 go_enter Tryz.func29, Tryz.ntmps29
 go_wp2_with fail
 refine (P1.out _ HI.out.ch).mono ?_
 rintro e w1 ⟨rfl, hb⟩
 have HI1 := Lib.hid (HI.out.below hb)
 clear hb HI P1
 clear c0
 go_wp2_with fail
 refine (next_ok (x := t1) HI1.out.so).mono ?_
 rintro e w2 ⟨rfl, hc, hs⟩
 have HI2 := Lib.hid (HI1.out.step hc hs)
 clear hc hs HI1
 have c0 := (HFW.out _ HI2.out.ch).1
 go_wp2_with fail
 refine (P2.out _ HI2.out.ch).mono ?_
 rintro e w3 ⟨rfl, hb⟩
 have HI3 := Lib.hid (HI2.out.below hb)
 clear hb HI2 P2
 clear c0
 go_wp2_with fail
 refine (next_ok (x := t2) HI3.out.so).mono ?_
 rintro e w4 ⟨rfl, hc, hs⟩
 have HI4 := Lib.hid (HI3.out.step hc hs)
 clear hc hs HI3
 go_wp2_with fail
 refine wp_world (Below.refl w4.heap.size w4) (fun wx hbx => ?_)
 have HJ := Lib.hid (HI4.out.below hbx)
 have HLD := Lib.hid (show ∀ V, Ch (fun j => j = bs) wx V → V.cell? ⟨bw, 0, none⟩ = some (.string wh) from fun V h => (HFW.out V (HJ.out.ch.trans h)).2)
 clear hbx HI4
 refine wp_region_held (S := fun W => Ch (fun j => j = bs) wx W) (by kernel_rfl) ?_
 change wpAnyH _ _ _ _ _ 12 _ _ wx.drew
 have hB0 := (Below.refl wx.heap.size wx).drew
 have hD0 : Ch (fun j => j = bs) wx wx.drew := Ch.below hB0
 generalize wx.drew = Wd at *
 have hI := HJ.out.below hB0
 clear hB0 HJ
 refine wpHz_take (i := 0) (d := 23) (v := .string t1) rfl rfl (by kernel_rfl) (by kernel_rfl) (by kernel_rfl) (fun _ _ _ h => h) rfl (fun W _ => by go_simp) hD0 ?_
 simp only [Act.put, sA, sB, sC]
 refine wpHz_take (i := 1) (d := 24) (v := .string t2) rfl rfl (by kernel_rfl) (by kernel_rfl) (by kernel_rfl) (fun _ _ _ h => h) rfl (fun W _ => by go_simp) hD0 ?_
 simp only [Act.put, sA, sB, sC]
 refine wpHz_take (i := 6) (d := 29) (v := .string wh) rfl rfl (by kernel_rfl) (by kernel_rfl) (by kernel_rfl) (fun _ _ _ h => h) rfl (fun W hW => by have e0 := HLD.out W hW; go_simp) hD0 ?_
 simp only [Act.put, sA, sB, sC]
 refine wpHz_one (i := 2) (by kernel_rfl) ?_
 refine wpOz_run rfl rfl (wpz_enter (d := 25) rfl (by go_simp) ((P3.out _ hI.ch).mono ?_))
 rintro e y1 ⟨rfl, hb⟩
 have hD1 : Ch (fun j => j = bs) wx y1 := hD0.trans (Ch.below hb)
 have hI := hI.below hb
 clear hb
 refine ⟨_, rfl, hD1, ?_⟩
 simp only [Act.put, sA, sB, sC]
 refine wpHz_take (i := 3) (d := 26) (v := .string t3) rfl rfl (by kernel_rfl) (by kernel_rfl) (by kernel_rfl) (fun _ _ _ h => h) rfl (fun W _ => by go_simp) hD1 ?_
 simp only [Act.put, sA, sB, sC]
 refine wpHz_take (i := 4) (d := 27) (v := .int .i64 0) rfl rfl (by kernel_rfl) (by kernel_rfl) (by kernel_rfl) (fun _ _ _ h => h) rfl (fun W _ => by go_simp) hD1 ?_
 simp only [Act.put, sA, sB, sC]
 refine wpHz_one (i := 5) (by kernel_rfl) ?_
 refine wpOz_run rfl rfl (wpz_enter (d := 28) rfl (by go_simp) ((next_ok (x := t3) hI.so).mono ?_))
 rintro e y2 ⟨rfl, hc, hs⟩
 have hD2 : Ch (fun j => j = bs) wx y2 := hD1.trans hc
 have hI := hI.step hc hs
 clear hc hs
 refine ⟨_, rfl, hD2, ?_⟩
 simp only [Act.put, sA, sB, sC]
 refine wpHz_one (i := 7) (by kernel_rfl) ?_
 refine wpOz_run rfl rfl (wpz_enter (d := 30) rfl (by go_simp) ((P4.out _ hI.ch).mono ?_))
 rintro e y3 ⟨rfl, hb⟩
 have hD3 : Ch (fun j => j = bs) wx y3 := hD2.trans (Ch.below hb)
 have hI := hI.below hb
 clear hb
 refine ⟨_, rfl, hD3, ?_⟩
 simp only [Act.put, sA, sB, sC]
 refine wpHz_take (i := 8) (d := 31) (v := .string t4) rfl rfl (by kernel_rfl) (by kernel_rfl) (by kernel_rfl) (fun _ _ _ h => h) rfl (fun W _ => by go_simp) hD3 ?_
 simp only [Act.put, sA, sB, sC]
 refine wpHz_take (i := 9) (d := 32) (v := .int .i64 0) rfl rfl (by kernel_rfl) (by kernel_rfl) (by kernel_rfl) (fun _ _ _ h => h) rfl (fun W _ => by go_simp) hD3 ?_
 simp only [Act.put, sA, sB, sC]
 refine wpHz_one (i := 10) (by kernel_rfl) ?_
 refine wpOz_run rfl rfl (wpz_enter (d := 33) rfl (by go_simp) ((next_ok (x := t4) hI.so).mono ?_))
 rintro e y4 ⟨rfl, hc, hs⟩
 have hD4 : Ch (fun j => j = bs) wx y4 := hD3.trans hc
 have hI := hI.step hc hs
 clear hc hs
 refine ⟨_, rfl, hD4, ?_⟩
 simp only [Act.put, sA, sB, sC]
 refine wpHz_take (i := 11) (d := 7) (v := .string t4) rfl rfl (by kernel_rfl) (by kernel_rfl) (by kernel_rfl) (fun _ _ _ h => h) rfl (fun W _ => by go_simp) hD4 ?_
 simp only [Act.put, sA, sB, sC]
 refine wpAnyH_done (by kernel_rfl) ?_ _
 have HE := Lib.hid hI
 clear hI hD0 hD1 hD2 hD3 hD4 HLD P3 P4 HFW
 go_wp2_with fail
 go_ret
 exact ⟨rfl, HE.out.ch, HE.out.so⟩
set_option maxHeartbeats 6400000 in
set_option maxRecDepth 100000 in
theorem mOf_ok {f l wh : ByteArray} {t1 t2 t3 d : Nat → ByteArray} {w : World} (hd : d 7 = l) (k1 : ∀ W, Below w.heap.size w W → Calls Tryz.prog 25 #[.agg #[.string f, .string l]] W (Er 0 W))
  (p0 : ∀ V, Below w.heap.size w V → Calls Tryz.prog 27 #[.string f, .string ⟨#[49]⟩] V fun e w' => e = .returned (.tuple #[.string wh, .int .i64 0]) ∧ Below V.heap.size V w')
  (p1 : ∀ (k : Nat) V, k < 7 → Below w.heap.size w V → Calls Tryz.prog 30 #[.string f, .int .i64 (2 + (k : Int))] V fun e w' => e = .returned (.tuple #[.string (t1 k), .int .i64 0]) ∧ Below V.heap.size V w')
  (p2 : ∀ (k : Nat) V, k < 7 → Below w.heap.size w V → Calls Tryz.prog 30 #[.string f, .int .i64 (1 - (2 + (k : Int)))] V fun e w' => e = .returned (.tuple #[.string (t2 k), .int .i64 0]) ∧ Below V.heap.size V w')
  (p3 : ∀ (k : Nat) V, k < 7 → Below w.heap.size w V → Calls Tryz.prog 27 #[.string (t1 k), .string (t2 k)] V fun e w' => e = .returned (.tuple #[.string (t3 k), .int .i64 0]) ∧ Below V.heap.size V w')
  (p4 : ∀ (k : Nat) V, k < 7 → Below w.heap.size w V → Calls Tryz.prog 31 #[.string (t3 k), .string wh] V fun e w' => e = .returned (.tuple #[.string (d k), .int .i64 0]) ∧ Below V.heap.size V w') :
  Calls Tryz.prog 10 #[.string f, .string l] w (Cv d w) := by
 have hmf : ∀ (fn : Fn) (first cap : Array Value) (w : World), (Instr.makeFunc fn first cap).run Tryz.prog w = .ok (.func fn first cap) w := fun _ _ _ _ => rfl
 subst hd
 have K1 := Lib.hid k1
 have P0 := Lib.hid p0
 have P1 := Lib.hid p1
 have P2 := Lib.hid p2
 have P3 := Lib.hid p3
 have P4 := Lib.hid p4
 obtain ⟨V1, hV1⟩ : ∃ V1, V1 = w.alloc (.cells #[.string f] 23) := ⟨_, rfl⟩
 obtain ⟨V2, hV2⟩ : ∃ V2, V2 = V1.alloc (.cells #[.string ⟨#[]⟩, .string ⟨#[]⟩, .string ⟨#[]⟩, .string ⟨#[]⟩, .string ⟨#[]⟩, .string ⟨#[]⟩, .string ⟨#[]⟩, .string ⟨#[]⟩] 35) := ⟨_, rfl⟩
 have s1 : V1.heap.size = w.heap.size + 1 := by rw [hV1]; simp
 have b1 : Boxed V1 w.heap.size 23 (.string f) := by rw [hV1]; exact Boxed.new w _ _
 have a2 : ARR V2 (w.heap.size + 1) 8 35 (fun _ => ⟨#[]⟩) := by rw [hV2, ← s1]; exact ARR.new8 (c := fun _ => ⟨#[]⟩)
 have i1 : Below w.heap.size w V1 := by rw [hV1]; exact (Below.refl w.heap.size w).alloc (Nat.le_refl _) _
 have i2 : Below V1.heap.size V1 V2 := by rw [hV2]; exact (Below.refl _ V1).alloc (Nat.le_refl _) _
 have b2 := (Ch.below (S := fun _ => False) i2).boxed (fun h => h) b1
 have c0 := b2.cell
 have HB := Lib.hid (i1.trans (i2.mono i1.size))
 have HA := Lib.hid (And.intro b2 a2)
 clear i1 i2 b1 a2 b2 s1 k1 p0 p1 p2 p3 p4
 subst hV2
 subst hV1
 go_enter Tryz.func10, Tryz.ntmps10
 go_wp2_with fail
 clear c0
 refine (K1.out _ HB.out).mono ?_
 rintro e w1 ⟨rfl, hb⟩
 obtain ⟨v, hv⟩ : ∃ v, v = w1.alloc (.cells #[.int .i64 0] 71) := ⟨_, rfl⟩
 have ib : Below w1.heap.size w1 v := by rw [hv]; exact (Below.refl _ w1).alloc (Nat.le_refl _) _
 have HLT := Lib.hid (show w.heap.size + 2 ≤ w1.heap.size from Nat.le_trans (by simp) hb.size)
 have hbb := hb.trans (ib.mono hb.size)
 have HV := Lib.hid (And.intro ((Ch.below (S := fun _ => False) hbb).boxed (fun h => h) HA.out.1) (HA.out.2.below hbb))
 have HBV := Lib.hid (HB.out.trans (hbb.mono HB.out.size))
 have HI := Lib.hid (show IV v w1.heap.size v from ⟨by rw [hv]; exact SO.new, Ch.refl _ _⟩)
 have HE := Lib.hid (fun W (h : IV v w1.heap.size W) => h.bel HBV.out (show w.heap.size ≤ w1.heap.size by have := HLT.out; omega))
 have HVZ := Lib.hid (show v.heap.size = w1.heap.size + 1 by rw [hv]; simp)
 have c0 := HV.out.1.cell
 clear hb ib hbb K1 HA HB
 subst hv
 go_wp2_with fail
 refine (P0.out _ HBV.out).mono ?_
 rintro e w2 ⟨rfl, hb⟩
 have HI2 := Lib.hid (HI.out.below hb)
 clear hb HI P0 c0
 go_wp2_with fail
 refine (next_ok (x := wh) HI2.out.so).mono ?_
 rintro e w3 ⟨rfl, hc, hs⟩
 have HI3 := Lib.hid (HI2.out.step hc hs)
 clear hc hs HI2
 obtain ⟨u, hu⟩ : ∃ u, u = w3.alloc (.cells #[.string wh] 23) := ⟨_, rfl⟩
 have iu : Below w3.heap.size w3 u := by rw [hu]; exact (Below.refl _ w3).alloc (Nat.le_refl _) _
 have bu : Boxed u w3.heap.size 23 (.string wh) := by rw [hu]; exact Boxed.new w3 _ _
 have HIU := Lib.hid (HI3.out.below iu)
 have HJ := Lib.hid (show IV u w1.heap.size u from ⟨HIU.out.so, Ch.refl _ _⟩)
 have HBU := Lib.hid (HE.out _ HIU.out)
 have HFU := Lib.hid (And.intro (HIU.out.ch.boxed (by have := HLT.out; omega) HV.out.1) (And.intro bu (show w3.heap.size ≠ w1.heap.size by have := HI3.out.so.lt; omega)))
 have HRU := Lib.hid (HIU.out.arr HV.out.2 (by have := HLT.out; omega))
 have HG := Lib.hid (changed_any (g := 29) (cap := #[.pointer (some ⟨w1.heap.size, 0, none⟩), .pointer (some ⟨w.heap.size, 0, none⟩), .pointer (some ⟨w3.heap.size, 0, none⟩)]) (c := fun _ => ⟨#[]⟩) (d := d) (bs := w1.heap.size) (w := u) (IV u w1.heap.size) HJ.out.so.lt (fun W W' h hc => h.keep hc (fun j hj => hj) HJ.out.so.lt) HJ.out (enters_of Tryz.func29 (by kernel_rfl) rfl) (fun k W hk hi hl => by
  have hbel : ∀ V, Ch (fun j => j = w1.heap.size) W V → Below w.heap.size w V := fun V hV => HBU.out.trans (((hi.ch.trans hV)).to_below HBU.out.size (fun j e => by have := HLT.out; omega))
  refine (of1_ok (t1 := t1 k) (t2 := t2 k) (t3 := t3 k) (t4 := d k) hi.so (hi.ch.boxed (by have := HLT.out; omega) HFU.out.1) (hi.ch.boxed HFU.out.2.2 HFU.out.2.1) (by have := HLT.out; omega) HFU.out.2.2 hk (fun V hV => P1.out k V hk (hbel V hV)) (fun V hV => P2.out k V hk (hbel V hV)) (fun V hV => P3.out k V hk (hbel V hV)) (fun V hV => P4.out k V hk (hbel V hV))).mono ?_
  rintro e w' ⟨rfl, hc, hs⟩
  exact ⟨rfl, hc, hi.step hc hs⟩))
 clear iu bu HIU HI3 HJ
 subst hu
 go_wp2_with fail
 refine HG.out.mono ?_
 rintro e w4 ⟨rfl, _, hi⟩
 have i3 := (Below.refl w4.heap.size w4).alloc (Nat.le_refl _) (.cells #[.string (d 0), .string (d 1), .string (d 2), .string (d 3), .string (d 4), .string (d 5), .string (d 6)] 73)
 have HI4 := Lib.hid (hi.below i3)
 have h84 : ARR (w4.alloc (.cells #[.string (d 0), .string (d 1), .string (d 2), .string (d 3), .string (d 4), .string (d 5), .string (d 6)] 73)) w4.heap.size 7 73 d := ARR.new7
 have f0 := HI4.out.so.c
 have g0 := h84.cell (j := 0) (by omega)
 have g1 := h84.cell (j := 1) (by omega)
 have g2 := h84.cell (j := 2) (by omega)
 have g3 := h84.cell (j := 3) (by omega)
 have g4 := h84.cell (j := 4) (by omega)
 have g5 := h84.cell (j := 5) (by omega)
 have g6 := h84.cell (j := 6) (by omega)
 have HU := Lib.hid (fun W => unlessC_ok d W)
 clear hi i3 h84 HG P1 P2 P3 P4 HFU
 go_wp2_with fail
 refine (HU.out _).mono ?_
 rintro e w5 ⟨rfl, hb⟩
 have hi5 := HI4.out.below hb
 have a5 := hi5.arr HRU.out (by have := HLT.out; omega)
 have hbb : Below w.heap.size w w5 := HBU.out.trans (hi5.ch.to_below HBU.out.size (fun j e => by have := HLT.out; omega))
 have HX := Lib.hid (And.intro (a5.put8 d).load8 (hbb.trans ((Ch.st8 (S := fun j => j = w.heap.size + 1) w5 d rfl).to_below hbb.size (fun j hj => by omega))))
 have e0 := a5.cell (j := 0) (by omega)
 have e1 := a5.cell (j := 1) (by omega)
 have e2 := a5.cell (j := 2) (by omega)
 have e3 := a5.cell (j := 3) (by omega)
 have e4 := a5.cell (j := 4) (by omega)
 have e5 := a5.cell (j := 5) (by omega)
 have e6 := a5.cell (j := 6) (by omega)
 have e7 := a5.cell (j := 7) (by omega)
 have z0 := a5.free 0
 have z1 := a5.free 1
 have z2 := a5.free 2
 have z3 := a5.free 3
 have z4 := a5.free 4
 have z5 := a5.free 5
 have z6 := a5.free 6
 have z7 := a5.free 7
 clear hb hi5 a5 f0 g0 g1 g2 g3 g4 g5 g6 HU HI4 hbb
 go_wp2_with fail
 refine bodyPost_ret (v := .tuple #[.agg #[.string (d 0), .string (d 1), .string (d 2), .string (d 3), .string (d 4), .string (d 5), .string (d 6), .string (d 7)], .int .i64 0]) (by have h := HX.out.1; simp [results, Tryz.results10, asAddr]; exact (congrArg (fun r => r.andThen fun a w' => Result.ok (Value.tuple #[a, Value.int IntKind.i64 0]) w') h).trans rfl) rfl ?_
 exact ⟨rfl, HX.out.2⟩
end

section
open Go.RowKit NV Go.Shelf
open Go.Lib (decDigits)
structure CQ (M : Nat → Rat) (L : Rat) : Prop where
 mok : ∀ k, k < 7 → QOk (M k)
 m1 : ∀ k, k < 7 → 1 ≤ M k
 lok : QOk L
 l0 : 0 ≤ L
 l1 : L ≤ 1
def cvQ (M : Nat → Rat) (L : Rat) (k : Nat) : ByteArray := if k < 7 then qstr (M k) else qstr L
theorem mCheck_q {M : Nat → Rat} {L : Rat} (h : CQ M L) {w : World} (hm : ∀ W, Below w.heap.size w W → ML W) : Calls Tryz.prog 80 #[.agg #[.string (cvQ M L 0), .string (cvQ M L 1), .string (cvQ M L 2), .string (cvQ M L 3), .string (cvQ M L 4), .string (cvQ M L 5), .string (cvQ M L 6), .string (cvQ M L 7)]] w (Er 0 w) := by
 refine mCheck_ok (c := cvQ M L) fun j hj W hb => ?_
 by_cases h7 : j < 7
 ·have e1 : pF (cvQ M L) j = qstr (M j) := by unfold pF cvQ; rw [if_pos h7, if_pos h7]
  have e2 : pD (cvQ M L) j = qstr 0 := by unfold pD; rw [if_pos h7, q0Z]
  have hl : LQ (M j) 0 := ⟨h.mok j h7, o0Q, h.m1 j h7, Rat.le_refl, by decide⟩
  rw [e1, e2]
  have hc := lCheck_any (w := W) (sz_q hl.okF) (sz_q hl.okD) (hm W hb)
  rw [hl.chk] at hc
  exact hc
 ·obtain rfl : j = 7 := by omega
  have e1 : pF (cvQ M L) 7 = qstr 1 := by unfold pF; rw [if_neg h7, q1L]
  have e2 : pD (cvQ M L) 7 = qstr L := by unfold pD cvQ; rw [if_neg h7, if_neg h7]
  have hl : LQ 1 L := ⟨o1Q, h.lok, Rat.le_refl, h.l0, h.l1⟩
  rw [e1, e2]
  have hc := lCheck_any (w := W) (sz_q hl.okF) (sz_q hl.okD) (hm W hb)
  rw [hl.chk] at hc
  exact hc
def wgt (k : Nat) : Rat := ((k + 1 : Nat) : Rat) ^ (k + 1) * (((k + 2 : Nat) : Rat) ^ (k + 2))⁻¹
theorem wgt_ok : ∀ k, k < 7 → (QOk (((k + 1 : Nat) : Rat) ^ (k + 1)) ∧ QOk (((k + 2 : Nat) : Rat) ^ (k + 2))) ∧ Sz 8 (wgt k) ∧ 0 ≤ wgt k := by
 have h : ∀ k, k < 7 → ((QOk (((k + 1 : Nat) : Rat) ^ (k + 1)) ∧ QOk (((k + 2 : Nat) : Rat) ^ (k + 2))) ∧ (tp (wgt k) < 10 ^ 8 ∧ (wgt k).den < 10 ^ 8) ∧ 0 ≤ wgt k) := by decide +kernel
 exact h
def toD (M : Nat → Rat) (L f : Rat) (k : Nat) : Rat := mn1 (M k * wgt k * (f ^ (k + 1))⁻¹ + (f + 1) * L)
structure ToOk (M : Nat → Rat) (L f : Rat) (k : Nat) : Prop where
 fok : QOk f
 f1 : 1 ≤ f
 pw : QOk (f ^ (k + 1))
 a1 : QOk (M k * wgt k)
 a2 : QOk (M k * wgt k * (f ^ (k + 1))⁻¹)
 a3 : QOk (f + 1)
 a4 : QOk ((f + 1) * L)
 a5 : QOk (M k * wgt k * (f ^ (k + 1))⁻¹ + (f + 1) * L)
theorem pow_pos1 {f : Rat} (h : 1 ≤ f) : ∀ k : Nat, 0 < f ^ k
 | 0 => by rw [Rat.pow_zero]; decide
 | k + 1 => by rw [Rat.pow_succ]; exact Rat.mul_pos (pow_pos1 h k) (by grind)
theorem PR.yes {T : Option Rat} {q : Rat} {fn : FuncId} {args : Array Value} {w : World} (h : Calls Tryz.prog fn args w (PR (oQ T) w)) (e : T = some q) : Calls Tryz.prog fn args w fun e w' => e = .returned (.tuple #[.string (qstr q), .int .i64 0]) ∧ Below w.heap.size w w' := by
 rw [e] at h
 exact h
theorem RQ.yes {q : Rat} {fn : FuncId} {args : Array Value} {w : World} (h : Calls Tryz.prog fn args w (RQ q w)) (e : QOk q) : Calls Tryz.prog fn args w fun e w' => e = .returned (.tuple #[.string (qstr q), .int .i64 0]) ∧ Below w.heap.size w w' := by
 unfold RQ at h
 rw [wQ_oQ, okQ_yes e] at h
 exact h
theorem min1_q {d : Rat} (h : QOk d) {w : World} (hm : ML w) : Calls Tryz.prog 111 #[.string (qstr d), .string ⟨#[49]⟩] w fun e w' => e = .returned (.tuple #[.string (qstr (mn1 d)), .int .i64 0]) ∧ Below w.heap.size w w' := by
 have h1 := Min_q d 1 h o1Q w hm
 rw [q1L] at h1
 have e : (if cmpQ d 1 < 0 then qstr d else (⟨#[49]⟩ : ByteArray)) = qstr (mn1 d) := by
  unfold cmpQ mn1
  by_cases h2 : d < 1
  ·rw [if_pos h2, if_pos h2, if_pos (by decide)]
  ·rw [if_neg h2, if_neg h2, ← q1L]
   by_cases h3 : 1 < d
   ·rw [if_pos h3, if_neg (by decide)]
   ·rw [if_neg h3, if_neg (by decide)]
 rw [e] at h1
 exact h1
theorem mTo_q {M : Nat → Rat} {L f : Rat} {k : Nat} (hc : CQ M L) (ho : ToOk M L f k) (hk : k < 7) {w : World} (htm : ∀ W, Below w.heap.size w W → Tab W ∧ ML W) :
  Calls Tryz.prog 15 #[.agg #[.string (cvQ M L 0), .string (cvQ M L 1), .string (cvQ M L 2), .string (cvQ M L 3), .string (cvQ M L 4), .string (cvQ M L 5), .string (cvQ M L 6), .string (cvQ M L 7)], .int .i64 (2 + (k : Int)), .string (qstr f)] w (Rl (qstr f) (qstr (toD M L f k)) w) := by
 obtain ⟨⟨g1, g2⟩, g3, g4⟩ := wgt_ok k hk
 have n0 : ((k + 2 : Nat) : Rat) ^ (k + 2) ≠ 0 := by
  have h : ∀ k, k < 7 → ((k + 2 : Nat) : Rat) ^ (k + 2) ≠ 0 := by decide +kernel
  exact h k hk
 have pn : f ^ (k + 1) ≠ 0 := fun e => by have := pow_pos1 ho.f1 (k + 1); rw [e] at this; exact absurd this (by decide)
 have ek : cvQ M L k = qstr (M k) := if_pos hk
 have e7 : cvQ M L 7 = qstr L := if_neg (by omega)
 have i1 : (2 + (k : Int) - 1) = ((k + 1 : Nat) : Int) := by omega
 have i2 : (2 + (k : Int)) = ((k + 2 : Nat) : Int) := by omega
 have r1 : (((k + 1 : Nat) : Int) : Rat) = ((k + 1 : Nat) : Rat) := rfl
 have r2 : (((k + 2 : Nat) : Int) : Rat) = ((k + 2 : Nat) : Rat) := rfl
 have okn : ∀ n, n < 10 → QOk ((n : Nat) : Rat) := by
  have h : ∀ n, n < 10 → QOk ((n : Nat) : Rat) := by decide +kernel
  exact h
 have hl : LQ f 0 := ⟨ho.fok, o0Q, ho.f1, Rat.le_refl, by decide⟩
 refine mTo_ok (c := cvQ M L) (fun W hb => mCheckTo_ok hk (fun W2 hb2 => mCheck_q hc (fun W3 hb3 => (htm W3 (hb.trans ((hb2.trans (hb3.mono hb2.size)).mono hb.size))).2)) (fun W2 hb2 => ?_)) (fun W hb => ?_)
 ·have hcc := lCheck_any (w := W2) (sz_q hl.okF) (sz_q hl.okD) (htm W2 (hb.trans (hb2.mono hb.size))).2
  rw [hl.chk, q0Z] at hcc
  exact hcc
 ·have hW := fun W3 (hb3 : Below W.heap.size W W3) => htm W3 (hb.trans (hb3.mono hb.size))
  refine lossBy_ok (c := cvQ M L) (pw := qstr (f ^ (k + 1))) (i1 := qstr ((k + 1 : Nat) : Rat)) (i2 := qstr ((k + 2 : Nat) : Rat)) (s1 := qstr (((k + 1 : Nat) : Rat) ^ (k + 1))) (s2 := qstr (((k + 2 : Nat) : Rat) ^ (k + 2))) (wt := qstr (wgt k)) (e1 := qstr (M k * wgt k)) (e2 := qstr (M k * wgt k * (f ^ (k + 1))⁻¹)) (sf := qstr (f + 1)) (l1 := qstr ((f + 1) * L)) (su := qstr (M k * wgt k * (f ^ (k + 1))⁻¹ + (f + 1) * L)) hk
   (fun V hV => ?_) (fun V hV => ?_) (fun V hV => ?_) (fun V hV => ?_) (fun V hV => ?_) (fun V hV => ?_) (fun V hV => ?_) (fun V hV => ?_) (fun V hV => ?_) (fun V hV => ?_) (fun V hV => ?_) (fun V hV => ?_)
  ·rw [i1]; exact PR.yes (Pow_oQ f (k + 1) ho.fok (by omega) V (hW V hV).1 (hW V hV).2) (okQ_yes ho.pw)
  ·rw [i1]; exact Int_q ((k + 1 : Nat) : Int) (by omega) (by omega) V (hW V hV).1
  ·rw [i2]; exact Int_q ((k + 2 : Nat) : Int) (by omega) (by omega) V (hW V hV).1
  ·rw [i1]; exact PR.yes (Pow_oQ _ (k + 1) (okn (k + 1) (by omega)) (by omega) V (hW V hV).1 (hW V hV).2) (okQ_yes g1)
  ·rw [i2]; exact PR.yes (Pow_oQ _ (k + 2) (okn (k + 2) (by omega)) (by omega) V (hW V hV).1 (hW V hV).2) (okQ_yes g2)
  ·exact PR.yes (Div_oQ _ _ g1 g2 n0 V (hW V hV).1 (hW V hV).2) (okQ_yes (g3.qok (by omega) (by omega)))
  ·rw [ek]; exact PR.yes (Mul_oQ _ _ (hc.mok k hk) (g3.qok (by omega) (by omega)) V (hW V hV).1 (hW V hV).2) (okQ_yes ho.a1)
  ·exact PR.yes (Div_oQ _ _ ho.a1 ho.pw pn V (hW V hV).1 (hW V hV).2) (okQ_yes ho.a2)
  ·rw [← q1L]; exact RQ.yes (Add_q _ _ ho.fok o1Q V (hW V hV).1 (hW V hV).2) ho.a3
  ·rw [e7]; exact PR.yes (Mul_oQ _ _ ho.a3 hc.lok V (hW V hV).1 (hW V hV).2) (okQ_yes ho.a4)
  ·exact RQ.yes (Add_q _ _ ho.a2 ho.a4 V (hW V hV).1 (hW V hV).2) ho.a5
  ·exact min1_q ho.a5 (hW V hV).2
def ofM (f : Rat) (k : Nat) : Rat := (f ^ (k + 2) + f⁻¹ ^ (k + 1)) * (f + 1)⁻¹
structure OfOk (f : Rat) : Prop where
 fok : QOk f
 f1 : 1 ≤ f
 a0 : QOk (f + 1)
 a1 : ∀ k, k < 7 → QOk (f ^ (k + 2))
 a2 : ∀ k, k < 7 → QOk (f⁻¹ ^ (k + 1))
 a3 : ∀ k, k < 7 → QOk (f ^ (k + 2) + f⁻¹ ^ (k + 1))
 a4 : ∀ k, k < 7 → QOk (ofM f k)
theorem mOf_q {f l : Rat} (ho : OfOk f) (lok : QOk l) (l0 : 0 ≤ l) (l1 : l ≤ 1) {w : World} (htm : ∀ W, Below w.heap.size w W → Tab W ∧ ML W) :
  Calls Tryz.prog 10 #[.string (qstr f), .string (qstr l)] w (Cv (cvQ (ofM f) l) w) := by
 have hl : LQ f l := ⟨ho.fok, lok, ho.f1, l0, l1⟩
 have fn : f ≠ 0 := fun e => by have := ho.f1; rw [e] at this; exact absurd this (by decide)
 have fp : f + 1 ≠ 0 := fun e => by have := ho.f1; grind
 have ed : ∀ k, k < 7 → cvQ (ofM f) l k = qstr (ofM f k) := fun k hk => if_pos hk
 refine mOf_ok (t1 := fun k => qstr (f ^ (k + 2))) (t2 := fun k => qstr (f⁻¹ ^ (k + 1))) (t3 := fun k => qstr (f ^ (k + 2) + f⁻¹ ^ (k + 1))) (d := cvQ (ofM f) l) (wh := qstr (f + 1)) (if_neg (by omega)) (fun W hb => ?_) (fun V hV => ?_) (fun k V hk hV => ?_) (fun k V hk hV => ?_) (fun k V hk hV => ?_) (fun k V hk hV => ?_)
 ·have hcc := lCheck_any (w := W) (sz_q hl.okF) (sz_q hl.okD) (htm W hb).2
  rw [hl.chk] at hcc
  exact hcc
 ·rw [← q1L]; exact RQ.yes (Add_q _ _ ho.fok o1Q V (htm V hV).1 (htm V hV).2) ho.a0
 ·rw [show (2 + (k : Int)) = ((k + 2 : Nat) : Int) by omega]
  exact PR.yes (Pow_oQ f (k + 2) ho.fok (by omega) V (htm V hV).1 (htm V hV).2) (okQ_yes (ho.a1 k hk))
 ·rw [show (1 - (2 + (k : Int))) = -((k + 1 : Nat) : Int) by omega]
  exact RQ.yes (Pow_neg f ho.fok (k + 1) (by omega) (by omega) V (htm V hV).1 (htm V hV).2 fn _ rfl) (ho.a2 k hk)
 ·exact RQ.yes (Add_q _ _ (ho.a1 k hk) (ho.a2 k hk) V (htm V hV).1 (htm V hV).2) (ho.a3 k hk)
 ·rw [ed k hk]
  exact PR.yes (Div_oQ _ _ (ho.a3 k hk) ho.a0 fp V (htm V hV).1 (htm V hV).2) (okQ_yes (ho.a4 k hk))
end

end Go.Proofs.YtjpepjooefkbkaaGreatDoor
