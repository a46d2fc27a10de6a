/-
  Package loss: attempt, must, the operations, Alpha, Beta, Half, the methods of bound, inOrder; drawn regions by an invariant.
-/
import Derived.WalkKit
import Derived.Defers
import Derived.Recover
import Derived.Below
import Derived.Lib.Hide
import Derived.WalkLawsBesides
import Derived.KernelRfl
import Derived.Test.YtjpepjooefkbkaaGreatDoorProg
import Derived.Test.YtjpepjooefkbkaaGreatDoorZB
import Derived.Test.YtjpepjooefkbkaaGreatDoorZC
namespace Go.Proofs.YtjpepjooefkbkaaGreatDoor
section
open Go.RowKit
theorem demand_ok (w : World) : Calls Tryz.prog 91 #[.int .i64 0] w fun e w' => e = .returned (.tuple #[]) ∧ w' = w := by
 go_enter Tryz.func91, Tryz.ntmps91
 go_wp2
 go_end0
 exact ⟨rfl, rfl⟩
theorem demand_no {n : Int} (h : (n != 0) = true) (w : World) : Calls Tryz.prog 91 #[.int .i64 n] w fun e w' => e = .panicked [{ v := .iface 29 (.int .i64 n), recovered := false }] ∧ w' = w := by
 go_enter Tryz.func91, Tryz.ntmps91
 go_wp2
 exact ⟨rfl, rfl, rfl⟩
theorem ta_yes (v : Value) (w : World) : (Instr.typeAssert (.iface 29 v) 20 29 true).run Tryz.prog w = .ok (.tuple #[v, .bool true]) w := by kernel_rfl
theorem ta_nil (w : World) : (Instr.typeAssert .nilIface 20 29 true).run Tryz.prog w = .ok (.tuple #[.int .i64 0, .bool false]) w := by kernel_rfl
def ER (w : World) (ao : Option Addr) (n : Nat) (es : List Int) : Prop := es.length = n ∧ (n = 0 ∨ ∃ a, ao = some a ∧ a.block < w.heap.size ∧ ∀ (j : Nat) (x : Int), es[j]? = some x → w.cell? (a.add j) = some (.int .i64 x))
def Does (v : Value) (n : Int) (w : World) (e : Ending) (w' : World) : Prop := (n = 0 ∧ e = .returned v ∨ n ≠ 0 ∧ e = .panicked [{ v := .iface 29 (.int .i64 n), recovered := false }]) ∧ Below w.heap.size w w'
theorem ER.at {w : World} {ao : Option Addr} {n k : Nat} {es : List Int} (h : ER w ao n es) (hk : k < n) : ∃ a x, ao = some a ∧ es[k]? = some x ∧ a.block < w.heap.size ∧ w.cell? (a.add k) = some (.int .i64 x) := by
 obtain ⟨hl, h0 | ⟨a, ha, hb, hc⟩⟩ := h
 ·omega
 ·have hx : es[k]? = some (es[k]'(by omega)) := List.getElem?_eq_getElem _
  exact ⟨a, _, ha, hx, hb, hc k _ hx⟩
theorem addA_block (a : Addr) (j : Nat) : (a.add j).block = a.block := by unfold Addr.add; split <;> rfl
theorem ER.below {w w' : World} {ao : Option Addr} {n : Nat} {es : List Int} (h : ER w ao n es) (hb : Below w.heap.size w w') : ER w' ao n es := by
 obtain ⟨hl, h0 | ⟨a, ha, h1, hc⟩⟩ := h
 ·exact ⟨hl, .inl h0⟩
 ·exact ⟨hl, .inr ⟨a, ha, Nat.lt_of_lt_of_le h1 hb.size, fun j x hx => (hb.cell (p := a.add j) (show (a.add j).block < _ by rw [addA_block]; exact h1)).trans (hc j x hx)⟩⟩
set_option maxRecDepth 100000 in
theorem catch_loss (p : Addr) (x n : Int) (older : List PanicEntry) (w : World) (hc : w.cell? p = some (.int .i64 x)) (hz : w.frozen? p = false) :
  CallsD Tryz.prog 90 #[.pointer (some p)] (.panicking ({ v := .iface 29 (.int .i64 n), recovered := false } :: older)) w fun e u' w' =>
   e = .returned (.tuple #[]) ∧ u' = .panicking ({ v := .iface 29 (.int .i64 n), recovered := true } :: older) ∧ w' = w.setCell p (.int .i64 n) := by
 refine callsD_of_wpS Tryz.func90 rfl fun c₀ cs hu => ?_
 apply wpS_seq
 apply wpS_region
 simp [wpOpsS, go_sem, recoverD, hu, Tryz.ntmps90, Exit.thenS, ta_yes]
 apply wpS_seq
 apply wpS_region
 simp [wpOpsS, go_sem, Exit.thenS]
 refine wpS_cond (t := true) (by simp [Act.eval, Array.replicate]) ?_
 simp only [if_true]
 apply wpS_region
 simp [wpOpsS, go_sem, hc, hz, bodyPostS, results, Tryz.results90]
set_option maxRecDepth 100000 in
theorem idle_loss (p : Addr) (w : World) :
  CallsD Tryz.prog 90 #[.pointer (some p)] .returning w fun e u' w' => e = .returned (.tuple #[]) ∧ u' = .returning ∧ w' = w := by
 refine callsD_of_wpS Tryz.func90 rfl fun c₀ cs hu => ?_
 apply wpS_seq
 apply wpS_region
 simp [wpOpsS, go_sem, recoverD, hu, Tryz.ntmps90, Exit.thenS, ta_nil]
 apply wpS_seq
 apply wpS_region
 simp [wpOpsS, go_sem, Exit.thenS]
 refine wpS_cond (t := false) (by simp [Act.eval, Array.replicate]) ?_
 simp only [Bool.false_eq_true, if_false]
 refine wpS_of_wp (wp_skip ?_)
 cases c₀
 simp_all [bodyPostS, results, Tryz.results90]
set_option maxHeartbeats 1600000 in
set_option maxRecDepth 100000 in
theorem attempt_loss_ok {g : Nat} {cap : Array Value} {f d : ByteArray} {m : Int} {n c : Nat} {ao : Option Addr} {es : List Int} {w : World} (he : ER w ao n es) (hn : n ≤ 1000000) (h0 : ∀ x, x ∈ es → x = 0) (hg : ∀ W, Below w.heap.size w W → Calls Tryz.prog g cap W (Does (.agg #[.string f, .string d]) m W)) (eg : ∀ W, (callFunc g cap).run Tryz.prog W = .ok (.enter g cap) W) :
  Calls Tryz.prog 61 #[.func (.func g) #[] cap, .slice ao n c] w fun e w' => e = .returned (.tuple #[if m = 0 then .agg #[.string f, .string d] else .agg #[.string ⟨#[]⟩, .string ⟨#[]⟩], .int .i64 m]) ∧ Below w.heap.size w w' := by
 have hmf : ∀ (fn : Fn) (first cap : Array Value) (w : World), (Instr.makeFunc fn first cap).run Tryz.prog w = .ok (.func fn first cap) w := fun _ _ _ _ => rfl
 have hb0 := ((Below.refl w.heap.size w).alloc (Nat.le_refl _) (.cells #[.string ⟨#[]⟩, .string ⟨#[]⟩] 49)).alloc (by simp) (.cells #[.int .i64 0] 29)
 have HE := Lib.hid (he.below hb0)
 have HG := Lib.hid hg
 have H0 := Lib.hid h0
 have HB := Lib.hid hb0
 have HC := Lib.hid (show ∀ W, Below ((w.alloc (.cells #[.string ⟨#[]⟩, .string ⟨#[]⟩] 49)).alloc (.cells #[.int .i64 0] 29)).heap.size ((w.alloc (.cells #[.string ⟨#[]⟩, .string ⟨#[]⟩] 49)).alloc (.cells #[.int .i64 0] 29)) W → W.cell? ⟨w.heap.size + 1, 0, none⟩ = some (.int .i64 0) ∧ W.frozen? ⟨w.heap.size + 1, 0, none⟩ = false ∧ W.cell? ⟨w.heap.size, 0, none⟩ = some (.string ⟨#[]⟩) ∧ W.cell? ⟨w.heap.size, 1, none⟩ = some (.string ⟨#[]⟩) ∧ W.frozen? ⟨w.heap.size, 0, none⟩ = false ∧ W.frozen? ⟨w.heap.size, 1, none⟩ = false from fun W hb => ⟨(hb.cell (by simp)).trans (by simp), (hb.frozen (by simp)).trans (by simp), (hb.cell (by simp; omega)).trans (by simp), (hb.cell (by simp; omega)).trans (by simp), (hb.frozen (by simp; omega)).trans (by simp), (hb.frozen (by simp; omega)).trans (by simp)⟩)
 clear he hg h0 hb0
 go_enter_defers Tryz.func61, Tryz.ntmps61
 go_wp2_with fail
 go_loop [11] (fun iv => ∃ k : Nat, k ≤ n ∧ iv = .int .i64 (k : Int)) (fun iv => n - (intOf iv).toNat)
 case atStart => exact ⟨0, Nat.zero_le _, rfl⟩
 case round =>
  obtain ⟨k, hk, rfl⟩ := hrel
  by_cases hlt : k < n
  ·obtain ⟨a, x, rfl, hx, _, c0⟩ := HE.out.at hlt
   obtain rfl := H0.out x (List.mem_of_getElem? hx)
   clear hx
   go_wp2_with fail
   refine (demand_ok _).mono ?_
   rintro e w' ⟨rfl, rfl⟩
   go_wp2_with fail
   go_round
   case rel => exact ⟨k + 1, by omega, by go_num⟩
   case measure => simp [intOf]; omega
  ·obtain rfl : k = n := by omega
   clear HE H0
   go_wp2_with fail
   refine (HG.out _ HB.out).mono ?_
   rintro e w1 ⟨hr, hb⟩
   obtain ⟨c1, z1, r0, r1, y0, y1⟩ := HC.out _ hb
   have HB1 := Lib.hid (HB.out.trans (hb.mono HB.out.size))
   clear hb HC HG HB
   rcases hr with ⟨rfl, rfl⟩ | ⟨hm, rfl⟩
   ·go_wp2_with fail
    refine leaves_cons (f := 90) (args := #[.pointer (some ⟨w.heap.size + 1, 0, none⟩)]) (by simp) (by simp [go_sem]) ?_
    refine (idle_loss ⟨w.heap.size + 1, 0, none⟩ _).mono ?_
    rintro e u' w'' ⟨rfl, rfl, rfl⟩
    have hbb := ((HB1.out.setCell (p := ⟨w.heap.size, 0, none⟩) (Nat.le_refl _) (.string f)).setCell (p := ⟨w.heap.size, 1, none⟩) (Nat.le_refl _) (.string d)).setCell (p := ⟨w.heap.size + 1, 0, none⟩) (Nat.le_succ _) (.int .i64 0)
    simp [Leaves, settle, results, Tryz.results61, go_sem, c1, r0, r1, hbb]
   ·have hm0 := hm
    go_wp2_with fail
    refine leaves_cons (f := 90) (args := #[.pointer (some ⟨w.heap.size + 1, 0, none⟩)]) (by simp) (by simp [go_sem]) ?_
    refine (catch_loss ⟨w.heap.size + 1, 0, none⟩ 0 m [] _ c1 z1).mono ?_
    rintro e u' w'' ⟨rfl, rfl, rfl⟩
    have hbb := HB1.out.setCell (p := ⟨w.heap.size + 1, 0, none⟩) (Nat.le_succ _) (.int .i64 m)
    simp [Leaves, settle, results, Tryz.results61, go_sem, c1, r0, r1, hbb]
set_option maxHeartbeats 1600000 in
set_option maxRecDepth 100000 in
theorem attempt_loss_no {g : Nat} {cap : Array Value} {m : Int} {n c i : Nat} {ao : Option Addr} {es : List Int} {w : World} (he : ER w ao n es) (hn : n ≤ 1000000) (h0 : ∀ k x, k < i → es[k]? = some x → x = 0) (hi : es[i]? = some m) (hm : m ≠ 0) :
  Calls Tryz.prog 61 #[.func (.func g) #[] cap, .slice ao n c] w fun e w' => e = .returned (.tuple #[.agg #[.string ⟨#[]⟩, .string ⟨#[]⟩], .int .i64 m]) ∧ Below w.heap.size w w' := by
 have hmf : ∀ (fn : Fn) (first cap : Array Value) (w : World), (Instr.makeFunc fn first cap).run Tryz.prog w = .ok (.func fn first cap) w := fun _ _ _ _ => rfl
 have hb0 := ((Below.refl w.heap.size w).alloc (Nat.le_refl _) (.cells #[.string ⟨#[]⟩, .string ⟨#[]⟩] 49)).alloc (by simp) (.cells #[.int .i64 0] 29)
 have hin : i < n := by
  rw [← he.1]
  exact (List.getElem?_eq_some_iff.1 hi).1
 have HE := Lib.hid (he.below hb0)
 have H0 := Lib.hid h0
 have HI := Lib.hid hi
 have HB := Lib.hid hb0
 have HM := Lib.hid hm
 clear he h0 hb0 hi hm
 have c1 : ((w.alloc (.cells #[.string ⟨#[]⟩, .string ⟨#[]⟩] 49)).alloc (.cells #[.int .i64 0] 29)).cell? ⟨w.heap.size + 1, 0, none⟩ = some (.int .i64 0) := by simp
 have z1 : ((w.alloc (.cells #[.string ⟨#[]⟩, .string ⟨#[]⟩] 49)).alloc (.cells #[.int .i64 0] 29)).frozen? ⟨w.heap.size + 1, 0, none⟩ = false := by simp
 have HC := Lib.hid (And.intro c1 z1)
 clear c1 z1
 go_enter_defers Tryz.func61, Tryz.ntmps61
 go_wp2_with fail
 go_loop [11] (fun iv => ∃ k : Nat, k ≤ i ∧ iv = .int .i64 (k : Int)) (fun iv => n - (intOf iv).toNat)
 case atStart => exact ⟨0, Nat.zero_le _, rfl⟩
 case round =>
  obtain ⟨k, hk, rfl⟩ := hrel
  obtain ⟨a, x, rfl, hx, _, c0⟩ := HE.out.at (show k < n by omega)
  by_cases hlt : k < i
  ·obtain rfl := H0.out k x hlt hx
   clear hx
   go_wp2_with fail
   refine (demand_ok _).mono ?_
   rintro e w' ⟨rfl, rfl⟩
   go_wp2_with fail
   go_round
   case rel => exact ⟨k + 1, by omega, by go_num⟩
   case measure => simp [intOf]; omega
  ·obtain rfl : k = i := by omega
   rw [HI.out] at hx
   obtain rfl := Option.some.inj hx
   have hm1 : (m != 0) = true := by simpa using HM.out
   have HD := Lib.hid (fun W => demand_no hm1 W)
   clear hx hm1 HI H0 HE
   go_wp2_with fail
   refine (HD.out _).mono ?_
   rintro e w' ⟨rfl, rfl⟩
   clear HD
   go_wp2_with fail
   obtain ⟨c1, z1⟩ := HC.out
   refine leaves_cons (f := 90) (args := #[.pointer (some ⟨w.heap.size + 1, 0, none⟩)]) (by simp) (by simp [go_sem]) ?_
   refine (catch_loss ⟨w.heap.size + 1, 0, none⟩ 0 m [] _ c1 z1).mono ?_
   rintro e u' w'' ⟨rfl, rfl, rfl⟩
   simp [Leaves, settle, results, Tryz.results61, go_sem]
   exact ((Below.refl _ w).alloc (Nat.le_refl _) _).alloc (by simp) _
end
section
open Go.RowKit
def Dn (T : ByteArray × Nat) (w : World) (e : Ending) (w' : World) : Prop := Does (.string T.1) (T.2 : Int) w e w'
end
section
open Go.RowKit NV
section
variable {P : Program} {Q : Exit → Act → World → Prop}
end
theorem Dn.yes {T : ByteArray × Nat} {w W : World} (h : (T.2 : Int) = 0) (hb : Below w.heap.size w W) : Dn T w (.returned (.string T.1)) W := ⟨.inl ⟨h, rfl⟩, hb⟩
end
section
open Go.RowKit
def Er (n : Int) (w : World) (e : Ending) (w' : World) : Prop := e = .returned (.int .i64 n) ∧ Below w.heap.size w w'
def Cm (c n : Int) (w : World) (e : Ending) (w' : World) : Prop := e = .returned (.tuple #[.int .i64 c, .int .i64 n]) ∧ Below w.heap.size w w'
def fstL : List Int → Int
 | [] => 0
 | x :: l => if x ≠ 0 then x else fstL l
theorem fstL_zero : ∀ {l : List Int}, fstL l = 0 → ∀ x, x ∈ l → x = 0
 | [], _, x, hx => by cases hx
 | y :: l, h, x, hx => by
  have h' : (if y ≠ 0 then y else fstL l) = 0 := h
  by_cases hy : y = 0
  ·rw [if_neg (by simpa using hy)] at h'
   rcases List.mem_cons.1 hx with rfl | hx
   ·exact hy
   ·exact fstL_zero h' x hx
  ·rw [if_pos hy] at h'; exact absurd h' hy
theorem fstL_at : ∀ {l : List Int}, fstL l ≠ 0 → ∃ i : Nat, l[i]? = some (fstL l) ∧ ∀ (k : Nat) (x : Int), k < i → l[k]? = some x → x = 0
 | [], h => absurd rfl h
 | y :: l, h => by
  by_cases hy : y = 0
  ·have e : fstL (y :: l) = fstL l := if_neg (by simpa using hy)
   rw [e] at h ⊢
   obtain ⟨i, h1, h2⟩ := fstL_at h
   refine ⟨i + 1, by simpa using h1, fun k x hk hx => ?_⟩
   cases k with
   | zero => simp at hx; exact hx ▸ hy
   | succ k => exact h2 k x (by omega) (by simpa using hx)
  ·have e : fstL (y :: l) = y := if_pos hy
   rw [e]
   exact ⟨0, by simp, fun k x hk => absurd hk (Nat.not_lt_zero _)⟩
def Fin (es : List Int) (v z : Value) (m : Int) (w : World) (e : Ending) (w' : World) : Prop := e = .returned (.tuple #[if fstL es = 0 ∧ m = 0 then v else z, .int .i64 (if fstL es = 0 then m else fstL es)]) ∧ Below w.heap.size w w'
theorem attempt_loss_any {g : Nat} {cap : Array Value} {f d : ByteArray} {m : Int} {n c : Nat} {ao : Option Addr} {es : List Int} {w : World} (he : ER w ao n es) (hn : n ≤ 1000000) (hg : fstL es = 0 → ∀ W, Below w.heap.size w W → Calls Tryz.prog g cap W (Does (.agg #[.string f, .string d]) m W)) (eg : ∀ W, (callFunc g cap).run Tryz.prog W = .ok (.enter g cap) W) :
  Calls Tryz.prog 61 #[.func (.func g) #[] cap, .slice ao n c] w (Fin es (.agg #[.string f, .string d]) (.agg #[.string ⟨#[]⟩, .string ⟨#[]⟩]) m w) := by
 by_cases h : fstL es = 0
 ·refine (attempt_loss_ok he hn (fstL_zero h) (hg h) eg).mono ?_
  rintro e w' ⟨rfl, hb⟩
  refine ⟨?_, hb⟩
  by_cases h2 : m = 0
  ·rw [if_pos h2, if_pos ⟨h, h2⟩, if_pos h]
  ·rw [if_neg h2, if_neg (fun h3 => h2 h3.2), if_pos h]
 ·obtain ⟨i, h1, h2⟩ := fstL_at h
  refine (attempt_loss_no he hn h2 h1 h).mono ?_
  rintro e w' ⟨rfl, hb⟩
  refine ⟨?_, hb⟩
  rw [if_neg (fun h3 => h h3.1), if_neg h]
theorem ER.lit {w : World} {es : List Int} : ER (w.alloc (.cells (es.map fun x => Value.int .i64 x).toArray 29)) (some ⟨w.heap.size, 0, none⟩) es.length es := by
 refine ⟨rfl, .inr ⟨_, rfl, by simp, fun j x hx => ?_⟩⟩
 have e : (⟨w.heap.size, 0, none⟩ : Addr).add j = ⟨w.heap.size, j, none⟩ := by rw [Addr.add_lit, Nat.zero_add]
 rw [e, Lib.cell_of_heap (heap_alloc_new w _)]
 simp [hx]
end
section
open Go.RowKit NV
end
section
open Go.RowKit NV
structure RB (w W : World) (b : Nat) (s t : ByteArray) : Prop where
 lt : b < W.heap.size
 ge : w.heap.size ≤ b
 c0 : W.cell? ⟨b, 0, none⟩ = some (.string s)
 c1 : W.cell? ⟨b, 1, none⟩ = some (.string t)
 z0 : W.frozen? ⟨b, 0, none⟩ = false
 z1 : W.frozen? ⟨b, 1, none⟩ = false
theorem RB.new {w W : World} {s t : ByteArray} {ty : TypeId} (h : w.heap.size ≤ W.heap.size) : RB w (W.alloc (.cells #[.string s, .string t] ty)) W.heap.size s t := ⟨by simp, h, by simp, by simp, by simp, by simp⟩
theorem RB.below {w W W' : World} {b : Nat} {s t : ByteArray} (h : RB w W b s t) (hb : Below W.heap.size W W') : RB w W' b s t :=
 ⟨Nat.lt_of_lt_of_le h.lt hb.size, h.ge, (hb.cell (p := ⟨b, 0, none⟩) h.lt).trans h.c0, (hb.cell (p := ⟨b, 1, none⟩) h.lt).trans h.c1, (hb.frozen (p := ⟨b, 0, none⟩) h.lt).trans h.z0, (hb.frozen (p := ⟨b, 1, none⟩) h.lt).trans h.z1⟩
set_option maxHeartbeats 1600000 in
theorem none_any (w : World) : Calls Tryz.prog 62 #[] w (Does (.agg #[.string ⟨#[49]⟩, .string ⟨#[48]⟩]) 0 w) := by
 have HB := Lib.hid ((Below.refl w.heap.size w).alloc (Nat.le_refl _) (.cells #[.string ⟨#[49]⟩, .string ⟨#[48]⟩] 49))
 go_enter Tryz.func62, Tryz.ntmps62
 go_wp2_with fail
 refine bodyPost_ret (v := .agg #[.string ⟨#[49]⟩, .string ⟨#[48]⟩]) (by simp [results, Tryz.results62, go_sem]) rfl ?_
 exact ⟨.inl ⟨rfl, rfl⟩, HB.out⟩
end
section
open Go.RowKit NV
section
variable {P : Program} {Q : Exit → Act → World → Prop}
theorem wpz_skip {o : Oper} {K : Act → World → Prop} {a : Act} {w w' : World} (hd : o.dst = none) (h : (execOp a.eval o).run P w = .ok .skip w') (hK : K a w') : Oper.wp P o a w K Q := by
 unfold Oper.wp
 rw [h]
 simp only [Oper.upon, hd]; exact hK
end
def SX (wx : World) (b : Nat) (W : World) : Prop := ∃ W0, Below wx.heap.size wx W0 ∧ (W = W0 ∨ ∃ u v, W = (W0.setCell ⟨b, 0, none⟩ u).setCell ⟨b, 1, none⟩ v)
theorem SX.of {wx W : World} {b : Nat} (h : Below wx.heap.size wx W) : SX wx b W := ⟨W, h, .inl rfl⟩
theorem SX.put {wx W : World} {b : Nat} (h : Below wx.heap.size wx W) (u v : Value) : SX wx b ((W.setCell ⟨b, 0, none⟩ u).setCell ⟨b, 1, none⟩ v) := ⟨W, h, .inr ⟨u, v, rfl⟩⟩
theorem SX.cell {wx W : World} {b : Nat} (h : SX wx b W) {p : Addr} (hp : p.block < wx.heap.size) (hne : p.block ≠ b) : W.cell? p = wx.cell? p := by
 obtain ⟨W0, h0, rfl | ⟨u, v, rfl⟩⟩ := h
 ·exact h0.cell hp
 ·have e1 : (⟨b, 1, none⟩ : Addr) ≠ p := fun e => hne (by rw [← e])
  have e0 : (⟨b, 0, none⟩ : Addr) ≠ p := fun e => hne (by rw [← e])
  rw [World.cell?_setCell_other _ _ _ _ e1, World.cell?_setCell_other _ _ _ _ e0]
  exact h0.cell hp
end
section
open Go.RowKit NV
end
section
open Go.RowKit NV
end
section
open Go.RowKit NV
def SR (w : World) (ao : Option Addr) (n : Nat) (xs : List ByteArray) : Prop := xs.length = n ∧ (n = 0 ∨ ∃ a, ao = some a ∧ a.block < w.heap.size ∧ ∀ (j : Nat) (x : ByteArray), xs[j]? = some x → w.cell? (a.add j) = some (.string x))
theorem SR.at {w : World} {ao : Option Addr} {n k : Nat} {xs : List ByteArray} (h : SR w ao n xs) (hk : k < n) : ∃ a x, ao = some a ∧ xs[k]? = some x ∧ a.block < w.heap.size ∧ w.cell? (a.add k) = some (.string x) := by
 obtain ⟨hl, h0 | ⟨a, ha, hb, hc⟩⟩ := h
 ·omega
 ·have hx : xs[k]? = some (xs[k]'(by omega)) := List.getElem?_eq_getElem _
  exact ⟨a, _, ha, hx, hb, hc k _ hx⟩
theorem SR.below {w w' : World} {ao : Option Addr} {n : Nat} {xs : List ByteArray} (h : SR w ao n xs) (hb : Below w.heap.size w w') : SR w' ao n xs := by
 obtain ⟨hl, h0 | ⟨a, ha, h1, hc⟩⟩ := h
 ·exact ⟨hl, .inl h0⟩
 ·exact ⟨hl, .inr ⟨a, ha, Nat.lt_of_lt_of_le h1 hb.size, fun j x hx => (hb.cell (p := a.add j) (show (a.add j).block < _ by rw [addA_block]; exact h1)).trans (hc j x hx)⟩⟩
theorem SR.lit {w : World} {xs : List ByteArray} {ty : TypeId} : SR (w.alloc (.cells (xs.map fun x => Value.string x).toArray ty)) (some ⟨w.heap.size, 0, none⟩) xs.length xs := by
 refine ⟨rfl, .inr ⟨_, rfl, by simp, fun j x hx => ?_⟩⟩
 have e : (⟨w.heap.size, 0, none⟩ : Addr).add j = ⟨w.heap.size, j, none⟩ := by rw [Addr.add_lit, Nat.zero_add]
 rw [e, Lib.cell_of_heap (heap_alloc_new w _)]
 simp [hx]
def cmpT (s t : ByteArray) : Int × Int := if rchk s ≠ 0 then (0, (rchk s : Int)) else if rchk t ≠ 0 then (0, (rchk t : Int)) else (cmpQ (ratS s) (ratS t), 0)
theorem cmpT_q {p q : Rat} (hp : QOk p) (hq : QOk q) : cmpT (qstr p) (qstr q) = (cmpQ p q, 0) := by
 unfold cmpT
 rw [if_neg (by rw [qstr_chk hp]; omega), if_neg (by rw [qstr_chk hq]; omega), ratS_q, ratS_q]
theorem Cmp_any (s t : ByteArray) (hs : s.size ≤ 1000000) (ht : t.size ≤ 1000000) (w : World) (hm : ML w) : Calls Tryz.prog 93 #[.string s, .string t] w (Cm (cmpT s t).1 (cmpT s t).2 w) := by
 by_cases h1 : rchk s = 0
 ·by_cases h2 : rchk t = 0
  ·obtain ⟨p, rfl, hp⟩ := rchk_rat h1
   obtain ⟨q, rfl, hq⟩ := rchk_rat h2
   rw [cmpT_q hp hq]
   exact Cmp_q p q hp hq w hm
  ·have e : cmpT s t = (0, (rchk t : Int)) := by unfold cmpT; rw [if_neg (by omega), if_pos h2]
   rw [e]
   exact Cmp_err w hs ht hm (if_neg (by omega)) h2
 ·have e : cmpT s t = (0, (rchk s : Int)) := by unfold cmpT; rw [if_pos h1]
  rw [e]
  exact Cmp_err w hs ht hm (if_pos h1) h1
def ordE : ByteArray → List ByteArray → Int
 | _, [] => 0
 | s, t :: l => if (cmpT s t).2 ≠ 0 then (cmpT s t).2 else if 0 < (cmpT s t).1 then 2 else ordE t l
set_option maxHeartbeats 3200000 in
set_option maxRecDepth 100000 in
theorem inOrder_any {s : ByteArray} {n c : Nat} {ao : Option Addr} {xs : List ByteArray} {w : World} (hr : SR w ao n xs) (hn : n ≤ 1000000) (hs : s.size ≤ 1000000) (hx : ∀ x, x ∈ xs → x.size ≤ 1000000) (hm : ML w) :
  Calls Tryz.prog 64 #[.string s, .slice ao n c] w (Er (ordE s xs) w) := by
 have HR := Lib.hid (fun W (hb : Below w.heap.size w W) => hr.below hb)
 have HC := Lib.hid (fun W a b (ha : a.size ≤ 1000000) (hb : b.size ≤ 1000000) (h : Below w.heap.size w W) => Cmp_any a b ha hb W (ml_keep hm (ml_pos hm) h))
 have HL := Lib.hid hr.1
 have HX := Lib.hid hx
 have HS := Lib.hid hs
 obtain ⟨E, hE⟩ : ∃ E, E = ordE s xs := ⟨_, rfl⟩
 rw [← hE]
 have HE := Lib.hid hE
 clear hr hm hx hs hE
 go_enter Tryz.func64, Tryz.ntmps64
 go_wp2_with fail
 go_loopw [0, 11] (fun sv iv wr => ∃ (k : Nat) (t : ByteArray), k ≤ n ∧ iv = .int .i64 (k : Int) ∧ sv = .string t ∧ Hid (t.size ≤ 1000000) ∧ Hid (E = ordE t (xs.drop k)) ∧ Below w.heap.size w wr) (fun _ iv _ => n - (intOf iv).toNat)
 case atStart => exact ⟨0, s, Nat.zero_le _, rfl, rfl, HS, Lib.hid (by rw [HE.out, List.drop_zero]), Below.refl _ _⟩
 case round =>
  obtain ⟨k, t, hk, rfl, rfl, HT, HK, hbr⟩ := hrel
  have HBR := Lib.hid hbr
  clear hbr HE HS
  by_cases hlt : k < n
  ·obtain ⟨a, x, rfl, hx, _, c0⟩ := (HR.out wr HBR.out).at hlt
   have hd : xs.drop k = x :: xs.drop (k + 1) := by
    rw [List.drop_eq_getElem_cons (by rw [HL.out]; exact hlt)]
    congr 1
    rw [List.getElem?_eq_getElem (by rw [HL.out]; exact hlt)] at hx
    exact Option.some.inj hx
   have hK := HK.out
   rw [hd] at hK
   have hxs := HX.out x (List.mem_of_getElem? hx)
   have HXS := Lib.hid hxs
   have HCC := Lib.hid (HC.out wr t x HT.out hxs HBR.out)
   unfold ordE at hK
   generalize (cmpT t x).1 = c at HCC hK
   generalize (cmpT t x).2 = m at HCC hK
   have HKK := Lib.hid hK
   clear hK hd hxs hx HK
   unfold Cm at HCC
   by_cases hm0 : m = 0
   ·subst hm0
    by_cases hc0 : 0 < c
    ·have HEE := Lib.hid (show E = 2 by rw [HKK.out, if_neg (by simp), if_pos hc0])
     clear HKK
     go_wp2_with fail
     refine HCC.out.mono ?_
     rintro e w1 ⟨rfl, hb⟩
     have HB := Lib.hid (HBR.out.trans (hb.mono HBR.out.size))
     clear hb HCC HBR
     go_wp2_with fail
     go_ret
     exact ⟨by rw [HEE.out]; rfl, HB.out⟩
    ·have HEE := Lib.hid (show E = ordE x (xs.drop (k + 1)) by rw [HKK.out, if_neg (by simp), if_neg hc0])
     clear HKK
     go_wp2_with fail
     refine HCC.out.mono ?_
     rintro e w1 ⟨rfl, hb⟩
     have HB := Lib.hid (HBR.out.trans (hb.mono HBR.out.size))
     clear hb HCC HBR
     go_wp2_with fail
     go_roundw
     case rel => exact ⟨k + 1, x, by omega, by go_num, rfl, HXS, HEE, HB.out⟩
     case measure => simp [intOf]; omega
   ·have HEE := Lib.hid (show E = m by rw [HKK.out, if_pos hm0])
    have hm1 : (m != 0) = true := by simpa using hm0
    clear HKK hm0
    go_wp2_with fail
    refine HCC.out.mono ?_
    rintro e w1 ⟨rfl, hb⟩
    have HB := Lib.hid (HBR.out.trans (hb.mono HBR.out.size))
    clear hb HCC HBR
    go_wp2_with fail
    go_ret
    exact ⟨by rw [HEE.out]; rfl, HB.out⟩
  ·obtain rfl : k = n := by omega
   have HEE := Lib.hid (show E = 0 by rw [HK.out, List.drop_eq_nil_of_le (by rw [HL.out]; omega)]; rfl)
   clear HK HR HC
   go_wp2_with fail
   go_ret
   exact ⟨by rw [HEE.out]; rfl, HBR.out⟩
end
section
open Go.RowKit NV
section
variable {P : Program} {ops : Array Oper} {Q : Exit → Act → World → Prop} {md : Region.Mode}
theorem ready_mem {l : Array Bool} {i : Nat} (h : i ∈ Region.ready md ops l) : i < ops.size ∧ l.getD i true = false ∧ ((ops[i]?).map (·.after.all fun e => !Region.binds md e || l.getD e.on false)).getD false = true := by
 unfold Region.ready at h
 rw [List.mem_filter, List.mem_range, Bool.and_eq_true] at h
 exact ⟨h.1, by simpa using h.2.1, h.2.2⟩
theorem getD_two {l : Array Bool} {i : Nat} (hi : i < l.size) (x y : Bool) : l.getD i x = l.getD i y := by
 simp [Array.getD, hi]
theorem ready_nil {l : Array Bool} (h : Region.ready md ops l = []) (hz : l.size = ops.size)
  (hd : ((List.range ops.size).all fun i => ((ops[i]?).map (·.after.all fun e => !Region.binds md e || decide (e.on < i))).getD true) = true) : ∀ i, i < ops.size → l.getD i true = true := by
 intro i
 induction i using Nat.strongRecOn with
 | _ i ih =>
  intro hi
  cases hb : l.getD i true with
  | true => rfl
  | false =>
   exfalso
   have hm : i ∈ Region.ready md ops l := by
    unfold Region.ready
    rw [List.mem_filter, List.mem_range, Bool.and_eq_true]
    refine ⟨hi, by rw [hb]; rfl, ?_⟩
    have h1 := List.all_eq_true.1 hd i (List.mem_range.2 hi)
    have ho : ops[i]? = some ops[i] := Array.getElem?_eq_getElem hi
    rw [ho] at h1 ⊢
    have h1' : (ops[i].after.all fun e => !Region.binds md e || decide (e.on < i)) = true := h1
    show (ops[i].after.all fun e => !Region.binds md e || l.getD e.on false) = true
    rw [Array.all_eq_true] at h1' ⊢
    intro j hj
    have h2 := h1' j hj
    rw [Bool.or_eq_true] at h2 ⊢
    rcases h2 with h2 | h2
    ·exact .inl h2
    ·have h3 := of_decide_eq_true h2
     exact .inr ((getD_two (by omega) _ _).trans (ih _ h3 (by omega)))
   rw [h] at hm
   cases hm
theorem count_set {l : Array Bool} {i : Nat} (hi : i < l.size) (h : l.getD i true = false) : (l.setIfInBounds i true).toList.count false + 1 = l.toList.count false := by
 have e : (l.setIfInBounds i true).toList = l.toList.set i true := by simp
 rw [e]
 have h2 : l.toList[i]'(by simpa using hi) = false := by
  simpa [Array.getD, hi] using h
 rw [List.count_set (by simpa using hi), h2]
 have h3 : 0 < l.toList.count false := List.count_pos_iff.2 (h2 ▸ List.getElem_mem _)
 have e1 : ((false : Bool) == false) = true := rfl
 have e2 : ((true : Bool) == false) = false := rfl
 rw [e1, e2]
 simp only [if_true, Bool.false_eq_true, if_false]
 omega
theorem wpAny_inv {I : Array Bool → Act → World → Prop} (hz : ∀ l a w, I l a w → l.size = ops.size)
  (hs : ∀ i l a w, I l a w → i ∈ Region.ready md ops l → wpOp P ops Q i (fun a' w' => I (l.setIfInBounds i true) a' w') a w)
  (hd : ∀ l a w, I l a w → Region.ready md ops l = [] → Q .normal a w) :
  ∀ fuel l a w, I l a w → l.toList.count false ≤ fuel → wpAny P md ops Q fuel l a w
 | 0, l, a, w, h, hc => by
  have hr : Region.ready md ops l = [] := by
   cases hR : Region.ready md ops l with
   | nil => rfl
   | cons i rs =>
    exfalso
    obtain ⟨h1, h2, _⟩ := ready_mem (i := i) (md := md) (ops := ops) (l := l) (by rw [hR]; exact List.mem_cons_self ..)
    have := count_set (i := i) (l := l) (by rw [hz l a w h]; exact h1) h2
    omega
  exact ⟨hr, hd _ _ _ h hr⟩
 | fuel + 1, l, a, w, h, hc => ⟨fun hr => hd _ _ _ h hr, fun i hi => by
   obtain ⟨h1, h2, _⟩ := ready_mem hi
   have h3 := count_set (i := i) (l := l) (by rw [hz l a w h]; exact h1) h2
   exact wpOp_mono (fun a' w' h' => wpAny_inv hz hs hd fuel _ _ _ h' (by omega)) (hs i l a w h hi)⟩
theorem wp_region_inv {I : Array Bool → Act → World → Prop} {id : Nat} {a : Act} {w : World} (hm : P.follows .mixedOrders = true) (hz : ∀ l a w, I l a w → l.size = ops.size)
  (hs : ∀ i l a w, I l a w → i ∈ Region.ready .any ops l → wpOp P ops Q i (fun a' w' => I (l.setIfInBounds i true) a' w') a w)
  (hd : ∀ l a w, I l a w → Region.ready .any ops l = [] → Q .normal a w) (h0 : I (Array.replicate ops.size false) a w.drew) : (Code.region id ops true).wp P Q a w :=
 wp_region_any hm (wpAny_inv hz hs hd _ _ _ _ h0 (by simp))
end
end
end Go.Proofs.YtjpepjooefkbkaaGreatDoor
