/-
  Package bell: parts, product. Package bell: the iterator of odd powers. Package bell: the first numbers of an iterator. Package bell: reversing a list of numbers; products. Package bell: the weights of the values from 0 on. Package bell: the weights on both sides. Package bell: Weights for every input. Package bell: its weights may be drawn with; Draw and Late.
-/
import Derived.Test.YteojekiocecdnaaGreatDoorHR
import Derived.Test.YteojekiocecdnaaGreatDoorHG
import Derived.Test.YteojekiocecdnaaGreatDoorHH
import Derived.Test.YteojekiocecdnaaGreatDoorEB
import Derived.Test.YteojekiocecdnaaGreatDoorB1
import Derived.Test.YteojekiocecdnaaGreatDoorF3
import Derived.OrdersIn
import Derived.Deep.LoopGhost
import Derived.Deep.AppendLies
import Derived.Maps.OwnIn
import Derived.Test.YteojekiocecdnaaGreatDoorEE
import Derived.Maps.AppendAt
import Derived.Test.YteojekiocecdnaaGreatDoorY1
import Derived.Laws.MakeOwn
import Derived.Test.YteojekiocecdnaaGreatDoorEC
namespace Go.Proofs.YteojekiocecdnaaGreatDoor
open Go.RowKit NV
open Go.Lib (decDigits)

def topB (q : Rat) : Rat := ⟨q.num, 1, by decide, by simp⟩
theorem topB_ng (q : Rat) : ng (topB q) = ng q := rfl
theorem topB_tp (q : Rat) : tp (topB q) = tp q := rfl
theorem topB_str (q : Rat) : qstr (topB q) = istr (ng q) (tp q) := by
  unfold qstr
  rw [rstr_eq, if_pos (show (topB q).den = 1 from rfl)]; rfl
theorem topB_ok {q : Rat} (h : QOk q) : QOk (topB q) := ⟨h.1, ok_two (n := 1) (by omega) (by show 1 ≤ _; omega)⟩

/-- The error of a ratio; 0 where there is none. -/
def belP (m : Bool) (n d : Nat) : Nat := if m then 2 else if n = 0 then 2 else if d < n then 2 else 0
def belE (q : Rat) : Nat := belP (ng q) (tp q) q.den
theorem belE_ok {q : Rat} (h : belE q = 0) : ng q = false ∧ 0 < tp q ∧ tp q ≤ q.den := by
  unfold belE belP at h
  cases hn : ng q with
  | true => rw [hn] at h; simp at h
  | false =>
    rw [hn] at h
    simp only [Bool.false_eq_true, if_false] at h
    split at h
    · omega
    · split at h
      · omega
      · exact ⟨rfl, by omega, by omega⟩
theorem belE_two {q : Rat} (h : belE q ≠ 0) : belE q = 2 := by
  unfold belE belP at h ⊢
  split at h <;> split <;> (try rfl) <;> (try contradiction)
  split <;> (try rfl)
  split <;> (try rfl)
  simp_all

theorem sgnB (q : Rat) : sgnQ (topB q) = if tp q = 0 then 0 else if ng q then -1 else 1 := by
  rw [← sgnF_q, topB_ng, topB_tp]; rfl

set_option maxHeartbeats 1600000 in
theorem bparts_err {s : ByteArray} (w : World) (hs : s.size ≤ 1000000) (hm : ML w) {c : Nat} (hc : rchk s = c) (h0 : c ≠ 0) :
    Calls Tryz.prog 93 #[.string s] w fun e w' => e = .returned (.tuple #[.string ⟨#[]⟩, .string ⟨#[]⟩, .int .i64 ((c : Nat) : Int)]) ∧ Below w.heap.size w w' := by
  have HK := Lib.hid (Parts_err1 w hs hm hc h0)
  have hne := errne h0
  clear hc h0 hs hm
  go_enter Tryz.func93, Tryz.ntmps93
  go_wp2_with fail
  refine HK.out.mono ?_
  rintro e w1 ⟨rfl, hb1⟩
  have HB := Lib.hid hb1
  clear hb1 HK
  go_wp2_with fail
  go_ret3
  exact ⟨rfl, HB.out⟩

set_option maxHeartbeats 1600000 in
theorem bparts_low {q : Rat} (op : QOk q) (hn : ng q = true ∨ tp q = 0) (w : World) (hm : ML w) :
    Calls Tryz.prog 93 #[.string (qstr q)] w fun e w' => e = .returned (.tuple #[.string ⟨#[]⟩, .string ⟨#[]⟩, .int .i64 2]) ∧ Below w.heap.size w w' := by
  have HK := Lib.hid (Parts_q q op w hm)
  have hsg := fun W (h : Below w.heap.size w W) => Sign_q (topB q) (topB_ok op) W (ml_keep hm (ml_pos hm) h)
  rw [topB_str] at hsg
  have HSG := Lib.hid hsg
  have hneg : sgnQ (topB q) ≤ 0 := by
    rw [sgnB]
    rcases hn with h | h
    · rw [h]; split <;> simp
    · rw [if_pos h]; omega
  generalize istr (ng q) (tp q) = s1 at *
  generalize dstr q.den = s2 at *
  generalize qstr q = s at *
  generalize sgnQ (topB q) = sg at *
  clear op hn hm hsg
  go_enter Tryz.func93, Tryz.ntmps93
  go_wp2_with fail
  refine HK.out.mono ?_
  rintro e w1 ⟨rfl, hb1⟩
  have HB := Lib.hid hb1
  clear hb1 HK
  go_wp2_with fail
  refine (HSG.out _ HB.out).mono ?_
  rintro e w2 ⟨rfl, hb2⟩
  replace HB := Lib.hid (HB.out.trans (hb2.mono HB.out.size))
  clear hb2 HSG
  go_wp2_with fail
  go_ret3
  exact ⟨rfl, HB.out⟩

set_option maxHeartbeats 1600000 in
theorem bparts_high {q : Rat} (op : QOk q) (hn : ng q = false) (h0 : tp q ≠ 0) (hd : q.den < tp q) (w : World) (hm : ML w) :
    Calls Tryz.prog 93 #[.string (qstr q)] w fun e w' => e = .returned (.tuple #[.string ⟨#[]⟩, .string ⟨#[]⟩, .int .i64 2]) ∧ Below w.heap.size w w' := by
  have HK := Lib.hid (Parts_q q op w hm)
  have hsg := fun W (h : Below w.heap.size w W) => Sign_q (topB q) (topB_ok op) W (ml_keep hm (ml_pos hm) h)
  rw [topB_str] at hsg
  have HSG := Lib.hid hsg
  have hneg : ¬ sgnQ (topB q) ≤ 0 := by
    rw [sgnB, if_neg (by omega), hn]; simp
  rw [hn, show istr false (tp q) = dstr (tp q) from rfl] at HK HSG
  have HC := Lib.hid (fun W => Cmp_ok (tp q) q.den op.1 op.2 W)
  have hgt : 0 < cmpN (tp q) q.den := by unfold cmpN; rw [if_neg (by omega), if_pos hd]; omega
  generalize dstr (tp q) = s1 at *
  generalize dstr q.den = s2 at *
  generalize qstr q = s at *
  generalize sgnQ (topB q) = sg at *
  generalize cmpN (tp q) q.den = cm at *
  clear op hn hm hsg h0 hd
  go_enter Tryz.func93, Tryz.ntmps93
  go_wp2_with fail
  refine HK.out.mono ?_
  rintro e w1 ⟨rfl, hb1⟩
  have HB := Lib.hid hb1
  clear hb1 HK
  go_wp2_with fail
  refine (HSG.out _ HB.out).mono ?_
  rintro e w2 ⟨rfl, hb2⟩
  replace HB := Lib.hid (HB.out.trans (hb2.mono HB.out.size))
  clear hb2 HSG
  go_wp2_with fail
  refine (HC.out _).mono ?_
  rintro e w3 ⟨rfl, hb3⟩
  replace HB := Lib.hid (HB.out.trans (hb3.mono HB.out.size))
  clear hb3 HC
  go_wp2_with fail
  go_ret3
  exact ⟨rfl, HB.out⟩

set_option maxHeartbeats 1600000 in
theorem bparts_ok {q : Rat} (op : QOk q) (hn : ng q = false) (h0 : tp q ≠ 0) (hd : ¬ q.den < tp q) (w : World) (hm : ML w) :
    Calls Tryz.prog 93 #[.string (qstr q)] w fun e w' => e = .returned (.tuple #[.string (dstr (tp q)), .string (dstr q.den), .int .i64 0]) ∧ Below w.heap.size w w' := by
  have HK := Lib.hid (Parts_q q op w hm)
  have hsg := fun W (h : Below w.heap.size w W) => Sign_q (topB q) (topB_ok op) W (ml_keep hm (ml_pos hm) h)
  rw [topB_str] at hsg
  have HSG := Lib.hid hsg
  have hneg : ¬ sgnQ (topB q) ≤ 0 := by
    rw [sgnB, if_neg (by omega), hn]; simp
  rw [hn, show istr false (tp q) = dstr (tp q) from rfl] at HK HSG
  have HC := Lib.hid (fun W => Cmp_ok (tp q) q.den op.1 op.2 W)
  have hgt : ¬ 0 < cmpN (tp q) q.den := by unfold cmpN; split <;> (try rw [if_neg hd]) <;> omega
  generalize dstr (tp q) = s1 at *
  generalize dstr q.den = s2 at *
  generalize qstr q = s at *
  generalize sgnQ (topB q) = sg at *
  generalize cmpN (tp q) q.den = cm at *
  clear op hn hm hsg h0 hd
  go_enter Tryz.func93, Tryz.ntmps93
  go_wp2_with fail
  refine HK.out.mono ?_
  rintro e w1 ⟨rfl, hb1⟩
  have HB := Lib.hid hb1
  clear hb1 HK
  go_wp2_with fail
  refine (HSG.out _ HB.out).mono ?_
  rintro e w2 ⟨rfl, hb2⟩
  replace HB := Lib.hid (HB.out.trans (hb2.mono HB.out.size))
  clear hb2 HSG
  go_wp2_with fail
  refine (HC.out _).mono ?_
  rintro e w3 ⟨rfl, hb3⟩
  replace HB := Lib.hid (HB.out.trans (hb3.mono HB.out.size))
  clear hb3 HC
  go_wp2_with fail
  go_ret3
  exact ⟨rfl, HB.out⟩

/-- The error of a text as a ratio. -/
def beE (s : ByteArray) : Nat := if rchk s ≠ 0 then rchk s else belP (minusB (numS s)) (dv (restS (numS s)).data.toList) (dv (denS s).data.toList)
theorem beE_q {q : Rat} (op : QOk q) : beE (qstr q) = belE q := by
  unfold beE
  rw [if_neg (by rw [qstr_chk op]; simp)]
  obtain ⟨_, _, h3, _, h5, h6⟩ := qstr_parts q
  rw [h3, h5, h6]; rfl
theorem beE_chk {s : ByteArray} (h : rchk s ≠ 0) : beE s = rchk s := if_pos h
/-- A text is a ratio, or it has an error. -/
theorem bel_cases {s : ByteArray} (h : beE s = 0) : ∃ q : Rat, s = qstr q ∧ QOk q ∧ belE q = 0 := by
  by_cases h0 : rchk s = 0
  · obtain ⟨q, rfl, op⟩ := rchk_rat h0
    rw [beE_q op] at h
    exact ⟨q, rfl, op, h⟩
  · rw [beE_chk h0] at h; exact absurd h h0

theorem bparts_no {s : ByteArray} (hs : s.size ≤ 1000000) (h : beE s ≠ 0) (w : World) (hm : ML w) :
    Calls Tryz.prog 93 #[.string s] w fun e w' => e = .returned (.tuple #[.string ⟨#[]⟩, .string ⟨#[]⟩, .int .i64 ((beE s : Nat) : Int)]) ∧ Below w.heap.size w w' := by
  by_cases h0 : rchk s = 0
  · obtain ⟨q, rfl, op⟩ := rchk_rat h0
    rw [beE_q op] at h ⊢
    rw [belE_two h]
    by_cases hl : ng q = true ∨ tp q = 0
    · exact bparts_low op hl w hm
    · have hn : ng q = false := by
        cases hx : ng q with
        | true => exact absurd (.inl hx) hl
        | false => rfl
      by_cases hd : q.den < tp q
      · exact bparts_high op hn (fun e => hl (.inr e)) hd w hm
      · exact absurd (by unfold belE belP; rw [hn, if_neg (by simp), if_neg (fun e => hl (.inr e)), if_neg hd]) h
  · rw [beE_chk h0]
    exact bparts_err w hs hm rfl h0
theorem bparts_yes {q : Rat} (op : QOk q) (h : belE q = 0) (w : World) (hm : ML w) :
    Calls Tryz.prog 93 #[.string (qstr q)] w fun e w' => e = .returned (.tuple #[.string (dstr (tp q)), .string (dstr q.den), .int .i64 0]) ∧ Below w.heap.size w w' := by
  obtain ⟨h1, h2, h3⟩ := belE_ok h
  exact bparts_ok op h1 (by omega) (by omega) w hm

set_option maxHeartbeats 1600000 in
theorem product_ok {a b : Nat} (ha : Ok a) (hb : Ok b) (hab : Ok (a * b)) (w : World) (htab : Tab w) :
    Calls Tryz.prog 162 #[.string (dstr a), .string (dstr b)] w fun e w' => e = .returned (.string (dstr (a * b))) ∧ Below w.heap.size w w' := by
  have HM := Lib.hid (Mul_ok a b ha hb hab w htab)
  generalize dstr (a * b) = p at *
  generalize dstr a = x at *
  generalize dstr b = y at *
  clear ha hb hab htab
  go_enter Tryz.func162, Tryz.ntmps162
  go_wp2_with fail
  refine HM.out.mono ?_
  rintro e w1 ⟨rfl, hb1⟩
  have HB := Lib.hid hb1
  clear hb1 HM
  go_wp2_with fail
  go_ret
  exact ⟨rfl, HB.out⟩

open Go.RowKit NV
open Go.Lib (decDigits)

section
variable {F : Fence} {n : Nat} {P : Program} {ops : Array Oper} {Q : Exit → Act → World → Prop} {md : Region.Mode}
/-- One operation may come up. -/
theorem wpAnyIn_one {i fuel : Nat} {l : Array Bool} {a : Act} {w : World} (hr : Region.ready md ops l = [i]) (h : wpOpIn F n P ops Q i (wpAnyIn F n P md ops Q fuel (l.setIfInBounds i true)) a w) : wpAnyIn F n P md ops Q (fuel + 1) l a w :=
  wpAnyIn_all hr (by simp) fun j hj => by
    rw [List.mem_singleton] at hj
    subst hj; exact h
/-- Two may. -/
theorem wpAnyIn_two {i j fuel : Nat} {l : Array Bool} {a : Act} {w : World} (hr : Region.ready md ops l = [i, j]) (h : wpOpIn F n P ops Q i (wpAnyIn F n P md ops Q fuel (l.setIfInBounds i true)) a w) (h2 : wpOpIn F n P ops Q j (wpAnyIn F n P md ops Q fuel (l.setIfInBounds j true)) a w) : wpAnyIn F n P md ops Q (fuel + 1) l a w :=
  wpAnyIn_all hr (by simp) fun k hk => by
    rcases List.mem_cons.1 hk with rfl | hk
    · exact h
    · rw [List.mem_singleton] at hk
      subst hk; exact h2
theorem wpOpIn_run {i : Nat} {o : Oper} {K : Act → World → Prop} {a : Act} {w : World} (hi : ops[i]? = some o) (hg : o.guard = none) (h : Oper.wpIn F n P o a w K Q) : wpOpIn F n P ops Q i K a w := by
  unfold wpOpIn
  simp only [hi]
  rw [if_pos (by simp [Region.wanted, hg])]
  exact h
/-- An operation that yields in whatever world is taken first. -/
theorem wpAnyIn_takeD {i : Nat} {oi : Oper} {v : Value} {d fuel : Nat} {listed : Array Bool} {a : Act} {w : World} (hro : F.round = none) (hi : ops[i]? = some oi) (hd : oi.dst = some d)
    (hs : Region.noSelect ops = true) (hf : Region.free md ops listed i = true) (hr : (Region.ready md ops listed).contains i = true)
    (hQ : ∀ c a w, Q (.panic c) (a.put (some d) v) w → Q (.panic c) a w) (hg : oi.guard = none) (hy : ∀ w, (execOp a.eval oi).run P w = .ok (.value v) w) (hab : ∀ w, oi.about P w a.eval = none)
    (h : wpAnyIn F n P md ops Q fuel (listed.setIfInBounds i true) (a.put (some d) v) w) : wpAnyIn F n P md ops Q (fuel + 1) listed a w :=
  wpAnyIn_take hro hi hs hf hr (hd ▸ hQ) ⟨.inl ⟨by simp [Region.wanted, hg], hy⟩, hab⟩ (hd ▸ h)
end
/-- A value in the wide fence. -/
theorem wide_value {n : Nat} {P : Program} {Q : Exit → Act → World → Prop} {o : Oper} {K : Act → World → Prop} {a : Act} {w w' : World} {v : Value} {d : Nat} (hd : o.dst = some d) (h : (o.semAt none a.eval).run P w = .ok (.value v) w') (hK : K (a.put (some d) v) w') : Oper.wpIn Fence.wide n P o a w K Q := by
  refine ⟨fun _ _ => trivial, ?_⟩
  rw [show Fence.wide.round = none from rfl, h]
  simp only [Oper.uponIn_value, hd]; exact hK
theorem wide_read {n : Nat} {P : Program} {Q : Exit → Act → World → Prop} {o : Oper} {K : Act → World → Prop} {a : Act} {w : World} {v : Value} {d : Nat} (hd : o.dst = some d) (h : (o.semAt none a.eval).run P w = .ok (.value v) w) (hK : K (a.put (some d) v) w) : Oper.wpIn Fence.wide n P o a w K Q := wide_value hd h hK
/-- A call in the wide fence. -/
theorem wide_call {n : Nat} {P : Program} {Q : Exit → Act → World → Prop} {o : Oper} {K : Act → World → Prop} {a : Act} {w : World} {f : FuncId} {args : Array Value} {d : Nat} (hd : o.dst = some d) (h : (o.semAt none a.eval).run P w = .ok (.enter f args) w)
    (hC : CallsIn Fence.wide (n - 1) P f args w fun e w' => ∃ v, e = .returned v ∧ K (a.put (some d) v) w') : Oper.wpIn Fence.wide n P o a w K Q := by
  refine ⟨fun _ _ => trivial, ?_⟩
  rw [show Fence.wide.round = none from rfl, h, Oper.uponIn_enter]
  refine ⟨(fun h => by cases h), hC.mono ?_⟩
  rintro e w' ⟨v, rfl, hK⟩
  rw [hd]; exact hK

set_option maxHeartbeats 1600000 in
theorem oddPowers_any (x : ByteArray) (w : World) :
    Calls Tryz.prog 159 #[.string x] w fun e w' =>
      e = .returned (.func (.func 208) #[] #[.pointer (some ⟨w.heap.size, 0, none⟩)]) ∧ Boxed w' w.heap.size 22 (.string x) ∧ Below w.heap.size w w' := by
  have hmf : ∀ (fn : Fn) (first cap : Array Value) (w : World), (Instr.makeFunc fn first cap).run Tryz.prog w = .ok (.func fn first cap) w := fun _ _ _ _ => rfl
  have HB1 := Lib.hid (Boxed.new w 22 (.string x))
  have HB := Lib.hid ((Below.refl w.heap.size w).alloc (Nat.le_refl _) (.cells #[.string x] 22))
  go_enter Tryz.func159, Tryz.ntmps159
  go_wp2_with fail
  go_ret
  exact ⟨rfl, HB1.out, HB.out⟩

/-- An odd power. -/
def oP (x k : Nat) : Nat := x ^ (2 * k + 1)
theorem oP_next (x k : Nat) : oP x k * x * x = oP x (k + 1) := by
  unfold oP
  rw [show 2 * (k + 1) + 1 = 2 * k + 1 + 1 + 1 by omega, Nat.pow_succ x (2 * k + 1 + 1), Nat.pow_succ x (2 * k + 1)]
theorem oP_ok {x k : Nat} (hx : 1 ≤ x) (h : Ok (oP x (k + 1))) : Ok (oP x k) ∧ Ok (oP x k * x) ∧ Ok x := by
  rw [← oP_next] at h
  have h1 : oP x k ≤ oP x k * x := Nat.le_mul_of_pos_right _ hx
  have h2 : oP x k * x ≤ oP x k * x * x := Nat.le_mul_of_pos_right _ hx
  have h3 : x ≤ oP x k := by unfold oP; rw [Nat.pow_succ]; exact Nat.le_mul_of_pos_left _ (Nat.pow_pos hx)
  exact ⟨h.mono (by omega), h.mono h2, h.mono (by omega)⟩

/-- Ahead of a round of the iterator; j rounds at most come behind it. -/
def OddR (x n bA : Nat) (T : Nat → Prop) (J : Nat → World → Prop) (W : World) (j : Nat) (pv : Value) (wr : World) : Prop :=
  ∃ k, k + j + 1 = n ∧ pv = .string (dstr (oP x k)) ∧ J k wr ∧ Boxed wr bA 22 (.string (dstr x)) ∧ Ch T W wr

/-- Behind a yield: the caller's state, the iterator's block. -/
def OddW (x bA : Nat) (T : Nat → Prop) (I : World → Prop) (W wr : World) : Prop := I wr ∧ Boxed wr bA 22 (.string (dstr x)) ∧ Ch T W wr
theorem oddW_drew {x bA k : Nat} {T : Nat → Prop} {J : Nat → World → Prop} {W wr : World} (hJ : ∀ k W W', J k W → Ch (fun _ => False) W W' → J k W') (h : OddW x bA T (J k) W wr) : OddW x bA T (J k) W wr.drew :=
  ⟨hJ _ _ _ h.1 (Ch.drew _ _), h.2.1, h.2.2.trans (Ch.drew _ _)⟩
theorem oddW_below {x bA k : Nat} {T : Nat → Prop} {J : Nat → World → Prop} {W wr w' : World} (hJ : ∀ k W W', J k W → Ch (fun _ => False) W W' → J k W') (h : OddW x bA T (J k) W wr) (hb : Below wr.heap.size wr w') : OddW x bA T (J k) W w' :=
  ⟨hJ _ _ _ h.1 (Ch.below hb), (Ch.below (S := fun _ => False) hb).boxed (fun h => h) h.2.1, h.2.2.trans (Ch.below hb)⟩
theorem oddW_tab {x bA : Nat} {T : Nat → Prop} {I : World → Prop} {W wr : World} (hT : ∀ W', Ch T W W' → Tab W') (h : OddW x bA T I W wr) : Tab wr := hT _ h.2.2
theorem oddW_rel {x bA k j n : Nat} {T : Nat → Prop} {J : Nat → World → Prop} {W wr : World} (h : OddW x bA T (J (k + 1)) W wr) (hk : k + j + 1 = n) (hkn : k + 1 < n) : OddR x n bA T J W (j - 1) (.string (dstr (oP x (k + 1)))) wr :=
  ⟨k + 1, by omega, rfl, h.1, h.2.1, h.2.2⟩

set_option maxHeartbeats 6400000 in
set_option maxRecDepth 100000 in
theorem odd_calls {m bA l x n : Nat} {T : Nat → Prop} (hx : 1 ≤ x) (hn : 1 ≤ n) (hok : ∀ k, k + 1 < n → Ok (oP x (k + 1))) (hTA : ¬ T bA) (hm : 1 ≤ m)
    (J : Nat → World → Prop) (X : World → Prop) (hJ : ∀ k W W', J k W → Ch (fun _ => False) W W' → J k W')
    (hY : ∀ k W, J k W → YieldAt Fence.wide (m - 1) Tryz.prog l #[.string (dstr (oP x k))] W fun e W' => (e = .returned (.bool true) ∧ k + 1 < n ∧ J (k + 1) W' ∧ Ch T W W') ∨ (e = .returned (.bool false) ∧ X W'))
    (W : World) (hTM : ∀ W', Ch T W W' → Tab W') (s0 : Boxed W bA 22 (.string (dstr x))) (h0 : J 0 W) :
    CallsIn Fence.wide m Tryz.prog 208 (#[.func (.yield l) #[] #[]] ++ #[.pointer (some ⟨bA, 0, none⟩)]) W fun e W' => (∃ v, e = .returned v) ∧ X W' := by
  refine callsIn_of_wp Tryz.func208 rfl trivial ?_ rfl
  simp only [Tryz.ntmps208, List.size_toArray, List.length_cons, List.length_nil, Nat.reduceAdd, Nat.reduceSub, Array.replicate_succ, Array.replicate_zero, List.push_toArray, List.append_toArray, List.nil_append, List.cons_append]
  have HJ := Lib.hid hJ
  have HY := Lib.hid hY
  have HTM := Lib.hid hTM
  have HOK := Lib.hid hok
  have HTA := Lib.hid hTA
  have HX1 := Lib.hid hx
  have HS := Lib.hid (And.intro s0 (And.intro h0 hn))
  have hbox := s0.cell
  clear hJ hY hTM hok hTA hx hn s0 h0
  gi_wp2
  gi_loopw [3] (fun pv wr => ∃ j, OddR x n bA T J W j pv wr) (fun pv wr => leastOf (fun j => OddR x n bA T J W j pv wr))
  case atStart => exact ⟨n - 1, 0, by have := HS.out.2.2; omega, by unfold oP; rw [Nat.mul_zero, Nat.zero_add, Nat.pow_one], HS.out.2.1, HS.out.1, Ch.refl _ _⟩
  case round =>
    have hl := (leastOf_spec hrel).1
    have HLE := Lib.hid (rfl : leastOf (fun j => OddR x n bA T J W j u3 wr) = leastOf (fun j => OddR x n bA T J W j u3 wr))
    generalize hj0 : leastOf (fun j => OddR x n bA T J W j u3 wr) = j0 at hl
    have HJ0 := Lib.hid hj0
    clear hrel hbox HLE hj0
    obtain ⟨k, hk, rfl, hj, hA, hc⟩ := hl
    have HYk := Lib.hid (HY.out k)
    obtain ⟨fn, tmps, assign, body, hy, hR⟩ := HYk.out _ hj
    have HR := Lib.hid hR
    have HH := Lib.hid (And.intro hA hc)
    have HK := Lib.hid hk
    clear hR hj hA hc HS HY hk
    gi_wp2
    refine HR.out.mono ?_
    rintro e W3 (⟨rfl, hkn, hj4, hc4⟩ | ⟨rfl, hx⟩)
    · have hA4 := hc4.boxed HTA.out HH.out.1
      have hc5 := HH.out.2.trans hc4
      obtain ⟨o1, o2, o3⟩ := oP_ok HX1.out (HOK.out k hkn)
      have HP1 := Lib.hid (fun V (ht : Tab V) => product_ok o1 o3 o2 V ht)
      have HP2 := Lib.hid (fun V (ht : Tab V) => product_ok o2 o3 (oP_next x k ▸ HOK.out k hkn) V ht)
      clear o1 o2 o3
      clear hy HR
      gi_wp2
      refine wpIn_region_any (by kernel_rfl) ?_
      change wpAnyIn _ _ _ _ _ _ 6 _ _ (World.drew _)
      have HA := Lib.hid (oddW_drew HJ.out (show OddW x bA T (J (k + 1)) W W3 from ⟨hj4, hA4, hc5⟩))
      clear hj4 hA4 hc5 hc4
      generalize World.drew W3 = W5 at *
      refine wpAnyIn_takeD (i := 0) (d := 8) (v := .string (dstr (oP x k))) rfl rfl rfl (by kernel_rfl) (by kernel_rfl) (by kernel_rfl) (fun _ _ _ h => h) rfl (fun W => by go_simp) (fun _ => rfl) ?_
      simp only [Act.put, List.setIfInBounds_toArray, List.set_cons_zero, List.set_cons_succ]
      refine wpAnyIn_two (i := 1) (j := 3) (by kernel_rfl) ?_ ?_
      · have c9 := HA.out.2.1.cell
        refine wpOpIn_run rfl rfl (wide_read (d := 9) (v := .string (dstr x)) rfl (by go_simp) ?_)
        clear c9
        simp only [Act.put, List.setIfInBounds_toArray, List.set_cons_zero, List.set_cons_succ]
        refine wpAnyIn_two (i := 2) (j := 3) (by kernel_rfl) ?_ ?_
        · refine wpOpIn_run rfl rfl (wide_call (d := 10) rfl (by go_simp) ((callsIn_wide.2 (HP1.out _ (oddW_tab HTM.out HA.out))).mono ?_))
          rintro e W6 ⟨rfl, hb⟩
          refine ⟨_, rfl, ?_⟩
          simp only [Act.put, List.setIfInBounds_toArray, List.set_cons_zero, List.set_cons_succ]
          have HB := Lib.hid (oddW_below HJ.out HA.out hb)
          clear hb
          refine wpAnyIn_one (i := 3) (by kernel_rfl) ?_
          have c9 := HB.out.2.1.cell
          refine wpOpIn_run rfl rfl (wide_read (d := 11) (v := .string (dstr x)) rfl (by go_simp) ?_)
          clear c9
          simp only [Act.put, List.setIfInBounds_toArray, List.set_cons_zero, List.set_cons_succ]
          refine wpAnyIn_one (i := 4) (by kernel_rfl) ?_
          refine wpOpIn_run rfl rfl (wide_call (d := 12) rfl (by go_simp) ((callsIn_wide.2 (HP2.out _ (oddW_tab HTM.out HB.out))).mono ?_))
          rintro e W7 ⟨rfl, hb⟩
          refine ⟨_, rfl, ?_⟩
          simp only [Act.put, List.setIfInBounds_toArray, List.set_cons_zero, List.set_cons_succ]
          have HC := Lib.hid (oddW_below HJ.out HB.out hb)
          clear hb
          refine wpAnyIn_takeD (i := 5) (d := 3) (v := .string (dstr (oP x k * x * x))) rfl rfl rfl (by kernel_rfl) (by kernel_rfl) (by kernel_rfl) (fun _ _ _ h => h) rfl (fun W => by go_simp) (fun _ => rfl) ?_
          simp only [Act.put, List.setIfInBounds_toArray, List.set_cons_zero, List.set_cons_succ]
          refine wpAnyIn_done (by kernel_rfl) ?_ _
          rw [oP_next]
          gi_wp2
          go_roundw
          case rel => exact ⟨j0 - 1, oddW_rel HC.out HK.out hkn⟩
          case measure =>
            have h1 := (leastOf_spec (p := fun j => OddR x n bA T J W j (.string (dstr (oP x (k + 1)))) W7) ⟨_, oddW_rel HC.out HK.out hkn⟩).2 _ (oddW_rel HC.out HK.out hkn)
            have h2 := HJ0.out
            have h3 := HK.out
            show leastOf (fun j => OddR x n bA T J W j (.string (dstr (oP x (k + 1)))) W7) < leastOf (fun j => OddR x n bA T J W j (.string (dstr (oP x k))) wr)
            rw [h2]
            omega
        · have c9 := HA.out.2.1.cell
          refine wpOpIn_run rfl rfl (wide_read (d := 11) (v := .string (dstr x)) rfl (by go_simp) ?_)
          clear c9
          simp only [Act.put, List.setIfInBounds_toArray, List.set_cons_zero, List.set_cons_succ]
          refine wpAnyIn_one (i := 2) (by kernel_rfl) ?_
          refine wpOpIn_run rfl rfl (wide_call (d := 10) rfl (by go_simp) ((callsIn_wide.2 (HP1.out _ (oddW_tab HTM.out HA.out))).mono ?_))
          rintro e W6 ⟨rfl, hb⟩
          refine ⟨_, rfl, ?_⟩
          simp only [Act.put, List.setIfInBounds_toArray, List.set_cons_zero, List.set_cons_succ]
          have HB := Lib.hid (oddW_below HJ.out HA.out hb)
          clear hb
          refine wpAnyIn_one (i := 4) (by kernel_rfl) ?_
          refine wpOpIn_run rfl rfl (wide_call (d := 12) rfl (by go_simp) ((callsIn_wide.2 (HP2.out _ (oddW_tab HTM.out HB.out))).mono ?_))
          rintro e W7 ⟨rfl, hb⟩
          refine ⟨_, rfl, ?_⟩
          simp only [Act.put, List.setIfInBounds_toArray, List.set_cons_zero, List.set_cons_succ]
          have HC := Lib.hid (oddW_below HJ.out HB.out hb)
          clear hb
          refine wpAnyIn_takeD (i := 5) (d := 3) (v := .string (dstr (oP x k * x * x))) rfl rfl rfl (by kernel_rfl) (by kernel_rfl) (by kernel_rfl) (fun _ _ _ h => h) rfl (fun W => by go_simp) (fun _ => rfl) ?_
          simp only [Act.put, List.setIfInBounds_toArray, List.set_cons_zero, List.set_cons_succ]
          refine wpAnyIn_done (by kernel_rfl) ?_ _
          rw [oP_next]
          gi_wp2
          go_roundw
          case rel => exact ⟨j0 - 1, oddW_rel HC.out HK.out hkn⟩
          case measure =>
            have h1 := (leastOf_spec (p := fun j => OddR x n bA T J W j (.string (dstr (oP x (k + 1)))) W7) ⟨_, oddW_rel HC.out HK.out hkn⟩).2 _ (oddW_rel HC.out HK.out hkn)
            have h2 := HJ0.out
            have h3 := HK.out
            show leastOf (fun j => OddR x n bA T J W j (.string (dstr (oP x (k + 1)))) W7) < leastOf (fun j => OddR x n bA T J W j (.string (dstr (oP x k))) wr)
            rw [h2]
            omega
      · have c9 := HA.out.2.1.cell
        refine wpOpIn_run rfl rfl (wide_read (d := 11) (v := .string (dstr x)) rfl (by go_simp) ?_)
        clear c9
        simp only [Act.put, List.setIfInBounds_toArray, List.set_cons_zero, List.set_cons_succ]
        refine wpAnyIn_one (i := 1) (by kernel_rfl) ?_
        have c9 := HA.out.2.1.cell
        refine wpOpIn_run rfl rfl (wide_read (d := 9) (v := .string (dstr x)) rfl (by go_simp) ?_)
        clear c9
        simp only [Act.put, List.setIfInBounds_toArray, List.set_cons_zero, List.set_cons_succ]
        refine wpAnyIn_one (i := 2) (by kernel_rfl) ?_
        refine wpOpIn_run rfl rfl (wide_call (d := 10) rfl (by go_simp) ((callsIn_wide.2 (HP1.out _ (oddW_tab HTM.out HA.out))).mono ?_))
        rintro e W6 ⟨rfl, hb⟩
        refine ⟨_, rfl, ?_⟩
        simp only [Act.put, List.setIfInBounds_toArray, List.set_cons_zero, List.set_cons_succ]
        have HB := Lib.hid (oddW_below HJ.out HA.out hb)
        clear hb
        refine wpAnyIn_one (i := 4) (by kernel_rfl) ?_
        refine wpOpIn_run rfl rfl (wide_call (d := 12) rfl (by go_simp) ((callsIn_wide.2 (HP2.out _ (oddW_tab HTM.out HB.out))).mono ?_))
        rintro e W7 ⟨rfl, hb⟩
        refine ⟨_, rfl, ?_⟩
        simp only [Act.put, List.setIfInBounds_toArray, List.set_cons_zero, List.set_cons_succ]
        have HC := Lib.hid (oddW_below HJ.out HB.out hb)
        clear hb
        refine wpAnyIn_takeD (i := 5) (d := 3) (v := .string (dstr (oP x k * x * x))) rfl rfl rfl (by kernel_rfl) (by kernel_rfl) (by kernel_rfl) (fun _ _ _ h => h) rfl (fun W => by go_simp) (fun _ => rfl) ?_
        simp only [Act.put, List.setIfInBounds_toArray, List.set_cons_zero, List.set_cons_succ]
        refine wpAnyIn_done (by kernel_rfl) ?_ _
        rw [oP_next]
        gi_wp2
        go_roundw
        case rel => exact ⟨j0 - 1, oddW_rel HC.out HK.out hkn⟩
        case measure =>
          have h1 := (leastOf_spec (p := fun j => OddR x n bA T J W j (.string (dstr (oP x (k + 1)))) W7) ⟨_, oddW_rel HC.out HK.out hkn⟩).2 _ (oddW_rel HC.out HK.out hkn)
          have h2 := HJ0.out
          have h3 := HK.out
          show leastOf (fun j => OddR x n bA T J W j (.string (dstr (oP x (k + 1)))) W7) < leastOf (fun j => OddR x n bA T J W j (.string (dstr (oP x k))) wr)
          rw [h2]
          omega
    · have HXF := Lib.hid hx
      clear hx hy HR
      gi_wp2
      go_end0
      exact ⟨⟨_, rfl⟩, HXF.out⟩

section
open Go.RowKit NV
open Go.Lib (decDigits)
attribute [local go_sem] Oper.semAt_some

theorem row_same {w w' : World} {base e sz n : Nat} {v : Value} {xs : List Value} (h : w.ownsRow base e sz v n xs) (hb : ∀ g, v.ownBlock = some g → w'.heap[g]? = w.heap[g]?) : w'.ownsRow base e sz v n xs := by
  refine ⟨h.1, ?_⟩
  rcases h.2 with hn | ⟨g, cap, cur, hv, hg, hh, rest⟩
  · exact .inl hn
  · exact .inr ⟨g, cap, cur, hv, hg, (hb g (by rw [hv]; rfl)).trans hh, rest⟩

set_option maxHeartbeats 1600000 in
theorem first_zero (f : Value) (w : World) :
    Calls Tryz.prog 158 #[.int .i64 0, f] w fun e w' => e = .returned (.slice none 0 0) ∧ Below w.heap.size w w' := by
  have HB := Lib.hid ((((Below.refl w.heap.size w).alloc (Nat.le_refl _) (.cells #[.int .i64 0] 3))).alloc (by simp) (.cells #[.slice none 0 0] 40))
  go_enter Tryz.func158, Tryz.ntmps158
  go_wp2_with fail
  go_ret
  exact ⟨rfl, HB.out⟩

theorem row_low {w : World} {base base' n sz : Nat} {v : Value} {xs : List Value} {e : TypeId} (h : w.ownsRow base e sz v n xs) (hb : base' ≤ base) : w.ownsRow base' e sz v n xs := by
  refine ⟨h.1, ?_⟩
  rcases h.2 with hn | ⟨g, cap, cur, hv, hg, rest⟩
  · exact .inl hn
  · exact .inr ⟨g, cap, cur, hv, by omega, rest⟩
theorem type_neJ : 3 ≠ 22 := by decide

/-- Ahead of round k of the loop of first. -/
def FirI (w : World) (x n H : Nat) (k : Nat) (W : World) : Prop :=
  ∃ v, k < n ∧ Boxed W (w.heap.size + 1) 40 v ∧ W.ownsRow H 22 1 v k (ccells (oP x) k) ∧ Boxed W w.heap.size 3 (.int .i64 (n : Int)) ∧ Below w.heap.size w W
/-- Behind it. -/
def FirX (w : World) (x n H : Nat) (c : Code) (W : World) : Prop :=
  c = .exit 0 ∧ ∃ v, Boxed W (w.heap.size + 1) 40 v ∧ W.ownsRow H 22 1 v n (ccells (oP x) n) ∧ Below w.heap.size w W
theorem FirI.keep {w : World} {x n H k : Nat} {S : Nat → Prop} {W W' : World} (h : FirI w x n H k W) (hc : Ch S W W') (h1 : ∀ j, S j → w.heap.size + 2 ≤ j ∧ j < H) : FirI w x n H k W' := by
  obtain ⟨v, hk, hl, hr, hn, hb⟩ := h
  exact ⟨v, hk, hc.boxed (fun e => by have := h1 _ e; omega) hl, row_same hr (fun g hg => hc.block g (hr.lt g hg).2 (fun e => by have := h1 _ e; have := (hr.lt g hg).1; omega)), hc.boxed (fun e => by have := h1 _ e; omega) hn, hb.trans (hc.to_below hb.size (fun j e => by have := h1 _ e; omega))⟩
theorem FirX.keep {w : World} {x n H : Nat} {S : Nat → Prop} {c : Code} {W W' : World} (h : FirX w x n H c W) (hc : Ch S W W') (h1 : ∀ j, S j → w.heap.size + 2 ≤ j ∧ j < H) : FirX w x n H c W' := by
  obtain ⟨hcc, v, hl, hr, hb⟩ := h
  exact ⟨hcc, v, hc.boxed (fun e => by have := h1 _ e; omega) hl, row_same hr (fun g hg => hc.block g (hr.lt g hg).2 (fun e => by have := h1 _ e; have := (hr.lt g hg).1; omega)), hb.trans (hc.to_below hb.size (fun j e => by have := h1 _ e; omega))⟩

set_option maxHeartbeats 6400000 in
set_option maxRecDepth 100000 in
theorem first_ok {bA x n : Nat} (hx : 1 ≤ x) (hn : 1 ≤ n) (hn2 : n ≤ 1000) (hok : ∀ k, k + 1 < n → Ok (oP x (k + 1))) (w : World) (hA : Boxed w bA 22 (.string (dstr x))) (htab : Tab w) :
    Calls Tryz.prog 158 #[.int .i64 (n : Int), .func (.func 208) #[] #[.pointer (some ⟨bA, 0, none⟩)]] w fun e w' => ∃ v, e = .returned v ∧ w'.ownsRow w.heap.size 22 1 v n (ccells (oP x) n) ∧ Below w.heap.size w w' := by
  obtain ⟨i0, hi, hz0, hz1, hz2⟩ := info_parts infoNum
  refine (callsIn_wide (n := 6)).1 ?_
  refine callsIn_of_wp_marks Tryz.func158 rfl trivial ?_ rfl
  simp only [Tryz.ntmps158, List.size_toArray, List.length_cons, List.length_nil, Nat.reduceAdd, Nat.reduceSub, Array.replicate_succ, Array.replicate_zero, List.push_toArray, List.append_toArray, List.nil_append, List.cons_append]
  obtain ⟨w1, hw1⟩ : ∃ w1, (w.alloc (.cells #[.int .i64 (n : Int)] 3)).alloc (.cells #[.slice none 0 0] 40) = w1 := ⟨_, rfl⟩
  have h1z : w1.heap.size = w.heap.size + 2 := by rw [← hw1]; simp
  have hb1 : Below w.heap.size w w1 := by rw [← hw1]; exact ((Below.refl w.heap.size w).alloc (Nat.le_refl _) _).alloc (by simp) _
  have hN1 : Boxed w1 w.heap.size 3 (.int .i64 (n : Int)) := by rw [← hw1]; exact (Boxed.new w _ _).alloc _
  have hL1 : Boxed w1 (w.heap.size + 1) 40 (.slice none 0 0) := by
    rw [← hw1]
    have h := Boxed.new (w.alloc (.cells #[.int .i64 (n : Int)] 3)) 40 (.slice none 0 0)
    rw [World.size_alloc] at h; exact h
  have hA1 : Boxed w1 bA 22 (.string (dstr x)) := (hb1.block bA hA.lt).trans hA
  have hlA := hA.lt
  have c0 := hN1.cell
  have hn0 : ((n : Int) == 0) = false := by rw [beq_eq_false_iff_ne]; omega
  have HI := Lib.hid (show FirI w x n (w1.heap.size + 2) 0 w1 from ⟨_, by omega, hL1, World.ownsRow_nil _ _ _ _, hN1, hb1⟩)
  have HA1 := Lib.hid (And.intro hA1 hlA)
  have HTAB := Lib.hid (fun W (h : Below w.heap.size w W) => htab.below h)
  have HZ := Lib.hid h1z
  have HB1 := Lib.hid hb1
  clear hL1 hA1 hlA hb1 htab hA h1z
  gi_wp2_with fail
  clear c0 hN1 hw1
  refine wpIn_rangeChX (by omega) (gf := 208) (lb := #[.pointer (some ⟨bA, 0, none⟩)]) rfl (enters_of Tryz.func208 (by kernel_rfl) rfl)
    (fun _ => False) (fun j => j = w.heap.size + 1 ∨ w1.heap.size + 2 ≤ j) (fun k => #[.string (dstr (oP x k))]) (fun _ => rfl) (fun k => k + 1 < n)
    (FirI w x n (w1.heap.size + 2)) (FirX w x n (w1.heap.size + 2))
    (fun j hj => hj.elim) ⟨by have h := HZ.out; omega, by have h := HZ.out; omega⟩
    (fun k W W' h hc => h.keep hc (fun j hj => by have h := HZ.out; rcases hj with h' | h' | h' <;> (try exact h'.elim) <;> omega))
    (fun c W W' h hc => h.keep hc (fun j hj => by have h := HZ.out; rcases hj with h' | h' | h' <;> (try exact h'.elim) <;> omega))
    (fun l J X W hJ hX hY hch hsz h0 => odd_calls (m := 5) (bA := bA) (T := fun j => (j = w.heap.size + 1 ∨ w1.heap.size + 2 ≤ j) ∨ j = w1.heap.size ∨ j = w1.heap.size + 1) hx hn hok (by have h := HZ.out; have := HA1.out.2; omega) (by omega) J X hJ hY W
      (fun W' hc' => HTAB.out W' (HB1.out.trans (((hch.mono (T := fun j => (j = w.heap.size + 1 ∨ w1.heap.size + 2 ≤ j) ∨ j = w1.heap.size ∨ j = w1.heap.size + 1) (fun j _ e => e.elim)).trans hc').to_below HB1.out.size (fun j hj => by have h := HZ.out; omega))))
      (hch.boxed (fun h => h) HA1.out.1) h0)
    HI.out (fun k a' W => a' = { tmps := #[.int .i64 (n : Int), .func (.func 208) #[] #[.pointer (some ⟨bA, 0, none⟩)], .pointer (some ⟨w.heap.size, 0, none⟩), undef, .slice none 0 0, .pointer (some ⟨w.heap.size + 1, 0, none⟩), .string (dstr (oP x k)), .int .i64 (n : Int), .bool false, undef, .func (.func 208) #[] #[.pointer (some ⟨bA, 0, none⟩)], .string (dstr (oP x k)), undef, undef, undef, undef, undef, undef, undef, undef, undef], defers := [] } ∧ w1.heap.size + 2 ≤ W.heap.size ∧ FirI w x n (w1.heap.size + 2) k W)
    ?hA ?assign ?body ?stop
  case hA =>
    rintro k a' W W' ⟨rfl, h1, h2⟩ hc
    exact ⟨rfl, Nat.le_trans h1 hc.size, h2.keep hc (fun j hj => by have h := HZ.out; rcases hj with h' | h' | h' <;> (try exact h'.elim) <;> omega)⟩
  case assign =>
    intro l k W K hsW hI hK
    have HK := Lib.hid hK
    have HIK := Lib.hid (And.intro hsW hI)
    clear hK hI hsW
    gi_wp2_with fail
    exact HK.out _ _ (Ch.refl _ _) ⟨rfl, HIK.out.1, HIK.out.2⟩
  case body =>
    rintro l k a' W hsW ⟨rfl, hsz, v, hk, hl, hrow, hN, hB⟩
    have c0 := hl.cell
    have d0 := hN.cell
    have HX := Lib.hid (And.intro hl (And.intro hrow (And.intro hN hB)))
    have HSZ := Lib.hid (And.intro hsz HZ.out)
    have HCC := Lib.hid (ccells_next (oP x) k)
    clear hl hrow hN hB hsz
    generalize dstr (oP x k) = sN at *
    gi_wp2_with (gi_at_builtin; refine wpListIn_append_own_at _ rfl _ _ 40 rfl (w1.heap.size + 2) 22 i0 (.string ⟨#[]⟩) 1 16 Tryz.underlying40 hi hz0 hz1 hz2 rfl (by decide) v k (ccells (oP x) k) rfl (HX.out.2.1.alloc _) ⟨W.heap.size, 0, none⟩ 1 1 [.string sN] rfl rfl (World.news_of_block (heap_alloc_new _ _)) (fun u hu => by simp at hu; subst hu; rfl) ?c3 ?c4 ?c5 ?_)
    case c3 => unfold maxLen; omega
    case c4 => omega
    case c5 => have := HSZ.out.1; simp; omega
    intro v' w6 hown' hgrow _ hblk
    obtain ⟨g', cap', rfl⟩ := ownsRow_succ hown'
    have hv1 := (HX.out.1.alloc (.cells #[.string sN] 22)).kept hgrow (HX.out.1.not_row type_neP HX.out.2.1)
    have hv2 := (HX.out.2.2.1.alloc (.cells #[.string sN] 22)).kept hgrow (HX.out.2.2.1.not_row type_neJ HX.out.2.1)
    have d1 := hv1.cell
    have d2 := hv1.frozen
    have hv3 := hv2.other (show w.heap.size ≠ w.heap.size + 1 by omega) (.slice (some ⟨g', 0, none⟩) (k + 1) cap')
    have d3 := hv3.cell
    have hch : Ch (fun j => j = w.heap.size + 1 ∨ w1.heap.size + 2 ≤ j) W (w6.setCell ⟨w.heap.size + 1, 0, none⟩ (.slice (some ⟨g', 0, none⟩) (k + 1) cap')) :=
      ((Ch.alloc _ _ _).trans (Ch.grown hgrow (fun r hr => .inr (HX.out.2.1.lt r hr).1))).trans (Ch.setCell _ _ _ (.inl rfl))
    have hB7 : Below w.heap.size w (w6.setCell ⟨w.heap.size + 1, 0, none⟩ (.slice (some ⟨g', 0, none⟩) (k + 1) cap')) := HX.out.2.2.2.trans (hch.to_below HX.out.2.2.2.size (fun j hj => by have := HSZ.out; omega))
    have hrow7 : (w6.setCell ⟨w.heap.size + 1, 0, none⟩ (.slice (some ⟨g', 0, none⟩) (k + 1) cap')).ownsRow (w1.heap.size + 2) 22 1 (.slice (some ⟨g', 0, none⟩) (k + 1) cap') (k + 1) (ccells (oP x) (k + 1)) := by
      rw [HCC.out]; exact hown'.kept (grownBy_setCell' w6 _ _) (.inr (hv1.not_row type_neP hown').symm)
    have HG := Lib.hid (And.intro hch (And.intro (hv1.set (.slice (some ⟨g', 0, none⟩) (k + 1) cap')) (And.intro hrow7 (And.intro hv3 hB7))))
    clear hown' hgrow hblk hv1 hv2 hv3 hch hB7 hrow7 c0 d0
    by_cases hlast : k + 1 = n
    · subst hlast
      gi_wp2_with fail
      exact ⟨HG.out.1, rfl, _, HG.out.2.1, HG.out.2.2.1, HG.out.2.2.2.2⟩
    · have hq : ((k : Int) + 1 == (n : Int)) = false := by rw [beq_eq_false_iff_ne]; omega
      gi_wp2_with fail
      exact ⟨HG.out.1, by omega, _, by omega, HG.out.2.1, HG.out.2.2.1, HG.out.2.2.2.1, HG.out.2.2.2.2⟩
  case stop =>
    rintro c W ⟨rfl, v, hl, hrow, hB⟩ hK
    refine wpIn_exit ?_
    have c0 := hl.cell
    have HF := Lib.hid (And.intro hl (And.intro hrow (And.intro hB hK)))
    clear hl hrow hB hK
    gi_wp2_with fail
    refine ⟨by simp, .inl ⟨_, _, rfl, run_takeDeferred HF.out.2.2.2, ?_⟩⟩
    have hch := Ch.putObj (fun j => j = w1.heap.size) W (.deferred none) (r := w1.heap.size) rfl
    refine ⟨_, results_tmp rfl _ _ _, v, rfl, row_low (row_same HF.out.2.1 (fun g hg => hch.block g (HF.out.2.1.lt g hg).2 (fun e => by have := (HF.out.2.1.lt g hg).1; omega))) (by have := HZ.out; omega), HF.out.2.2.1.trans (hch.to_below HF.out.2.2.1.size (fun j hj => by have := HZ.out; omega))⟩
end

open Go.RowKit NV
open Go.Lib (decDigits)

/-- A list of numbers at the head of a block. -/
def RA (w : World) (g N : Nat) (f : Nat → ByteArray) : Prop :=
  ∃ cur, w.heap[g]? = some (.cells cur 22 (0, 0)) ∧ N ≤ cur.size ∧ ∀ j, j < N → cur[j]? = some (.string (f j))
theorem RA.cell {w : World} {g N : Nat} {f : Nat → ByteArray} (h : RA w g N f) {j : Nat} (hj : j < N) : w.cell? ⟨g, j, none⟩ = some (.string (f j)) := by
  obtain ⟨cur, h1, h2, h3⟩ := h
  rw [cell_of_row w g j cur _ _ h1]
  exact h3 j hj
theorem RA.free {w : World} {g N : Nat} {f : Nat → ByteArray} (h : RA w g N f) (j : Nat) : w.frozen? ⟨g, j, none⟩ = false := by
  obtain ⟨cur, h1, h2, h3⟩ := h
  exact frozen_of_row w g j cur _ h1
theorem RA.lt {w : World} {g N : Nat} {f : Nat → ByteArray} (h : RA w g N f) : g < w.heap.size := by
  obtain ⟨cur, h1, _⟩ := h
  exact (Array.getElem?_eq_some_iff.1 h1).1
theorem RA.congr {w : World} {g N : Nat} {f f' : Nat → ByteArray} (h : RA w g N f) (hf : ∀ j, j < N → f j = f' j) : RA w g N f' := by
  obtain ⟨cur, h1, h2, h3⟩ := h
  exact ⟨cur, h1, h2, fun j hj => by rw [← hf j hj]; exact h3 j hj⟩
theorem RA.store {w : World} {g N : Nat} {f : Nat → ByteArray} (h : RA w g N f) (i : Nat) (x : ByteArray) : RA (w.setCell ⟨g, i, none⟩ (.string x)) g N (fun j => if j = i then x else f j) := by
  obtain ⟨cur, h1, h2, h3⟩ := h
  refine ⟨cur.setIfInBounds i (.string x), heap_setCell_same w g i cur _ _ h1, by simpa using h2, fun j hj => ?_⟩
  rw [Array.getElem?_setIfInBounds]
  by_cases e : i = j
  · subst e
    rw [if_pos rfl, if_pos (by omega)]
    show _ = some (Value.string (if i = i then x else f i))
    rw [if_pos rfl]
  · rw [if_neg e]
    show _ = some (Value.string (if j = i then x else f j))
    rw [if_neg (fun h => e h.symm)]
    exact h3 j hj
theorem RA.same {w w' : World} {g N : Nat} {f : Nat → ByteArray} (h : RA w g N f) (hb : w'.heap[g]? = w.heap[g]?) : RA w' g N f := by
  obtain ⟨cur, h1, h2⟩ := h
  exact ⟨cur, hb.trans h1, h2⟩
theorem RA.drewR {w : World} {g N : Nat} {f : Nat → ByteArray} (h : RA w g N f) : RA w.drew g N f := h
theorem RA.prow {w : World} {g N : Nat} {f : Nat → ByteArray} (h : RA w g N f) : PRow w (some ⟨g, 0, none⟩) N f :=
  .inr ⟨_, rfl, h.lt, fun j hj => by rw [Addr.add_lit, Nat.zero_add]; exact h.cell hj⟩
theorem RA.row {w : World} {base g cap N : Nat} {c : Nat → Nat} (h : w.ownsRow base 22 1 (.slice (some ⟨g, 0, none⟩) N cap) N (ccells c N)) : RA w g N (fun j => dstr (c j)) := by
  rcases h.2 with ⟨h', _⟩ | ⟨g', cap', cur, h', hb, hg, hnc, hcm, hcs, htake⟩
  · cases h'
  · cases h'
    refine ⟨cur, hg, by omega, fun j hj => ?_⟩
    have e : (cur.toList.take (N * 1))[j]? = some (.string (dstr (c j))) := by rw [htake]; exact ccells_get hj
    rw [List.getElem?_take, if_pos (by omega)] at e
    simpa using e

/-- A list after i exchanges. -/
def revF (f : Nat → ByteArray) (N i j : Nat) : ByteArray := if j < i ∨ N - i ≤ j then f (N - 1 - j) else f j

set_option maxHeartbeats 1600000 in
theorem reverse_nil (w : World) : Calls Tryz.prog 160 #[.slice none 0 0] w fun e w' => (∃ v, e = .returned v) ∧ w = w' := by
  go_enter Tryz.func160, Tryz.ntmps160
  go_wp2_with fail
  go_loop [2, 3] (fun s2 s3 => s2 = .int .i64 0 ∧ s3 = .int .i64 (-1)) (fun _ _ => 0)
  case atStart => exact ⟨rfl, rfl⟩
  case round =>
    obtain ⟨rfl, rfl⟩ := hrel
    go_wp2_with fail
    go_end0
    exact ⟨⟨_, rfl⟩, rfl⟩

set_option maxHeartbeats 3200000 in
set_option maxRecDepth 100000 in
theorem reverse_ok {g N cap : Nat} {f : Nat → ByteArray} {w : World} (h : RA w g N f) (hN : N ≤ 1000) :
    Calls Tryz.prog 160 #[.slice (some ⟨g, 0, none⟩) N cap] w fun e w' => (∃ v, e = .returned v) ∧ RA w' g N (fun j => f (N - 1 - j)) ∧ Ch (fun j => j = g) w w' := by
  have HRA := Lib.hid (show RA w g N (revF f N 0) from h.congr (fun j hj => by unfold revF; rw [if_neg (by omega)]))
  clear h
  go_enter Tryz.func160, Tryz.ntmps160
  go_wp2_with fail
  go_loopw [2, 3] (fun s2 s3 wr => ∃ i : Nat, i ≤ N ∧ s2 = .int .i64 (i : Int) ∧ s3 = .int .i64 ((N : Int) - 1 - (i : Int)) ∧ RA wr g N (revF f N i) ∧ Ch (fun j => j = g) w wr) (fun s2 _ _ => N - (intOf s2).toNat)
  case atStart => exact ⟨0, Nat.zero_le _, rfl, by go_num, HRA.out, Ch.refl _ _⟩
  case round =>
    obtain ⟨i, hi, rfl, rfl, hra, hch⟩ := hrel
    clear HRA
    by_cases hlt : (i : Int) < (N : Int) - 1 - (i : Int)
    · have hi1 : i < N := by omega
      obtain ⟨j, hj⟩ : ∃ j : Nat, (N : Int) - 1 - (i : Int) = (j : Int) := Int.eq_ofNat_of_zero_le (by omega)
      have HJ := Lib.hid hj
      have hj1 : j < N := by omega
      have hij : i < j := by omega
      rw [hj] at hlt
      rw [hj]
      have c0 := hra.cell hi1
      have c1 := hra.cell hj1
      have f0 := hra.free i
      have f1 := hra.free j
      have HR := Lib.hid (And.intro hra hch)
      clear hra hch hj
      go_wp2_with fail
      go_region
      go_wp2_with fail
      go_roundw
      case rel =>
        have HJ2 := HJ.out
        refine ⟨i + 1, by omega, by go_num, congrArg (Value.int .i64) (by omega), ?_, (HR.out.2.trans ((Ch.setCell (fun j => j = g) _ _ rfl).trans (Ch.setCell (fun j => j = g) _ _ rfl))).trans (Ch.drew _ _)⟩
        refine RA.drewR (((HR.out.1.store i (revF f N i j)).store j (revF f N i i)).congr (fun m hm => ?_))
        show (if m = j then revF f N i i else if m = i then revF f N i j else revF f N i m) = revF f N (i + 1) m
        unfold revF
        rw [if_neg (show ¬ (i < i ∨ N - i ≤ i) by omega), if_neg (show ¬ (j < i ∨ N - i ≤ j) by omega)]
        by_cases hmj : m = j
        · subst hmj
          rw [if_pos rfl, if_pos (by omega), show N - 1 - m = i by omega]
        · rw [if_neg hmj]
          by_cases hmi : m = i
          · subst hmi
            rw [if_pos rfl, if_pos (by omega), show N - 1 - m = j by omega]
          · rw [if_neg hmi]
            by_cases h2 : m < i ∨ N - i ≤ m
            · rw [if_pos h2, if_pos (by omega)]
            · rw [if_neg h2, if_neg (by omega)]
      case measure => simp [intOf]; omega
    · have HR := Lib.hid (And.intro hra hch)
      have HLT := Lib.hid hlt
      have h1 : ¬ (i : Int) < (N : Int) - 1 - (i : Int) := hlt
      clear hra hch hlt
      go_wp2_with fail
      go_end0
      exact ⟨⟨_, rfl⟩, HR.out.1.congr (fun j hj => by
        unfold revF
        have := HLT.out
        split
        · rfl
        · rw [show N - 1 - j = j by omega]), HR.out.2⟩

/-- The product of the first numbers. -/
def prJ (c : Nat → Nat) : Nat → Nat
  | 0 => 1
  | k + 1 => prJ c k * c k
theorem prJ_pos {c : Nat → Nat} : ∀ {N : Nat}, (∀ j, j < N → 1 ≤ c j) → 1 ≤ prJ c N
  | 0, _ => Nat.le_refl _
  | N + 1, h => Nat.mul_pos (prJ_pos (fun j hj => h j (by omega))) (h N (by omega))
theorem prJ_mono {c : Nat → Nat} {N : Nat} (h : ∀ j, j < N → 1 ≤ c j) : ∀ e k, k + e = N → prJ c k ≤ prJ c N
  | 0, k, hk => by subst hk; exact Nat.le_refl _
  | e + 1, k, hk => Nat.le_trans (Nat.le_mul_of_pos_right _ (h k (by omega))) (prJ_mono h e (k + 1) (by omega))
theorem prJ_part {c : Nat → Nat} {N : Nat} (h : ∀ j, j < N → 1 ≤ c j) {k : Nat} (hk : k < N) : c k ≤ prJ c N :=
  Nat.le_trans (Nat.le_mul_of_pos_left _ (prJ_pos (fun j hj => h j (by omega)))) (prJ_mono h (N - (k + 1)) (k + 1) (by omega))

set_option maxHeartbeats 6400000 in
set_option maxRecDepth 100000 in
theorem products_any {ao : Option Addr} {N cap : Nat} {c : Nat → Nat} {w : World} (h : PRow w ao N (fun j => dstr (c j))) (hN : N ≤ 1000) (h1 : ∀ j, j < N → 1 ≤ c j) (ho : Ok (prJ c N)) (htab : Tab w) :
    Calls Tryz.prog 161 #[.slice ao N cap] w fun e w' => ∃ v, e = .returned v ∧ w'.ownsRow w.heap.size 22 1 v (N + 1) (ccells (prJ c) (N + 1)) ∧ Below w.heap.size w w' := by
  obtain ⟨i0, hi, hz0, hz1, hz2⟩ := info_parts infoNum
  have HP := Lib.hid h
  have HTAB := Lib.hid (fun W (h : Below w.heap.size w W) => htab.below h)
  have HC := Lib.hid (fun k (hk : k < N) W (ht : Tab W) => product_ok (a := prJ c k) (b := c k) (ho.mono (prJ_mono h1 (N - k) k (by omega))) (ho.mono (prJ_part h1 hk)) (ho.mono (prJ_mono h1 (N - (k + 1)) (k + 1) (by omega))) W ht)
  have h0 : ccells (prJ c) 1 = [.string ⟨#[49]⟩] := by rw [one_str]; rfl
  have HR := Lib.hid (show (w.alloc (.cells #[.string ⟨#[49]⟩] 22)).ownsRow w.heap.size 22 1 (.slice (some ⟨w.heap.size, 0, none⟩) 1 1) 1 (ccells (prJ c) 1) by
    rw [h0]; exact World.ownsRow_lit w #[.string ⟨#[49]⟩] 1 (Nat.le_refl _) (by unfold maxLen; omega) rfl)
  have HB := Lib.hid ((Below.refl w.heap.size w).alloc (Nat.le_refl _) (.cells #[.string ⟨#[49]⟩] 22))
  have HO := Lib.hid (show (⟨#[49]⟩ : ByteArray) = dstr (prJ c 0) from one_str)
  have HCC := Lib.hid (ccells_next (prJ c))
  clear h h1 ho htab h0
  go_enter Tryz.func161, Tryz.ntmps161
  go_wp2_with fail
  go_loopw [3, 4, 11] (fun s3 s4 s11 wr => ∃ k : Nat, k ≤ N ∧ s3 = .string (dstr (prJ c k)) ∧ s11 = .int .i64 (k : Int) ∧ wr.ownsRow w.heap.size 22 1 s4 (k + 1) (ccells (prJ c) (k + 1)) ∧ Below w.heap.size w wr) (fun _ _ s11 _ => N - (intOf s11).toNat)
  case atStart => exact ⟨0, Nat.zero_le _, by rw [← HO.out], rfl, HR.out, HB.out⟩
  case round =>
    obtain ⟨k, hk, rfl, rfl, hrow, hb⟩ := hrel
    clear HR HB
    by_cases hlt : k < N
    · obtain ⟨a, rfl, c0⟩ : ∃ a, ao = some a ∧ wr.cell? (a.add k) = some (.string (dstr (c k))) := by
        rcases HP.out with h0 | ⟨a, h1, h2, h3⟩
        · omega
        · exact ⟨a, h1, (hb.cell (p := a.add k) (by rw [add_blockP]; exact h2)).trans (h3 k hlt)⟩
      have HF := Lib.hid (And.intro hrow hb)
      have HCK := Lib.hid (HC.out k hlt wr (HTAB.out wr hb))
      have HX := Lib.hid (show dstr (prJ c k * c k) = dstr (prJ c (k + 1)) from rfl)
      clear hrow hb
      generalize dstr (prJ c k) = s3 at *
      generalize dstr (prJ c k * c k) = s5 at *
      generalize dstr (c k) = s6 at *
      go_wp2_with fail
      refine HCK.out.mono ?_
      rintro e w2 ⟨rfl, hb2⟩
      have HF2 := Lib.hid (And.intro (row_same HF.out.1 (fun g hg => hb2.block g (HF.out.1.lt g hg).2)) (HF.out.2.trans (hb2.mono HF.out.2.size)))
      clear HF HCK hb2 c0
      go_wp2_with (at_builtin; refine wpList_append_own_at _ rfl _ _ 40 rfl w.heap.size 22 i0 (.string ⟨#[]⟩) 1 16 Tryz.underlying40 hi hz0 hz1 hz2 rfl (by decide) _ _ _ rfl (HF2.out.1.alloc _) ⟨w2.heap.size, 0, none⟩ 1 1 [.string s5] rfl rfl (World.news_of_block (heap_alloc_new _ _)) (fun u hu => by simp at hu; subst hu; rfl) ?c3 ?c4 ?c5 ?_)
      case c3 => unfold maxLen; omega
      case c4 => omega
      case c5 => have := HF2.out.2.size; simp; omega
      intro v' w6 hown' hgrow _ _
      have HF3 := Lib.hid (And.intro hown' ((HF2.out.2.alloc HF2.out.2.size _).grown hgrow (by have := HF2.out.2.size; simp; omega) (fun b hb => (HF2.out.1.lt b hb).1)))
      clear hown' hgrow HF2
      go_wp2_with fail
      go_roundw
      case rel => exact ⟨k + 1, by omega, by rw [HX.out], by go_num, by have := HF3.out.1; rw [HX.out] at this; rw [HCC.out]; exact this, HF3.out.2⟩
      case measure => simp [intOf]; omega
    · obtain rfl : k = N := by omega
      have HF := Lib.hid (And.intro hrow hb)
      clear hrow hb
      go_wp2_with fail
      go_ret
      exact ⟨_, rfl, HF.out.1, HF.out.2⟩

open Go.RowKit NV
open Go.Lib (decDigits)

/-- The weight of k. -/
def bw (a d n k : Nat) : Nat := a ^ (k * k) * d ^ (n * n - k * k)
theorem prJ_odd (x : Nat) : ∀ k, prJ (oP x) k = x ^ (k * k)
  | 0 => by rw [Nat.mul_zero, Nat.pow_zero]; rfl
  | k + 1 => by
    show prJ (oP x) k * oP x k = _
    rw [prJ_odd x k, oP, ← Nat.pow_add]
    congr 1
    rw [Nat.mul_add, Nat.add_mul]; omega
theorem prJ_rev (x n : Nat) : ∀ m, m ≤ n → prJ (fun j => oP x (n - 1 - j)) m = x ^ (n * n - (n - m) * (n - m))
  | 0, _ => by rw [Nat.sub_zero, Nat.sub_self, Nat.pow_zero]; rfl
  | m + 1, h => by
    show prJ (fun j => oP x (n - 1 - j)) m * oP x (n - 1 - m) = _
    rw [prJ_rev x n m (by omega), oP, ← Nat.pow_add]
    congr 1
    obtain ⟨r, rfl⟩ : ∃ r, n = m + 1 + r := ⟨n - (m + 1), by omega⟩
    rw [show m + 1 + r - 1 - m = r by omega, show m + 1 + r - m = r + 1 by omega, show m + 1 + r - (m + 1) = r by omega]
    have h1 : (r + 1) * (r + 1) ≤ (m + 1 + r) * (m + 1 + r) := Nat.mul_le_mul (by omega) (by omega)
    have h2 : (r + 1) * (r + 1) = r * r + 2 * r + 1 := by rw [Nat.mul_add, Nat.add_mul]; omega
    omega
theorem sq_le {k n : Nat} (h : k ≤ n) : k * k ≤ n * n := Nat.mul_le_mul h h
theorem bw_le {a d n k : Nat} (ha : a ≤ d) (hk : k ≤ n) : bw a d n k ≤ d ^ (n * n) := by
  unfold bw
  have h1 : a ^ (k * k) ≤ d ^ (k * k) := Nat.pow_le_pow_left ha _
  have h2 : d ^ (k * k) * d ^ (n * n - k * k) = d ^ (n * n) := by rw [← Nat.pow_add, Nat.add_sub_cancel' (sq_le hk)]
  rw [← h2]; exact Nat.mul_le_mul_right _ h1

/-- first, for every number. -/
theorem first_any {bA x n : Nat} (hx : 1 ≤ x) (hn2 : n ≤ 1000) (hok : ∀ k, k + 1 < n → Ok (oP x (k + 1))) (w : World) (hA : Boxed w bA 22 (.string (dstr x))) (htab : Tab w) :
    Calls Tryz.prog 158 #[.int .i64 (n : Int), .func (.func 208) #[] #[.pointer (some ⟨bA, 0, none⟩)]] w fun e w' => ∃ ao cap, e = .returned (.slice ao n cap) ∧ w'.ownsRow w.heap.size 22 1 (.slice ao n cap) n (ccells (oP x) n) ∧ Below w.heap.size w w' := by
  rcases Nat.eq_zero_or_pos n with rfl | hn
  · refine (first_zero _ w).mono ?_
    rintro e w' ⟨rfl, hb⟩
    exact ⟨none, 0, rfl, World.ownsRow_nil _ _ _ _, hb⟩
  · refine (first_ok hx hn hn2 hok w hA htab).mono ?_
    rintro e w' ⟨v, rfl, hr, hb⟩
    obtain ⟨g, cap, rfl, _, _⟩ := hr.form hn
    exact ⟨_, _, rfl, hr, hb⟩

theorem NArr.ra {w : World} {g N : Nat} {f : Nat → ByteArray} (h : NArr w g N f) : RA w g N f := by
  obtain ⟨cur, h1, h2, h3⟩ := h
  exact ⟨cur, h1, by omega, h3⟩

theorem reverse_row {w : World} {base n cap : Nat} {ao : Option Addr} {c : Nat → Nat} (h : w.ownsRow base 22 1 (.slice ao n cap) n (ccells c n)) (hn : n ≤ 1000) :
    Calls Tryz.prog 160 #[.slice ao n cap] w fun e w' => (∃ v, e = .returned v) ∧ PRow w' ao n (fun j => dstr (c (n - 1 - j))) ∧ Ch (fun j => base ≤ j ∧ (Value.slice ao n cap).ownBlock = some j) w w' := by
  rcases h.2 with ⟨hv, h0⟩ | ⟨g, cap', cur, hv, hb, _⟩
  · cases hv
    refine (reverse_nil w).mono ?_
    rintro e w' ⟨hv, rfl⟩
    exact ⟨hv, .inl rfl, Ch.refl _ _⟩
  · cases hv
    refine (reverse_ok (RA.row h) hn).mono ?_
    rintro e w' ⟨hv, hr, hc⟩
    exact ⟨hv, hr.prow, hc.mono (fun j _ e => by subst e; exact ⟨hb, rfl⟩)⟩

/-- A block of numbers, and two others, in the middle of falling. -/
def FalS (w : World) (gw g9 g10 M : Nat) (f f9 f10 : Nat → ByteArray) (W : World) : Prop :=
  RA W gw M f ∧ RA W g9 M f9 ∧ RA W g10 M f10 ∧ g9 ≠ gw ∧ g10 ≠ gw ∧ w.heap.size ≤ gw ∧ Below w.heap.size w W
theorem FalS.drewF {w : World} {gw g9 g10 M : Nat} {f f9 f10 : Nat → ByteArray} {W : World} (h : FalS w gw g9 g10 M f f9 f10 W) : FalS w gw g9 g10 M f f9 f10 W.drew :=
  ⟨h.1, h.2.1, h.2.2.1, h.2.2.2.1, h.2.2.2.2.1, h.2.2.2.2.2.1, h.2.2.2.2.2.2.drew⟩
theorem FalS.below {w : World} {gw g9 g10 M : Nat} {f f9 f10 : Nat → ByteArray} {W W' : World} (h : FalS w gw g9 g10 M f f9 f10 W) (hb : Below W.heap.size W W') : FalS w gw g9 g10 M f f9 f10 W' :=
  ⟨h.1.same (hb.block _ h.1.lt), h.2.1.same (hb.block _ h.2.1.lt), h.2.2.1.same (hb.block _ h.2.2.1.lt), h.2.2.2.1, h.2.2.2.2.1, h.2.2.2.2.2.1, h.2.2.2.2.2.2.trans (hb.mono h.2.2.2.2.2.2.size)⟩
theorem FalS.store {w : World} {gw g9 g10 M : Nat} {f f9 f10 : Nat → ByteArray} {W : World} (h : FalS w gw g9 g10 M f f9 f10 W) (k : Nat) (x : ByteArray) : FalS w gw g9 g10 M (fun j => if j = k then x else f j) f9 f10 (W.setCell ⟨gw, k, none⟩ (.string x)) :=
  ⟨h.1.store k x, h.2.1.same (heap_setCell_other W ⟨gw, k, none⟩ g9 _ h.2.2.2.1), h.2.2.1.same (heap_setCell_other W ⟨gw, k, none⟩ g10 _ h.2.2.2.2.1), h.2.2.2.1, h.2.2.2.2.1, h.2.2.2.2.2.1, h.2.2.2.2.2.2.setCell h.2.2.2.2.2.1 _⟩

set_option maxHeartbeats 12800000 in
set_option maxRecDepth 100000 in
theorem falling_ok {a d n : Nat} (ha : 1 ≤ a) (had : a ≤ d) (hn : n ≤ 16) (ho : Ok (d ^ (n * n))) (hok : ∀ k, k < n → oP d k ≤ d ^ (n * n)) (w : World) (htab : Tab w) :
    Calls Tryz.prog 96 #[.string (dstr a), .string (dstr d), .int .i64 (n : Int)] w fun e w' => ∃ g, e = .returned (.slice (some ⟨g, 0, none⟩) (n + 1) (n + 1)) ∧ RA w' g (n + 1) (fun k => dstr (bw a d n k)) ∧ w.heap.size ≤ g ∧ Below w.heap.size w w' := by
  obtain ⟨i0, hi, hz0, hz1, hz2⟩ := info_parts infoNum
  have HTAB := Lib.hid (fun W (h : Below w.heap.size w W) => htab.below h)
  have hoa : ∀ k, k + 1 < n → Ok (oP a (k + 1)) := fun k hk => ho.mono (Nat.le_trans (Nat.pow_le_pow_left had _) (hok (k + 1) hk))
  have hod : ∀ k, k + 1 < n → Ok (oP d (k + 1)) := fun k hk => ho.mono (hok (k + 1) hk)
  have HI1 := Lib.hid (oddPowers_any (dstr a) w)
  have HI2 := Lib.hid (fun W => oddPowers_any (dstr d) W)
  have HF1 := Lib.hid (fun W (hA : Boxed W w.heap.size 22 (.string (dstr a))) (ht : Tab W) => first_any ha (by omega) hoa W hA ht)
  have HF2 := Lib.hid (fun W B (hA : Boxed W B 22 (.string (dstr d))) (ht : Tab W) => first_any (x := d) (n := n) (by omega) (by omega) hod W hA ht)
  have p1 : ∀ j, j < n → 1 ≤ oP a j := fun j _ => Nat.pow_pos ha
  have p2 : ∀ j, j < n → 1 ≤ oP d (n - 1 - j) := fun j _ => Nat.pow_pos (by omega)
  have e1 : Ok (prJ (oP a) n) := by rw [prJ_odd]; exact ho.mono (Nat.pow_le_pow_left had _)
  have e2 : Ok (prJ (fun j => oP d (n - 1 - j)) n) := by rw [prJ_rev d n n (Nat.le_refl _), Nat.sub_self, Nat.mul_zero, Nat.sub_zero]; exact ho
  have HP1 := Lib.hid (fun W ao cap (h : PRow W ao n (fun j => dstr (oP a j))) (ht : Tab W) => products_any (cap := cap) h (by omega) p1 e1 ht)
  have HP2 := Lib.hid (fun W ao cap (h : PRow W ao n (fun j => dstr (oP d (n - 1 - j)))) (ht : Tab W) => products_any (cap := cap) h (by omega) p2 e2 ht)
  have HPR := Lib.hid (fun k (hk : k ≤ n) W (ht : Tab W) => product_ok (a := prJ (oP a) k) (b := prJ (fun j => oP d (n - 1 - j)) (n - k)) (e1.mono (prJ_mono p1 (n - k) k (by omega))) (e2.mono (prJ_mono p2 k (n - k) (by omega))) (by
    have h := ho.mono (bw_le (k := k) had hk)
    rw [prJ_odd, prJ_rev d n (n - k) (by omega), show n - (n - k) = k by omega]; exact h) W ht)
  have HBW := Lib.hid (fun k (hk : k ≤ n) => show dstr (prJ (oP a) k * prJ (fun j => oP d (n - 1 - j)) (n - k)) = dstr (bw a d n k) by
    rw [prJ_odd, prJ_rev d n (n - k) (by omega), show n - (n - k) = k by omega]; rfl)
  obtain ⟨F9, hF9⟩ : ∃ F9 : Nat → ByteArray, F9 = fun k => dstr (prJ (oP a) k) := ⟨_, rfl⟩
  obtain ⟨F10, hF10⟩ : ∃ F10 : Nat → ByteArray, F10 = fun k => dstr (prJ (fun j => oP d (n - 1 - j)) k) := ⟨_, rfl⟩
  obtain ⟨FB, hFB⟩ : ∃ FB : Nat → ByteArray, FB = fun k => dstr (bw a d n k) := ⟨_, rfl⟩
  have HCALL := Lib.hid (fun k (hk : k ≤ n) W (ht : Tab W) => show Calls Tryz.prog 162 #[.string (F9 k), .string (F10 (n - k))] W fun e w' => e = .returned (.string (FB k)) ∧ Below W.heap.size W w' by
    rw [hF9, hF10, hFB]
    have h := HPR.out k hk W ht
    rw [HBW.out k hk] at h
    exact h)
  rw [← hFB]
  obtain ⟨M, hM⟩ : ∃ M, M = n + 1 := ⟨_, rfl⟩
  have HM := Lib.hid (show (n : Int) + 1 = (M : Int) by omega)
  have HMN := Lib.hid hM
  rw [← hM]
  have hM17 : M ≤ 17 := by omega
  clear ho hok hoa hod p1 p2 e1 e2 htab hFB HPR HBW hM
  generalize dstr a = sa at *
  generalize dstr d = sd at *
  go_enter Tryz.func96, Tryz.ntmps96
  go_wp2_with fail
  refine HI1.out.mono ?_
  rintro e w1 ⟨rfl, hA, hb⟩
  have HB := Lib.hid hb
  have HX := Lib.hid hA
  clear hb hA HI1
  go_wp2_with fail
  refine (HF1.out _ HX.out (HTAB.out _ HB.out)).mono ?_
  rintro e w2 ⟨a7, k7, rfl, hrow, hb⟩
  replace HB := Lib.hid (HB.out.trans (hb.mono HB.out.size))
  have HR7 := Lib.hid (row_low hrow (Nat.le_of_lt HX.out.lt))
  clear hb hrow HX HF1
  go_wp2_with fail
  refine (HI2.out _).mono ?_
  rintro e w3 ⟨rfl, hA, hb⟩
  replace HB := Lib.hid (HB.out.trans (hb.mono HB.out.size))
  have HSZ := Lib.hid HB.out.size
  replace HR7 := Lib.hid (row_same HR7.out (fun g hg => hb.block g (HR7.out.lt g hg).2))
  have HX := Lib.hid hA
  clear hb hA HI2
  go_wp2_with fail
  refine (HF2.out _ _ HX.out (HTAB.out _ HB.out)).mono ?_
  rintro e w4 ⟨a8, k8, rfl, hrow, hb⟩
  replace HB := Lib.hid (HB.out.trans (hb.mono HB.out.size))
  have HL7 := Lib.hid (fun g hg => (HR7.out.lt g hg).2)
  replace HR7 := Lib.hid (row_same HR7.out (fun g hg => hb.block g (HR7.out.lt g hg).2))
  have HR8 := Lib.hid hrow
  clear hb hrow HX HF2
  go_wp2_with fail
  refine (reverse_row HR8.out (by omega)).mono ?_
  rintro e w5 ⟨⟨v0, rfl⟩, hp8, hc⟩
  have HP8 := Lib.hid hp8
  have hsz3 : w.heap.size ≤ w3.heap.size := HSZ.out
  replace HR7 := Lib.hid (row_same HR7.out (fun g hg => hc.block g (HR7.out.lt g hg).2 (fun e => by have := HL7.out g hg; omega)))
  replace HB := Lib.hid (HB.out.trans (hc.to_below HB.out.size (fun j hj => by omega)))
  have HB5 := Lib.hid HB.out.size
  clear hc hp8 HR8 HL7 hsz3 HSZ
  go_wp2_with fail
  refine (HP1.out _ _ _ (row_prow HR7.out) (HTAB.out _ HB.out)).mono ?_
  rintro e w6 ⟨v9, rfl, hrow, hb⟩
  obtain ⟨g9, c9, rfl, _, _⟩ := hrow.form (by omega)
  replace HP8 := Lib.hid (HP8.out.below hb)
  replace HB := Lib.hid (HB.out.trans (hb.mono HB.out.size))
  have HR9 := Lib.hid (row_low hrow HB5.out)
  clear hb hrow HP1 HR7
  go_wp2_with fail
  refine (HP2.out _ _ _ HP8.out (HTAB.out _ HB.out)).mono ?_
  rintro e w7 ⟨v10, rfl, hrow, hb⟩
  obtain ⟨g10, c10, rfl, _, _⟩ := hrow.form (by omega)
  replace HR9 := Lib.hid (row_same HR9.out (fun g hg => hb.block g (HR9.out.lt g hg).2))
  replace HB := Lib.hid (HB.out.trans (hb.mono HB.out.size))
  have HR10 := Lib.hid hrow
  clear hb hrow HP2 HP8
  have HRA9 := Lib.hid (show RA w7 g9 M F9 by rw [HMN.out, hF9]; exact RA.row HR9.out)
  have HRA10 := Lib.hid (show RA w7 g10 M F10 by rw [HMN.out, hF10]; exact RA.row HR10.out)
  clear hF9 hF10 HR9 HR10
  go_wp2_with fail
  rw [HM.out]
  obtain ⟨w8, hrun, hown, hgrow⟩ := run_make_full (P := Tryz.prog) w7 w7.heap.size 40 22 i0 (.string ⟨#[]⟩) 1 Tryz.underlying40 hi hz0 hz1 .i64 .i64 M (by rw [hz2]; omega) (by unfold maxLen; omega) (Nat.le_refl _)
  rw [hrun]
  simp only [Result.andThen]
  rw [Oper.upon_value]
  have hb8 := (Below.refl w7.heap.size w7).grown hgrow (Nat.le_refl _) (fun k hk => by cases hk)
  have HFS := Lib.hid (show FalS w w7.heap.size g9 g10 M (fun _ => ⟨#[]⟩) F9 F10 w8 from
    ⟨(NArr.made (base := w7.heap.size) hown).ra, HRA9.out.same (hb8.block _ HRA9.out.lt), HRA10.out.same (hb8.block _ HRA10.out.lt), by have := HRA9.out.lt; omega, by have := HRA10.out.lt; omega, HB.out.size, HB.out.trans (hb8.mono HB.out.size)⟩)
  clear hrun hown hgrow hb8 HRA9 HRA10 HB HB5
  generalize w7.heap.size = gw at *
  go_wp2_with fail
  go_loopw [32] (fun iv wr => ∃ (k : Nat) (f1 : Nat → ByteArray), k ≤ M ∧ iv = .int .i64 (k : Int) ∧ FalS w gw g9 g10 M f1 F9 F10 wr ∧ Hid (∀ j, j < k → f1 j = FB j)) (fun iv _ => M - (intOf iv).toNat)
  case atStart => exact ⟨0, _, Nat.zero_le _, rfl, HFS.out, Lib.hid (fun j hj => absurd hj (Nat.not_lt_zero _))⟩
  case round =>
    obtain ⟨k, f1, hk, rfl, hfs, HF1⟩ := hrel
    clear HFS
    by_cases hlt : k < M
    · have HF := Lib.hid hfs
      have hkn : k ≤ n := by have := HMN.out; omega
      obtain ⟨j, hjn⟩ : ∃ j, j = n - k := ⟨_, rfl⟩
      have hj : (n : Int) - (k : Int) = (j : Int) := by omega
      have hjm : j < M := by have := HMN.out; omega
      have hk1 : (k : Int) < (n : Int) + 1 := by omega
      have hj1 : (j : Int) < (n : Int) + 1 := by omega
      have hwj : IntKind.i64.wrap (j : Int) = (j : Int) := IntWalk.i64_in _ (by omega)
      have hj17 : (j : Int) ≤ 17 := by omega
      have HCK := Lib.hid (HCALL.out k hkn)
      rw [← hjn] at HCK
      clear hfs hjn
      go_wp2_with fail
      refine wp_region_any (by kernel_rfl) ?_
      change wpAny _ _ _ _ 15 _ _ (World.drew _)
      replace HF := Lib.hid HF.out.drewF
      generalize World.drew wr = W5 at *
      replace HCK := Lib.hid (HCK.out W5 (HTAB.out W5 HF.out.2.2.2.2.2.2))
      refine wpAny_takeD (i := 0) (d := 35) (v := .slice (some ⟨gw, 0, none⟩) M M) rfl rfl (by kernel_rfl) (by kernel_rfl) (by kernel_rfl) (fun _ _ _ h => h) rfl (fun W => by go_simp) ?_
      simp only [Act.put, List.setIfInBounds_toArray, List.set_cons_zero, List.set_cons_succ]
      refine wpAny_takeD (i := 1) (d := 36) (v := .int .i64 (k : Int)) rfl rfl (by kernel_rfl) (by kernel_rfl) (by kernel_rfl) (fun _ _ _ h => h) rfl (fun W => by go_simp) ?_
      simp only [Act.put, List.setIfInBounds_toArray, List.set_cons_zero, List.set_cons_succ]
      refine wpAny_takeD (i := 2) (d := 37) (v := .slice (some ⟨g9, 0, none⟩) (n + 1) c9) rfl rfl (by kernel_rfl) (by kernel_rfl) (by kernel_rfl) (fun _ _ _ h => h) rfl (fun W => by go_simp) ?_
      simp only [Act.put, List.setIfInBounds_toArray, List.set_cons_zero, List.set_cons_succ]
      refine wpAny_takeD (i := 3) (d := 38) (v := .int .i64 (k : Int)) rfl rfl (by kernel_rfl) (by kernel_rfl) (by kernel_rfl) (fun _ _ _ h => h) rfl (fun W => by go_simp) ?_
      simp only [Act.put, List.setIfInBounds_toArray, List.set_cons_zero, List.set_cons_succ]
      refine wpAny_takeD (i := 4) (d := 39) (v := .pointer (some ⟨g9, k, none⟩)) rfl rfl (by kernel_rfl) (by kernel_rfl) (by kernel_rfl) (fun _ _ _ h => h) rfl (fun W => by go_simp) ?_
      simp only [Act.put, List.setIfInBounds_toArray, List.set_cons_zero, List.set_cons_succ]
      refine wpAny_takeD (i := 6) (d := 41) (v := .slice (some ⟨g10, 0, none⟩) (n + 1) c10) rfl rfl (by kernel_rfl) (by kernel_rfl) (by kernel_rfl) (fun _ _ _ h => h) rfl (fun W => by go_simp) ?_
      simp only [Act.put, List.setIfInBounds_toArray, List.set_cons_zero, List.set_cons_succ]
      refine wpAny_takeD (i := 7) (d := 42) (v := .int .i64 (n : Int)) rfl rfl (by kernel_rfl) (by kernel_rfl) (by kernel_rfl) (fun _ _ _ h => h) rfl (fun W => by go_simp) ?_
      simp only [Act.put, List.setIfInBounds_toArray, List.set_cons_zero, List.set_cons_succ]
      refine wpAny_takeD (i := 8) (d := 43) (v := .int .i64 (k : Int)) rfl rfl (by kernel_rfl) (by kernel_rfl) (by kernel_rfl) (fun _ _ _ h => h) rfl (fun W => by go_simp) ?_
      simp only [Act.put, List.setIfInBounds_toArray, List.set_cons_zero, List.set_cons_succ]
      refine wpAny_takeD (i := 9) (d := 44) (v := .int .i64 (j : Int)) rfl rfl (by kernel_rfl) (by kernel_rfl) (by kernel_rfl) (fun _ _ _ h => h) rfl (fun W => by go_simp) ?_
      simp only [Act.put, List.setIfInBounds_toArray, List.set_cons_zero, List.set_cons_succ]
      refine wpAny_takeD (i := 10) (d := 45) (v := .pointer (some ⟨g10, j, none⟩)) rfl rfl (by kernel_rfl) (by kernel_rfl) (by kernel_rfl) (fun _ _ _ h => h) rfl (fun W => by go_simp) ?_
      simp only [Act.put, List.setIfInBounds_toArray, List.set_cons_zero, List.set_cons_succ]
      refine wpAny_two (i := 5) (j := 11) (by kernel_rfl) ?_ ?_
      · have c9 := HF.out.2.1.cell hlt
        refine wpOp_run rfl rfl (wp_read (d := 40) (v := .string (F9 k)) rfl (by go_simp) ?_)
        clear c9
        simp only [Act.put, List.setIfInBounds_toArray, List.set_cons_zero, List.set_cons_succ]
        refine wpAny_one (i := 11) (by kernel_rfl) ?_
        have c9 := HF.out.2.2.1.cell hjm
        refine wpOp_run rfl rfl (wp_read (d := 46) (v := .string (F10 j)) rfl (by go_simp) ?_)
        clear c9
        simp only [Act.put, List.setIfInBounds_toArray, List.set_cons_zero, List.set_cons_succ]
        refine wpAny_one (i := 12) (by kernel_rfl) ?_
        refine wpOp_run rfl rfl (wp_enter (d := 47) rfl (by go_simp) (HCK.out.mono ?_))
        rintro e W6 ⟨rfl, hb⟩
        refine ⟨_, rfl, ?_⟩
        simp only [Act.put, List.setIfInBounds_toArray, List.set_cons_zero, List.set_cons_succ]
        have HG := Lib.hid (HF.out.below hb)
        clear hb HF HCK
        refine wpAny_takeD (i := 13) (d := 48) (v := .pointer (some ⟨gw, k, none⟩)) rfl rfl (by kernel_rfl) (by kernel_rfl) (by kernel_rfl) (fun _ _ _ h => h) rfl (fun W => by go_simp) ?_
        simp only [Act.put, List.setIfInBounds_toArray, List.set_cons_zero, List.set_cons_succ]
        refine wpAny_one (i := 14) (by kernel_rfl) ?_
        have c9 := HG.out.1.cell hlt
        have f9 := HG.out.1.free k
        refine wpOp_run rfl rfl (wp_skip (w' := W6.setCell ⟨gw, k, none⟩ (.string (FB k))) rfl (by go_simp) ?_)
        clear c9 f9
        refine wpAny_done (by kernel_rfl) ?_ _
        have HH := Lib.hid (HG.out.store k (FB k))
        clear HG
        go_wp2_with fail
        go_roundw
        case rel => exact ⟨k + 1, _, by omega, by go_num, HH.out, Lib.hid (fun j hj => by
          by_cases e : j = k
          · show (if j = k then FB k else f1 j) = _
            rw [if_pos e, e]
          · show (if j = k then FB k else f1 j) = _
            rw [if_neg e]; exact HF1.out j (by omega))⟩
        case measure => simp [intOf]; omega
      · have c9 := HF.out.2.2.1.cell hjm
        refine wpOp_run rfl rfl (wp_read (d := 46) (v := .string (F10 j)) rfl (by go_simp) ?_)
        clear c9
        simp only [Act.put, List.setIfInBounds_toArray, List.set_cons_zero, List.set_cons_succ]
        refine wpAny_one (i := 5) (by kernel_rfl) ?_
        have c9 := HF.out.2.1.cell hlt
        refine wpOp_run rfl rfl (wp_read (d := 40) (v := .string (F9 k)) rfl (by go_simp) ?_)
        clear c9
        simp only [Act.put, List.setIfInBounds_toArray, List.set_cons_zero, List.set_cons_succ]
        refine wpAny_one (i := 12) (by kernel_rfl) ?_
        refine wpOp_run rfl rfl (wp_enter (d := 47) rfl (by go_simp) (HCK.out.mono ?_))
        rintro e W6 ⟨rfl, hb⟩
        refine ⟨_, rfl, ?_⟩
        simp only [Act.put, List.setIfInBounds_toArray, List.set_cons_zero, List.set_cons_succ]
        have HG := Lib.hid (HF.out.below hb)
        clear hb HF HCK
        refine wpAny_takeD (i := 13) (d := 48) (v := .pointer (some ⟨gw, k, none⟩)) rfl rfl (by kernel_rfl) (by kernel_rfl) (by kernel_rfl) (fun _ _ _ h => h) rfl (fun W => by go_simp) ?_
        simp only [Act.put, List.setIfInBounds_toArray, List.set_cons_zero, List.set_cons_succ]
        refine wpAny_one (i := 14) (by kernel_rfl) ?_
        have c9 := HG.out.1.cell hlt
        have f9 := HG.out.1.free k
        refine wpOp_run rfl rfl (wp_skip (w' := W6.setCell ⟨gw, k, none⟩ (.string (FB k))) rfl (by go_simp) ?_)
        clear c9 f9
        refine wpAny_done (by kernel_rfl) ?_ _
        have HH := Lib.hid (HG.out.store k (FB k))
        clear HG
        go_wp2_with fail
        go_roundw
        case rel => exact ⟨k + 1, _, by omega, by go_num, HH.out, Lib.hid (fun j hj => by
          by_cases e : j = k
          · show (if j = k then FB k else f1 j) = _
            rw [if_pos e, e]
          · show (if j = k then FB k else f1 j) = _
            rw [if_neg e]; exact HF1.out j (by omega))⟩
        case measure => simp [intOf]; omega
    · obtain rfl : k = M := by omega
      have HF := Lib.hid hfs
      clear hfs
      go_wp2_with fail
      go_ret
      exact ⟨_, rfl, HF.out.1.congr HF1.out, HF.out.2.2.2.2.2.1, HF.out.2.2.2.2.2.2⟩

section
open Go.RowKit NV
open Go.Lib (decDigits)
attribute [local go_sem] Oper.semAt_some

/-- Texts as cells. -/
def scells (f : Nat → ByteArray) (n : Nat) : List Value := (List.range n).map (fun i => Value.string (f i))
theorem scells_next (f : Nat → ByteArray) (n : Nat) : scells f (n + 1) = scells f n ++ [.string (f n)] := by unfold scells; rw [List.range_succ, List.map_append]; rfl
theorem scells_get {f : Nat → ByteArray} {n i : Nat} (h : i < n) : (scells f n)[i]? = some (.string (f i)) := by unfold scells; simp [h]
theorem scells_len (f : Nat → ByteArray) (n : Nat) : (scells f n).length = n := by unfold scells; simp
theorem srow_prow {w : World} {base N : Nat} {ao : Option Addr} {cap : Nat} {f : Nat → ByteArray} (h : w.ownsRow base 22 1 (.slice ao N cap) N (scells f N)) : PRow w ao N f := by
  rcases h.2 with ⟨hv, h0⟩ | ⟨g, cap', cur, hv, hb, hg, _⟩
  · exact .inl h0
  · cases hv
    exact .inr ⟨_, rfl, (Array.getElem?_eq_some_iff.1 hg).1, fun j hj => h.cells (g := g) rfl j _ (scells_get hj)⟩

set_option maxHeartbeats 1600000 in
theorem backward_any (ao : Option Addr) (n cap : Nat) (w : World) :
    Calls Tryz.prog 157 #[.slice ao n cap] w fun e w' =>
      e = .returned (.func (.func 207) #[] #[.pointer (some ⟨w.heap.size, 0, none⟩)]) ∧ Boxed w' w.heap.size 40 (.slice ao n cap) ∧ Below w.heap.size w w' := by
  have hmf : ∀ (fn : Fn) (first cap : Array Value) (w : World), (Instr.makeFunc fn first cap).run Tryz.prog w = .ok (.func fn first cap) w := fun _ _ _ _ => rfl
  have HB1 := Lib.hid (Boxed.new w 40 (.slice ao n cap))
  have HB := Lib.hid ((Below.refl w.heap.size w).alloc (Nat.le_refl _) (.cells #[.slice ao n cap] 40))
  go_enter Tryz.func157, Tryz.ntmps157
  go_wp2_with fail
  go_ret
  exact ⟨rfl, HB1.out, HB.out⟩

set_option maxHeartbeats 3200000 in
set_option maxRecDepth 100000 in
theorem back_calls {m bB l n cap : Nat} {ao : Option Addr} {H : Nat → ByteArray} (hm : 1 ≤ m) (hn : n ≤ 1000) (St : World → Prop)
    (hc : ∀ W, St W → Boxed W bB 40 (.slice ao n cap) ∧ PRow W ao n H) (J : Nat → World → Prop)
    (hY : ∀ k W, J k W → St W → k < n → YieldAt Fence.wide (m - 1) Tryz.prog l #[.int .i64 ((n : Int) - 1 - (k : Int)), .string (H (n - 1 - k))] W fun e W' => e = .returned (.bool true) ∧ J (k + 1) W' ∧ St W')
    (W : World) (s0 : St W) (h0 : J 0 W) :
    CallsIn Fence.wide m Tryz.prog 207 (#[.func (.yield l) #[] #[]] ++ #[.pointer (some ⟨bB, 0, none⟩)]) W fun e W' => (∃ v, e = .returned v) ∧ J n W' := by
  refine callsIn_of_wp Tryz.func207 rfl trivial ?_ rfl
  simp only [Tryz.ntmps207, List.size_toArray, List.length_cons, List.length_nil, Nat.reduceAdd, Nat.reduceSub, Array.replicate_succ, Array.replicate_zero, List.push_toArray, List.append_toArray, List.nil_append, List.cons_append]
  have HY := Lib.hid hY
  have HC := Lib.hid hc
  have hbox := (hc W s0).1.cell
  have HH := Lib.hid (And.intro s0 h0)
  clear hY hc s0 h0
  gi_wp2
  gi_loopw [3] (fun s3 wr => ∃ k : Nat, k ≤ n ∧ s3 = .int .i64 ((n : Int) - 1 - (k : Int)) ∧ J k wr ∧ St wr) (fun s3 _ => (intOf s3 + 1).toNat)
  case atStart => exact ⟨0, Nat.zero_le _, by go_num, HH.out.2, HH.out.1⟩
  case round =>
    obtain ⟨k, hk, rfl, hj, hs⟩ := hrel
    clear hbox HH
    by_cases hlt : k < n
    · obtain ⟨i, hi⟩ : ∃ i : Nat, (n : Int) - 1 - (k : Int) = (i : Int) := Int.eq_ofNat_of_zero_le (by omega)
      have hin : i < n := by omega
      have hii : n - 1 - k = i := by omega
      have c0 := (HC.out wr hs).1.cell
      obtain ⟨a, rfl, c1⟩ : ∃ a, ao = some a ∧ wr.cell? (a.add i) = some (.string (H i)) := by
        rcases (HC.out wr hs).2 with h0 | ⟨a, h1, h2, h3⟩
        · omega
        · exact ⟨a, h1, h3 i hin⟩
      have HYk := Lib.hid (HY.out k wr hj hs hlt)
      have HI := Lib.hid (And.intro hi hk)
      rw [hi, hii] at HYk
      rw [hi]
      clear hi hii hj hs
      obtain ⟨fn, tmps, assign, body, hy, hR⟩ := HYk.out
      have HR := Lib.hid hR
      clear hR HYk
      gi_wp2
      refine HR.out.mono ?_
      rintro e W3 ⟨rfl, hj3, hs3⟩
      have HJ3 := Lib.hid hj3
      have HS3 := Lib.hid hs3
      clear hj3 hs3 hy HR c0 c1
      gi_wp2
      go_roundw
      case rel => exact ⟨k + 1, by omega, congrArg (Value.int .i64) (by have := HI.out; omega), HJ3.out, HS3.out⟩
      case measure => simp [intOf]
    · obtain rfl : k = n := by omega
      have hjk := Lib.hid hj
      clear hj hs
      gi_wp2
      go_end0
      exact ⟨⟨_, rfl⟩, hjk.out⟩

/-- What lies on both sides. -/
def mir (f : Nat → ByteArray) (n i : Nat) : ByteArray := if i < n then f (n - i) else f (i - n)
theorem scells_mir (f : Nat → ByteArray) (n : Nat) : scells (mir f n) n ++ scells f (n + 1) = scells (mir f n) (2 * n + 1) := by
  apply List.ext_getElem?
  intro j
  rcases Nat.lt_or_ge j n with h | h
  · rw [List.getElem?_append_left (by rw [scells_len]; exact h), scells_get h, scells_get (by omega)]
  · rw [List.getElem?_append_right (by rw [scells_len]; exact h), scells_len]
    rcases Nat.lt_or_ge (j - n) (n + 1) with h2 | h2
    · rw [scells_get h2, scells_get (by omega), mir, if_neg (by omega)]
    · rw [List.getElem?_eq_none (by rw [scells_len]; exact h2), List.getElem?_eq_none (by rw [scells_len]; omega)]

/-- Ahead of round k of the loop of mirrored. -/
def MirI (w : World) (f : Nat → ByteArray) (n B H : Nat) (k : Nat) (W : World) : Prop :=
  ∃ gb cp, Boxed W B 40 (.slice (some ⟨gb, 0, none⟩) k cp) ∧ W.ownsRow w.heap.size 22 1 (.slice (some ⟨gb, 0, none⟩) k cp) k (scells (mir f n) k) ∧ (gb = w.heap.size ∨ H ≤ gb) ∧ Below w.heap.size w W
theorem MirI.keep {w : World} {f : Nat → ByteArray} {n B H k : Nat} {S : Nat → Prop} {W W' : World} (h : MirI w f n B H k W) (hc : Ch S W W') (h1 : ∀ j, S j → w.heap.size < j ∧ B < j ∧ j < H) : MirI w f n B H k W' := by
  obtain ⟨gb, cp, hl, hr, hg, hb⟩ := h
  exact ⟨gb, cp, hc.boxed (fun e => by have := h1 _ e; omega) hl, row_same hr (fun g hgg => by cases hgg; exact hc.block gb (row_blt hr) (fun e => by have := h1 _ e; omega)), hg, hb.trans (hc.to_below hb.size (fun j e => by have := h1 _ e; omega))⟩
/-- The iterator's list. -/
def MirS (g n B : Nat) (aH : Option Addr) (f : Nat → ByteArray) (W : World) : Prop := Boxed W B 40 (.slice aH n n) ∧ RA W g (n + 1) f
theorem MirS.keep {g n B : Nat} {aH : Option Addr} {f : Nat → ByteArray} {S : Nat → Prop} {W W' : World} (h : MirS g n B aH f W) (hc : Ch S W W') (h1 : ¬ S B) (h2 : ¬ S g) : MirS g n B aH f W' :=
  ⟨hc.boxed h1 h.1, h.2.same (hc.block g h.2.lt h2)⟩
theorem mirS_more {g n B : Nat} {f : Nat → ByteArray} {W : World} (h : MirS g n B (some ⟨g, 1, none⟩) f W) : PRow W (some ⟨g, 1, none⟩) n (fun i => f (i + 1)) :=
  .inr ⟨_, rfl, h.2.lt, fun j hj => by rw [Addr.add_lit, Nat.add_comm]; exact h.2.cell (by omega)⟩


set_option maxHeartbeats 12800000 in
set_option maxRecDepth 100000 in
theorem mirrored_more {g n : Nat} {f : Nat → ByteArray} {w : World} (hn : n ≤ 16) (h0 : 0 < n) (h : RA w g (n + 1) f) :
    Calls Tryz.prog 95 #[.slice (some ⟨g, 0, none⟩) (n + 1) (n + 1)] w fun e w' => ∃ ao cap, e = .returned (.slice ao (2 * n + 1) cap) ∧ w'.ownsRow w.heap.size 22 1 (.slice ao (2 * n + 1) cap) (2 * n + 1) (scells (mir f n) (2 * n + 1)) ∧ Below w.heap.size w w' := by
  obtain ⟨i0, hi, hz0, hz1, hz2⟩ := info_parts infoNum
  obtain ⟨w1, hrun, hown, hgrow⟩ := run_make_own (P := Tryz.prog) w w.heap.size 40 22 i0 (.string ⟨#[]⟩) 1 Tryz.underlying40 hi hz0 hz1 .i64 .i64 (2 * n + 1) (by rw [hz2]; omega) (by unfold maxLen; omega) (Nat.le_refl _)
  have hrun2 : (Instr.makeSlice 40 (.int .i64 0) (.int .i64 (2 * ((n : Int) + 1) - 1))).run Tryz.prog w = .ok (.slice (some ⟨w.heap.size, 0, none⟩) 0 (2 * n + 1)) w1 := by
    rw [← hrun]; congr 3; omega
  refine (callsIn_wide (n := 6)).1 ?_
  refine callsIn_of_wp_marks Tryz.func95 rfl trivial ?_ rfl
  simp only [Tryz.ntmps95, List.size_toArray, List.length_cons, List.length_nil, Nat.reduceAdd, Nat.reduceSub, Array.replicate_succ, Array.replicate_zero, List.push_toArray, List.append_toArray, List.nil_append, List.cons_append]
  obtain ⟨w2, hw2⟩ : ∃ w2, w1.alloc (.cells #[.slice (some ⟨w.heap.size, 0, none⟩) 0 (2 * n + 1)] 40) = w2 := ⟨_, rfl⟩
  have hb1 : Below w.heap.size w w1 := (Below.refl w.heap.size w).grown hgrow (Nat.le_refl _) (fun k hk => by cases hk)
  have hb2 : Below w.heap.size w w2 := by rw [← hw2]; exact hb1.alloc hb1.size _
  have hz2' : w2.heap.size = w1.heap.size + 1 := by rw [← hw2]; simp
  have hz1' : w.heap.size < w1.heap.size := (hown.lt w.heap.size rfl).2
  have hlg := h.lt
  have HRA := Lib.hid (fun W (hb : Below w.heap.size w W) => h.same (hb.block g hlg))
  have HBX := Lib.hid (show Boxed w2 w1.heap.size 40 (.slice (some ⟨w.heap.size, 0, none⟩) 0 (2 * n + 1)) by rw [← hw2]; exact Boxed.new w1 _ _)
  have HRW := Lib.hid (show w2.ownsRow w.heap.size 22 1 (.slice (some ⟨w.heap.size, 0, none⟩) 0 (2 * n + 1)) 0 (scells (mir f n) 0) by rw [← hw2]; exact hown.alloc _)
  have HZ := Lib.hid (And.intro hz2' (And.intro hz1' hlg))
  have HB := Lib.hid hb2
  have HBK := Lib.hid (backward_any (some ⟨g, 1, none⟩) n n w2)
  clear hrun hown hgrow hb1 hb2 hz2' hz1' hlg h
  gi_wp2_with fail
  clear hrun2
  refine ⟨trivial, (callsIn_wide.2 HBK.out).mono ?_⟩
  rintro e w3 ⟨rfl, hbx3, hb3⟩
  have HZ3 := Lib.hid hbx3.lt
  have HI := Lib.hid (show MirI w f n w1.heap.size (w3.heap.size + 2) 0 w3 from
    ⟨w.heap.size, (2 * n + 1), (hb3.block _ HBX.out.lt).trans HBX.out, row_same HRW.out (fun g hg => hb3.block g (HRW.out.lt g hg).2), .inl rfl, HB.out.trans (hb3.mono HB.out.size)⟩)
  have HS := Lib.hid (show MirS g n w2.heap.size (some ⟨g, 1, none⟩) f w3 from ⟨hbx3, HRA.out _ (HB.out.trans (hb3.mono HB.out.size))⟩)
  clear hbx3 hb3 HBK hw2 HBX HRW HB
  gi_wp2_with fail
  refine wpIn_rangeCh (by omega) (gf := 207) (lb := #[.pointer (some ⟨w2.heap.size, 0, none⟩)]) rfl (enters_of Tryz.func207 (by kernel_rfl) rfl)
    (fun _ => False) (fun j => j = w1.heap.size ∨ j = w.heap.size ∨ w3.heap.size + 2 ≤ j) (fun k => #[.int .i64 ((n : Int) - 1 - (k : Int)), .string (f (n - 1 - k + 1))]) (fun _ => rfl) n
    (fun _ W => MirS g n w2.heap.size (some ⟨g, 1, none⟩) f W) (MirI w f n w1.heap.size (w3.heap.size + 2))
    (fun j hj => hj.elim) ⟨by have h := HZ.out; have h3 := HZ3.out; omega, by have h := HZ.out; have h3 := HZ3.out; omega⟩
    (fun k W W' h hc => h.keep hc (by have h := HZ.out; have h3 := HZ3.out; omega) (by have h := HZ.out; have h3 := HZ3.out; omega))
    (fun k W W' h hc => h.keep hc (fun j hj => by have h := HZ.out; have h3 := HZ3.out; rcases hj with h' | h' | h' <;> (try exact h'.elim) <;> omega))
    (fun l J W _ hY s0 h0 => back_calls (H := fun i => f (i + 1)) (ao := some ⟨g, 1, none⟩) (n := n) (cap := n) (bB := w2.heap.size) (by omega) (by omega) (MirS g n w2.heap.size (some ⟨g, 1, none⟩) f)
      (fun W hs => ⟨hs.1, mirS_more hs⟩) J hY W s0 h0)
    HS.out HI.out
    (fun k => { tmps := #[.slice (some ⟨g, 0, none⟩) (n + 1) (n + 1), undef, .slice none 0 0, .pointer (some ⟨w1.heap.size, 0, none⟩), undef, .string (f (n - 1 - k + 1)), .slice (some ⟨g, 0, none⟩) (n + 1) (n + 1), .int .i64 ((n : Int) + 1), .int .i64 (2 * ((n : Int) + 1)), .int .i64 (2 * ((n : Int) + 1) - 1), .slice (some ⟨w.heap.size, 0, none⟩) 0 (2 * n + 1), .slice (some ⟨g, 0, none⟩) (n + 1) (n + 1), .slice (some ⟨g, 1, none⟩) n n, .func (.func 207) #[] #[.pointer (some ⟨w2.heap.size, 0, none⟩)], .int .i64 ((n : Int) - 1 - (k : Int)), .string (f (n - 1 - k + 1)), undef, undef, undef, undef, undef, undef, undef], defers := [] })
    ?assign ?body ?done
  case assign =>
    intro l k W K hK
    gi_wp2
    exact hK
  case body =>
    rintro l k W hsW ⟨gb, cp, hbx, hrow, hgb, hB⟩ hk
    have d0 := hbx.cell
    have HY := Lib.hid (And.intro hbx (And.intro hrow (And.intro hgb hB)))
    have HSW := Lib.hid hsW
    have HNX := Lib.hid (show scells (mir f n) (k + 1) = scells (mir f n) k ++ [.string (f (n - 1 - k + 1))] by rw [scells_next, mir, if_pos hk, show n - 1 - k + 1 = n - k by omega])
    clear hbx hrow hgb hB hsW
    generalize f (n - 1 - k + 1) = sN at *
    gi_wp2_with (gi_at_builtin; refine wpListIn_append_own_at _ rfl _ _ 40 rfl w.heap.size 22 i0 (.string ⟨#[]⟩) 1 16 Tryz.underlying40 hi hz0 hz1 hz2 rfl (by decide) _ _ _ rfl (HY.out.2.1.alloc _) ⟨W.heap.size, 0, none⟩ 1 1 [.string sN] rfl rfl (World.news_of_block (heap_alloc_new _ _)) (fun u hu => by simp at hu; subst hu; rfl) ?c3 ?c4 ?c5 ?_)
    case c3 => unfold maxLen; omega
    case c4 => omega
    case c5 => have := HY.out.2.2.2.size; simp; omega
    intro v' w6 hown' hgrow _ hblk
    obtain ⟨g', cap', rfl⟩ := ownsRow_succ hown'
    have hv1 := (HY.out.1.alloc (.cells #[.string sN] 22)).kept hgrow (HY.out.1.not_row type_neP HY.out.2.1)
    have d1 := hv1.cell
    have d2 := hv1.frozen
    have HG := Lib.hid (And.intro hown' (And.intro hgrow (And.intro hblk hv1)))
    clear hown' hgrow hblk hv1 d0
    gi_wp2_with fail
    obtain ⟨hown', hgrow, hblk, hv1⟩ := HG.out
    obtain ⟨hbx, hrow, hgb, hB⟩ := HY.out
    have hz := HZ.out
    have hz3 := HZ3.out
    have hsw := HSW.out
    have hch : Ch (fun j => j = w1.heap.size ∨ j = w.heap.size ∨ w3.heap.size + 2 ≤ j) W (w6.setCell ⟨w1.heap.size, 0, none⟩ (.slice (some ⟨g', 0, none⟩) (k + 1) cap')) :=
      ((Ch.alloc _ _ _).trans (Ch.grown hgrow (fun r hr => by simp [Value.ownBlock] at hr; omega))).trans (Ch.setCell _ _ _ (.inl rfl))
    refine ⟨hch, g', cap', hv1.set _, ?_, ?_, hB.trans (hch.to_below hB.size (fun j hj => by omega))⟩
    · rw [HNX.out]; exact hown'.kept (grownBy_setCell' w6 _ _) (.inr (hv1.not_row type_neP hown').symm)
    · rcases hblk with h | h
      · simp [Value.ownBlock] at h; omega
      · simp [Value.ownBlock] at h; omega
  case done =>
    rintro W ⟨gb, cp, hbx, hrow, hgb, hB⟩ hK
    have d0 := hbx.cell
    have HR2 := Lib.hid (HRA.out W hB)
    have HF := Lib.hid (And.intro hrow (And.intro hB (And.intro hK hgb)))
    have HM := Lib.hid (scells_mir f n)
    clear hbx hrow hB hK hgb
    gi_wp2_with (gi_at_builtin; refine wpListIn_append_own_at _ rfl _ _ 40 rfl w.heap.size 22 i0 (.string ⟨#[]⟩) 1 16 Tryz.underlying40 hi hz0 hz1 hz2 rfl (by decide) _ _ _ rfl HF.out.1 ⟨g, 0, none⟩ (n + 1) (n + 1) (scells f (n + 1)) rfl (by rw [scells_len, Nat.mul_one]) (fun j u hu => by
      have hj : j < (n + 1) := by have := (List.getElem?_eq_some_iff.1 hu).1; rwa [scells_len] at this
      rw [scells_get hj] at hu
      rw [Addr.add_lit, Nat.zero_add, HR2.out.cell hj]; exact hu) (fun u hu => by unfold scells at hu; obtain ⟨x, _, rfl⟩ := List.mem_map.1 hu; rfl) ?c3 ?c4 ?c5 ?_)
    case c3 => unfold maxLen; omega
    case c4 => omega
    case c5 => exact HF.out.2.1.size
    intro v' w6 hown' hgrow _ hblk
    rw [HM.out] at hown'
    have HG := Lib.hid (And.intro hown' (And.intro hgrow hblk))
    clear hown' hgrow hblk
    gi_wp2_with fail
    obtain ⟨hown', hgrow, hblk⟩ := HG.out
    have hb6 := HF.out.2.1.grown hgrow HF.out.2.1.size (fun b hb => (HF.out.1.lt b hb).1)
    have hK6 : w6.heap[w3.heap.size]? = some (.deferred (some [])) := (hgrow.block _ (Array.getElem?_eq_some_iff.1 HF.out.2.2.1).1 (fun e => by
      have h1 := HF.out.2.2.2
      have h2 := HZ.out
      have h3 := HZ3.out
      simp [Value.ownBlock] at e; omega)).trans HF.out.2.2.1
    refine ⟨by simp, .inl ⟨_, _, rfl, run_takeDeferred hK6, ?_⟩⟩
    have hch := Ch.putObj (fun j => j = w3.heap.size) w6 (.deferred none) (r := w3.heap.size) rfl
    have hne : ∀ b, v'.ownBlock = some b → b ≠ w3.heap.size := fun b hb e => by
      rcases hblk with h | h
      · rw [h] at hb
        have h1 := HF.out.2.2.2
        have h2 := HZ.out
        have h3 := HZ3.out
        simp [Value.ownBlock] at hb; omega
      · rw [h] at hb
        have h4 := (Array.getElem?_eq_some_iff.1 HF.out.2.2.1).1
        simp at hb; omega
    have hr7 := row_same hown' (fun b hb => hch.block b (hown'.lt b hb).2 (hne b hb))
    have hb7 := hb6.trans (hch.to_below hb6.size (fun j hj => by have := HZ.out; have := HZ3.out; omega))
    have hL : n + (n + 1) = (2 * n + 1) := by omega
    rw [hL] at hr7
    obtain ⟨gx, cx, rfl, _, _⟩ := hr7.form (by omega)
    exact ⟨_, results_tmp rfl _ _ _, _, _, rfl, hr7, hb7⟩

set_option maxHeartbeats 12800000 in
set_option maxRecDepth 100000 in
theorem mirrored_none {g : Nat} {f : Nat → ByteArray} {w : World} (h : RA w g 1 f) :
    Calls Tryz.prog 95 #[.slice (some ⟨g, 0, none⟩) 1 1] w fun e w' => ∃ ao cap, e = .returned (.slice ao 1 cap) ∧ w'.ownsRow w.heap.size 22 1 (.slice ao 1 cap) 1 (scells (mir f 0) 1) ∧ Below w.heap.size w w' := by
  obtain ⟨i0, hi, hz0, hz1, hz2⟩ := info_parts infoNum
  obtain ⟨w1, hrun, hown, hgrow⟩ := run_make_own (P := Tryz.prog) w w.heap.size 40 22 i0 (.string ⟨#[]⟩) 1 Tryz.underlying40 hi hz0 hz1 .i64 .i64 1 (by rw [hz2]; omega) (by unfold maxLen; omega) (Nat.le_refl _)
  have hrun2 : (Instr.makeSlice 40 (.int .i64 0) (.int .i64 1)).run Tryz.prog w = .ok (.slice (some ⟨w.heap.size, 0, none⟩) 0 1) w1 := by
    rw [← hrun]; rfl
  refine (callsIn_wide (n := 6)).1 ?_
  refine callsIn_of_wp_marks Tryz.func95 rfl trivial ?_ rfl
  simp only [Tryz.ntmps95, List.size_toArray, List.length_cons, List.length_nil, Nat.reduceAdd, Nat.reduceSub, Array.replicate_succ, Array.replicate_zero, List.push_toArray, List.append_toArray, List.nil_append, List.cons_append]
  obtain ⟨w2, hw2⟩ : ∃ w2, w1.alloc (.cells #[.slice (some ⟨w.heap.size, 0, none⟩) 0 1] 40) = w2 := ⟨_, rfl⟩
  have hb1 : Below w.heap.size w w1 := (Below.refl w.heap.size w).grown hgrow (Nat.le_refl _) (fun k hk => by cases hk)
  have hb2 : Below w.heap.size w w2 := by rw [← hw2]; exact hb1.alloc hb1.size _
  have hz2' : w2.heap.size = w1.heap.size + 1 := by rw [← hw2]; simp
  have hz1' : w.heap.size < w1.heap.size := (hown.lt w.heap.size rfl).2
  have hlg := h.lt
  have HRA := Lib.hid (fun W (hb : Below w.heap.size w W) => h.same (hb.block g hlg))
  have HBX := Lib.hid (show Boxed w2 w1.heap.size 40 (.slice (some ⟨w.heap.size, 0, none⟩) 0 1) by rw [← hw2]; exact Boxed.new w1 _ _)
  have HRW := Lib.hid (show w2.ownsRow w.heap.size 22 1 (.slice (some ⟨w.heap.size, 0, none⟩) 0 1) 0 (scells (mir f 0) 0) by rw [← hw2]; exact hown.alloc _)
  have HZ := Lib.hid (And.intro hz2' (And.intro hz1' hlg))
  have HB := Lib.hid hb2
  have HBK := Lib.hid (backward_any (some ⟨g, 0, none⟩) 0 0 w2)
  clear hrun hown hgrow hb1 hb2 hz2' hz1' hlg h
  gi_wp2_with fail
  clear hrun2
  refine ⟨trivial, (callsIn_wide.2 HBK.out).mono ?_⟩
  rintro e w3 ⟨rfl, hbx3, hb3⟩
  have HZ3 := Lib.hid hbx3.lt
  have HI := Lib.hid (show MirI w f 0 w1.heap.size (w3.heap.size + 2) 0 w3 from
    ⟨w.heap.size, 1, (hb3.block _ HBX.out.lt).trans HBX.out, row_same HRW.out (fun g hg => hb3.block g (HRW.out.lt g hg).2), .inl rfl, HB.out.trans (hb3.mono HB.out.size)⟩)
  have HS := Lib.hid (show MirS g 0 w2.heap.size (some ⟨g, 0, none⟩) f w3 from ⟨hbx3, HRA.out _ (HB.out.trans (hb3.mono HB.out.size))⟩)
  clear hbx3 hb3 HBK hw2 HBX HRW HB
  gi_wp2_with fail
  refine wpIn_rangeCh (by omega) (gf := 207) (lb := #[.pointer (some ⟨w2.heap.size, 0, none⟩)]) rfl (enters_of Tryz.func207 (by kernel_rfl) rfl)
    (fun _ => False) (fun j => j = w1.heap.size ∨ j = w.heap.size ∨ w3.heap.size + 2 ≤ j) (fun _ => #[.int .i64 0, .string ⟨#[]⟩]) (fun _ => rfl) 0
    (fun _ W => MirS g 0 w2.heap.size (some ⟨g, 0, none⟩) f W) (MirI w f 0 w1.heap.size (w3.heap.size + 2))
    (fun j hj => hj.elim) ⟨by have h := HZ.out; have h3 := HZ3.out; omega, by have h := HZ.out; have h3 := HZ3.out; omega⟩
    (fun k W W' h hc => h.keep hc (by have h := HZ.out; have h3 := HZ3.out; omega) (by have h := HZ.out; have h3 := HZ3.out; omega))
    (fun k W W' h hc => h.keep hc (fun j hj => by have h := HZ.out; have h3 := HZ3.out; rcases hj with h' | h' | h' <;> (try exact h'.elim) <;> omega))
    (fun l J W _ _ s0 h0 => back_calls (H := fun i => f (i + 1)) (ao := some ⟨g, 0, none⟩) (n := 0) (cap := 0) (bB := w2.heap.size) (by omega) (by omega) (MirS g 0 w2.heap.size (some ⟨g, 0, none⟩) f)
      (fun W hs => ⟨hs.1, .inl rfl⟩) J (fun k W _ _ hk => absurd hk (Nat.not_lt_zero _)) W s0 h0)
    HS.out HI.out
    (fun _ => { tmps := #[.slice (some ⟨g, 0, none⟩) 1 1, undef, .slice none 0 0, .pointer (some ⟨w1.heap.size, 0, none⟩), undef, .string ⟨#[]⟩, .slice (some ⟨g, 0, none⟩) 1 1, .int .i64 1, .int .i64 2, .int .i64 1, .slice (some ⟨w.heap.size, 0, none⟩) 0 1, .slice (some ⟨g, 0, none⟩) 1 1, .slice (some ⟨g, 0, none⟩) 0 0, .func (.func 207) #[] #[.pointer (some ⟨w2.heap.size, 0, none⟩)], .int .i64 0, .string ⟨#[]⟩, undef, undef, undef, undef, undef, undef, undef], defers := [] })
    ?assign ?body ?done
  case assign =>
    intro l k W K hK
    gi_wp2
    exact hK
  case body =>
    rintro l k W hsW _ hk
    exact absurd hk (Nat.not_lt_zero _)
  case done =>
    rintro W ⟨gb, cp, hbx, hrow, hgb, hB⟩ hK
    have d0 := hbx.cell
    have HR2 := Lib.hid (HRA.out W hB)
    have HF := Lib.hid (And.intro hrow (And.intro hB (And.intro hK hgb)))
    have HM := Lib.hid (scells_mir f 0)
    clear hbx hrow hB hK hgb
    gi_wp2_with (gi_at_builtin; refine wpListIn_append_own_at _ rfl _ _ 40 rfl w.heap.size 22 i0 (.string ⟨#[]⟩) 1 16 Tryz.underlying40 hi hz0 hz1 hz2 rfl (by decide) _ _ _ rfl HF.out.1 ⟨g, 0, none⟩ 1 1 (scells f 1) rfl (by rw [scells_len, Nat.mul_one]) (fun j u hu => by
      have hj : j < 1 := by have := (List.getElem?_eq_some_iff.1 hu).1; rwa [scells_len] at this
      rw [scells_get hj] at hu
      rw [Addr.add_lit, Nat.zero_add, HR2.out.cell hj]; exact hu) (fun u hu => by unfold scells at hu; obtain ⟨x, _, rfl⟩ := List.mem_map.1 hu; rfl) ?c3 ?c4 ?c5 ?_)
    case c3 => unfold maxLen; omega
    case c4 => omega
    case c5 => exact HF.out.2.1.size
    intro v' w6 hown' hgrow _ hblk
    rw [HM.out] at hown'
    have HG := Lib.hid (And.intro hown' (And.intro hgrow hblk))
    clear hown' hgrow hblk
    gi_wp2_with fail
    obtain ⟨hown', hgrow, hblk⟩ := HG.out
    have hb6 := HF.out.2.1.grown hgrow HF.out.2.1.size (fun b hb => (HF.out.1.lt b hb).1)
    have hK6 : w6.heap[w3.heap.size]? = some (.deferred (some [])) := (hgrow.block _ (Array.getElem?_eq_some_iff.1 HF.out.2.2.1).1 (fun e => by
      have h1 := HF.out.2.2.2
      have h2 := HZ.out
      have h3 := HZ3.out
      simp [Value.ownBlock] at e; omega)).trans HF.out.2.2.1
    refine ⟨by simp, .inl ⟨_, _, rfl, run_takeDeferred hK6, ?_⟩⟩
    have hch := Ch.putObj (fun j => j = w3.heap.size) w6 (.deferred none) (r := w3.heap.size) rfl
    have hne : ∀ b, v'.ownBlock = some b → b ≠ w3.heap.size := fun b hb e => by
      rcases hblk with h | h
      · rw [h] at hb
        have h1 := HF.out.2.2.2
        have h2 := HZ.out
        have h3 := HZ3.out
        simp [Value.ownBlock] at hb; omega
      · rw [h] at hb
        have h4 := (Array.getElem?_eq_some_iff.1 HF.out.2.2.1).1
        simp at hb; omega
    have hr7 := row_same hown' (fun b hb => hch.block b (hown'.lt b hb).2 (hne b hb))
    have hb7 := hb6.trans (hch.to_below hb6.size (fun j hj => by have := HZ.out; have := HZ3.out; omega))
    have hL : 0 + 1 = 1 := by omega
    rw [hL] at hr7
    obtain ⟨gx, cx, rfl, _, _⟩ := hr7.form (by omega)
    exact ⟨_, results_tmp rfl _ _ _, _, _, rfl, hr7, hb7⟩

theorem mirrored_ok {g n : Nat} {f : Nat → ByteArray} {w : World} (hn : n ≤ 16) (h : RA w g (n + 1) f) :
    Calls Tryz.prog 95 #[.slice (some ⟨g, 0, none⟩) (n + 1) (n + 1)] w fun e w' => ∃ ao cap, e = .returned (.slice ao (2 * n + 1) cap) ∧ w'.ownsRow w.heap.size 22 1 (.slice ao (2 * n + 1) cap) (2 * n + 1) (scells (mir f n) (2 * n + 1)) ∧ Below w.heap.size w w' := by
  rcases Nat.eq_zero_or_pos n with rfl | h0
  · exact mirrored_none h
  · exact mirrored_more hn h0 h
end

open Go.RowKit NV
open Go.Lib (decDigits)

set_option maxHeartbeats 1600000 in
set_option maxRecDepth 100000 in
theorem Pow_overJ (a n : Nat) (ha : Ok a) (hn : n ≤ 9223372036854775807) (hp : ¬ Ok (a ^ n)) (w : World) :
    Calls Tryz.prog 94 #[.string (dstr a), .int .i64 n] w fun e w' => e = .returned (.tuple #[.string ⟨#[]⟩, .int .i64 5]) ∧ Below w.heap.size w w' := by
  have hc := check_any (dstr a) w (small_str ha)
  rw [dstr_list, ha.chk] at hc
  have HC := Lib.hid hc
  have HP := Lib.hid hp
  clear hc hp
  go_enter Tryz.func94, Tryz.ntmps94
  go_wp2_with fail
  refine HC.out.mono ?_
  rintro e w1 ⟨rfl, rfl⟩
  go_wp2_with fail
  refine (parse_dec a ha w).mono ?_
  rintro e w2 ⟨x, rfl, hx, hb2⟩
  have hpw := power_any (n := n) hx.num ha (by omega)
  rw [fitB_no HP.out] at hpw
  have HPW := Lib.hid hpw
  have HB2 := Lib.hid hb2
  clear hx hb2 hpw
  go_wp2_with fail
  refine HPW.out.mono ?_
  rintro e w3 ⟨v, rfl, _, hb3⟩
  have HB4 := Lib.hid (HB2.out.trans (hb3.mono HB2.out.size))
  clear hb3 HPW
  go_wp2_with fail
  go_ret2
  exact ⟨rfl, HB4.out⟩


/-- The error of weights that may be too long. -/
def bwO (d n : Nat) : Nat := if (dstr (d ^ (n * n))).size ≤ 3800 then 0 else 5
theorem bwO_ok {d n : Nat} (h : bwO d n = 0) : (dstr (d ^ (n * n))).size ≤ 3800 ∧ Ok (d ^ (n * n)) := by
  unfold bwO at h
  split at h
  · rename_i hs
    refine ⟨hs, ?_⟩
    rw [dstr_size] at hs
    unfold Ok; omega
  · omega
theorem bwO_five {d n : Nat} (h : bwO d n ≠ 0) : bwO d n = 5 ∧ 3800 < (dstr (d ^ (n * n))).size := by
  unfold bwO at h ⊢
  split at h
  · omega
  · rename_i hs; rw [if_neg hs]; exact ⟨rfl, by omega⟩
/-- The error of a ratio and a bound. -/
def bwE (s : ByteArray) (t : Int) : Nat := if beE s ≠ 0 then beE s else if t < 0 ∨ 16 < t then 2 else bwO (dv (denS s).data.toList) t.toNat
theorem bwE_q {q : Rat} (op : QOk q) (hb : belE q = 0) {n : Nat} (hn : n ≤ 16) : bwE (qstr q) (n : Int) = bwO q.den n := by
  unfold bwE
  rw [beE_q op, hb, if_neg (by simp), if_neg (by omega)]
  obtain ⟨_, _, _, _, _, h6⟩ := qstr_parts q
  rw [h6]; rfl
/-- A text and a bound have weights, or an error. -/
theorem bw_cases {s : ByteArray} {t : Int} (h : bwE s t = 0) : ∃ (q : Rat) (n : Nat), s = qstr q ∧ t = (n : Int) ∧ QOk q ∧ belE q = 0 ∧ n ≤ 16 ∧ bwO q.den n = 0 := by
  by_cases h1 : beE s = 0
  · obtain ⟨q, rfl, op, hb⟩ := bel_cases h1
    by_cases h2 : t < 0 ∨ 16 < t
    · unfold bwE at h; rw [if_neg (by simp [h1]), if_pos h2] at h; omega
    · obtain ⟨n, rfl⟩ := Int.eq_ofNat_of_zero_le (show 0 ≤ t by omega)
      rw [bwE_q op hb (by omega)] at h
      exact ⟨q, n, rfl, rfl, op, hb, by omega, h⟩
  · unfold bwE at h; rw [if_pos h1] at h; exact absurd h h1

/-- The weights as texts, from -n on. -/
def wB (q : Rat) (n : Nat) : Nat → ByteArray := mir (fun k => dstr (bw (tp q) q.den n k)) n
theorem oP_le {d n k : Nat} (hd : 1 ≤ d) (hk : k < n) : oP d k ≤ d ^ (n * n) := by
  unfold oP
  refine Nat.pow_le_pow_right hd ?_
  obtain ⟨r, rfl⟩ : ∃ r, n = k + 1 + r := ⟨n - (k + 1), by omega⟩
  have h1 : (k + 1) * (k + 1) ≤ (k + 1 + r) * (k + 1 + r) := Nat.mul_le_mul (by omega) (by omega)
  have h2 : (k + 1) * (k + 1) = k * k + 2 * k + 1 := by rw [Nat.mul_add, Nat.add_mul]; omega
  omega

set_option maxHeartbeats 3200000 in
set_option maxRecDepth 100000 in
theorem weights_q {s : ByteArray} {t : Int} (hs : s.size ≤ 1000000) (h : beE s ≠ 0) (w : World) (hm : ML w) :
    Calls Tryz.prog 33 #[.string s, .int .i64 t] w fun e w' => e = .returned (.tuple #[.slice none 0 0, .int .i64 ((beE s : Nat) : Int)]) ∧ Below w.heap.size w w' := by
  have HP := Lib.hid (bparts_no hs h w hm)
  have hne := errne h
  generalize beE s = c at *
  clear h hs hm
  go_enter Tryz.func33, Tryz.ntmps33
  go_wp2_with fail
  refine HP.out.mono ?_
  rintro e w1 ⟨rfl, hb1⟩
  have HB := Lib.hid hb1
  clear hb1 HP
  go_wp2_with fail
  go_ret2
  exact ⟨rfl, HB.out⟩

set_option maxHeartbeats 3200000 in
set_option maxRecDepth 100000 in
theorem weights_lo {q : Rat} {t : Int} (op : QOk q) (hb : belE q = 0) (ht : t < 0) (w : World) (hm : ML w) :
    Calls Tryz.prog 33 #[.string (qstr q), .int .i64 t] w fun e w' => e = .returned (.tuple #[.slice none 0 0, .int .i64 2]) ∧ Below w.heap.size w w' := by
  have HP := Lib.hid (bparts_yes op hb w hm)
  generalize qstr q = s at *
  generalize dstr (tp q) = s1 at *
  generalize dstr q.den = s2 at *
  clear op hb hm
  go_enter Tryz.func33, Tryz.ntmps33
  go_wp2_with fail
  refine HP.out.mono ?_
  rintro e w1 ⟨rfl, hb1⟩
  have HB := Lib.hid hb1
  clear hb1 HP
  go_wp2_with fail
  go_ret2
  exact ⟨rfl, HB.out⟩

set_option maxHeartbeats 3200000 in
set_option maxRecDepth 100000 in
theorem weights_hi {q : Rat} {t : Int} (op : QOk q) (hb : belE q = 0) (ht : 16 < t) (w : World) (hm : ML w) :
    Calls Tryz.prog 33 #[.string (qstr q), .int .i64 t] w fun e w' => e = .returned (.tuple #[.slice none 0 0, .int .i64 2]) ∧ Below w.heap.size w w' := by
  have ht0 : ¬ t < 0 := by omega
  have HP := Lib.hid (bparts_yes op hb w hm)
  generalize qstr q = s at *
  generalize dstr (tp q) = s1 at *
  generalize dstr q.den = s2 at *
  clear op hb hm
  go_enter Tryz.func33, Tryz.ntmps33
  go_wp2_with fail
  refine HP.out.mono ?_
  rintro e w1 ⟨rfl, hb1⟩
  have HB := Lib.hid hb1
  clear hb1 HP
  go_wp2_with fail
  go_ret2
  exact ⟨rfl, HB.out⟩

set_option maxHeartbeats 3200000 in
set_option maxRecDepth 100000 in
theorem weights_ov1 {q : Rat} {n : Nat} (op : QOk q) (hb : belE q = 0) (hn : n ≤ 16) (ho : ¬ Ok (q.den ^ (n * n))) (w : World) (_htab : Tab w) (hm : ML w) :
    Calls Tryz.prog 33 #[.string (qstr q), .int .i64 (n : Int)] w fun e w' => e = .returned (.tuple #[.slice none 0 0, .int .i64 5]) ∧ Below w.heap.size w w' := by
  have HP := Lib.hid (bparts_yes op hb w hm)
  obtain ⟨N2, hN2⟩ : ∃ N2 : Nat, (n : Int) * (n : Int) = (N2 : Int) := ⟨n * n, by simp⟩
  have hN3 : n * n = N2 := by have : ((n * n : Nat) : Int) = (N2 : Int) := by rw [← hN2]; simp
                              omega
  have hN4 : N2 ≤ 256 := by rw [← hN3]; exact Nat.le_trans (Nat.mul_le_mul hn hn) (by omega)
  rw [hN3] at ho
  have HW := Lib.hid (fun W (_h : Below w.heap.size w W) => Pow_overJ q.den N2 op.2 (by omega) ho W)
  generalize qstr q = s at *
  generalize dstr (tp q) = s1 at *
  generalize dstr q.den = s2 at *
  have ht0 : ¬ (n : Int) < 0 := by omega
  have ht1 : ¬ 16 < (n : Int) := by omega
  clear op hb hm ho hN3
  go_enter Tryz.func33, Tryz.ntmps33
  go_wp2_with fail
  refine HP.out.mono ?_
  rintro e w1 ⟨rfl, hb1⟩
  have HB := Lib.hid hb1
  clear hb1 HP
  go_wp2_with fail
  refine (HW.out _ HB.out).mono ?_
  rintro e w2 ⟨rfl, hb2⟩
  replace HB := Lib.hid (HB.out.trans (hb2.mono HB.out.size))
  clear hb2 HW
  go_wp2_with fail
  go_ret2
  exact ⟨rfl, HB.out⟩

set_option maxHeartbeats 3200000 in
set_option maxRecDepth 100000 in
theorem weights_ov2 {q : Rat} {n : Nat} (op : QOk q) (hb : belE q = 0) (hn : n ≤ 16) (ho : Ok (q.den ^ (n * n))) (h5 : 3800 < (dstr (q.den ^ (n * n))).size) (w : World) (htab : Tab w) (hm : ML w) :
    Calls Tryz.prog 33 #[.string (qstr q), .int .i64 (n : Int)] w fun e w' => e = .returned (.tuple #[.slice none 0 0, .int .i64 5]) ∧ Below w.heap.size w w' := by
  have HP := Lib.hid (bparts_yes op hb w hm)
  obtain ⟨N2, hN2⟩ : ∃ N2 : Nat, (n : Int) * (n : Int) = (N2 : Int) := ⟨n * n, by simp⟩
  have hN3 : n * n = N2 := by have : ((n * n : Nat) : Int) = (N2 : Int) := by rw [← hN2]; simp
                              omega
  have hN4 : N2 ≤ 256 := by rw [← hN3]; exact Nat.le_trans (Nat.mul_le_mul hn hn) (by omega)
  rw [hN3] at ho h5
  have HW := Lib.hid (fun W (h : Below w.heap.size w W) => Pow_ok q.den N2 op.2 (by omega) ho W (htab.below h))
  generalize qstr q = s at *
  generalize dstr (tp q) = s1 at *
  generalize dstr (q.den ^ N2) = s3 at *
  generalize dstr q.den = s2 at *
  have ht0 : ¬ (n : Int) < 0 := by omega
  have ht1 : ¬ 16 < (n : Int) := by omega
  have h6 : 3800 < (s3.size : Int) := by omega
  clear h5
  clear op hb hm htab ho hN3
  go_enter Tryz.func33, Tryz.ntmps33
  go_wp2_with fail
  refine HP.out.mono ?_
  rintro e w1 ⟨rfl, hb1⟩
  have HB := Lib.hid hb1
  clear hb1 HP
  go_wp2_with fail
  refine (HW.out _ HB.out).mono ?_
  rintro e w2 ⟨rfl, hb2⟩
  replace HB := Lib.hid (HB.out.trans (hb2.mono HB.out.size))
  clear hb2 HW
  go_wp2_with fail
  go_ret2
  exact ⟨rfl, HB.out⟩

set_option maxHeartbeats 3200000 in
set_option maxRecDepth 100000 in
theorem weights_ok {q : Rat} {n : Nat} (op : QOk q) (hb : belE q = 0) (hn : n ≤ 16) (hO : bwO q.den n = 0) (w : World) (htab : Tab w) (hm : ML w) :
    Calls Tryz.prog 33 #[.string (qstr q), .int .i64 (n : Int)] w fun e w' => ∃ ao cap, e = .returned (.tuple #[.slice ao (2 * n + 1) cap, .int .i64 0]) ∧ w'.ownsRow w.heap.size 22 1 (.slice ao (2 * n + 1) cap) (2 * n + 1) (scells (wB q n) (2 * n + 1)) ∧ Below w.heap.size w w' := by
  have HP := Lib.hid (bparts_yes op hb w hm)
  obtain ⟨N2, hN2⟩ : ∃ N2 : Nat, (n : Int) * (n : Int) = (N2 : Int) := ⟨n * n, by simp⟩
  have hN3 : n * n = N2 := by have : ((n * n : Nat) : Int) = (N2 : Int) := by rw [← hN2]; simp
                              omega
  have hN4 : N2 ≤ 256 := by rw [← hN3]; exact Nat.le_trans (Nat.mul_le_mul hn hn) (by omega)
  obtain ⟨h5, ho⟩ := bwO_ok hO
  obtain ⟨b1, b2, b3⟩ := belE_ok hb
  have HFL := Lib.hid (fun W (h : Below w.heap.size w W) => falling_ok (a := tp q) (d := q.den) b2 b3 hn ho (fun k hk => oP_le q.den_pos hk) W (htab.below h))
  have HMI := Lib.hid (fun W g (h : RA W g (n + 1) (fun k => dstr (bw (tp q) q.den n k))) => mirrored_ok hn h)
  rw [hN3] at ho h5
  have HW := Lib.hid (fun W (h : Below w.heap.size w W) => Pow_ok q.den N2 op.2 (by omega) ho W (htab.below h))
  unfold wB
  generalize (fun k => dstr (bw (tp q) q.den n k)) = FB at *
  generalize qstr q = s at *
  generalize dstr (tp q) = s1 at *
  generalize dstr (q.den ^ N2) = s3 at *
  generalize dstr q.den = s2 at *
  have ht0 : ¬ (n : Int) < 0 := by omega
  have ht1 : ¬ 16 < (n : Int) := by omega
  have h6 : ¬ 3800 < (s3.size : Int) := by omega
  clear op hb hm htab ho hO h5 b1 b2 b3 hN3
  go_enter Tryz.func33, Tryz.ntmps33
  go_wp2_with fail
  refine HP.out.mono ?_
  rintro e w1 ⟨rfl, hb1⟩
  have HB := Lib.hid hb1
  clear hb1 HP
  go_wp2_with fail
  refine (HW.out _ HB.out).mono ?_
  rintro e w2 ⟨rfl, hb2⟩
  replace HB := Lib.hid (HB.out.trans (hb2.mono HB.out.size))
  clear hb2 HW
  go_wp2_with fail
  refine (HFL.out _ HB.out).mono ?_
  rintro e w3 ⟨g, rfl, hra, hlg, hb3⟩
  replace HB := Lib.hid (HB.out.trans (hb3.mono HB.out.size))
  have HX := Lib.hid hra
  clear hb3 HFL hra
  go_wp2_with fail
  refine (HMI.out _ _ HX.out).mono ?_
  rintro e w4 ⟨ao, cap, rfl, hrow, hb4⟩
  have HR := Lib.hid (And.intro (row_low hrow HB.out.size) (HB.out.trans (hb4.mono HB.out.size)))
  clear hb4 HMI hrow HX HB
  go_wp2_with fail
  go_ret2
  exact ⟨_, _, rfl, HR.out.1, HR.out.2⟩

theorem weights_err {s : ByteArray} {t : Int} (hs : s.size ≤ 1000000) (h : bwE s t ≠ 0) (w : World) (htab : Tab w) (hm : ML w) :
    Calls Tryz.prog 33 #[.string s, .int .i64 t] w fun e w' => e = .returned (.tuple #[.slice none 0 0, .int .i64 ((bwE s t : Nat) : Int)]) ∧ Below w.heap.size w w' := by
  by_cases h1 : beE s = 0
  · obtain ⟨q, rfl, op, hb⟩ := bel_cases h1
    by_cases h2 : t < 0 ∨ 16 < t
    · have e2 : bwE (qstr q) t = 2 := by unfold bwE; rw [if_neg (by simp [h1]), if_pos h2]
      rw [e2]
      rcases h2 with h2 | h2
      · exact weights_lo op hb h2 w hm
      · exact weights_hi op hb h2 w hm
    · obtain ⟨n, rfl⟩ := Int.eq_ofNat_of_zero_le (show 0 ≤ t by omega)
      rw [bwE_q op hb (by omega)] at h ⊢
      obtain ⟨e5, h5⟩ := bwO_five h
      rw [e5]
      by_cases ho : Ok (q.den ^ (n * n))
      · exact weights_ov2 op hb (by omega) ho h5 w htab hm
      · exact weights_ov1 op hb (by omega) ho w htab hm
  · have e1 : bwE s t = beE s := by unfold bwE; rw [if_pos h1]
    rw [e1]
    exact weights_q hs h1 w hm

open Go.RowKit NV
open Go.Lib (decDigits)

/-- The weight of index j. -/
def bM (q : Rat) (n j : Nat) : Nat := if j < n then bw (tp q) q.den n (n - j) else bw (tp q) q.den n (j - n)
theorem wB_text (q : Rat) (n j : Nat) : wB q n j = dstr (bM q n j) := by
  unfold wB mir bM
  split <;> rfl
theorem bw_pos {a d n k : Nat} (ha : 0 < a) (hd : 0 < d) : 0 < bw a d n k := Nat.mul_pos (Nat.pow_pos ha) (Nat.pow_pos hd)
theorem bM_pos {q : Rat} (hb : belE q = 0) (n j : Nat) : 0 < bM q n j := by
  unfold bM
  split <;> exact bw_pos (belE_ok hb).2.1 q.den_pos
theorem bM_le {q : Rat} (hb : belE q = 0) {n j : Nat} (hj : j < 2 * n + 1) : bM q n j ≤ q.den ^ (n * n) := by
  unfold bM
  split
  · exact bw_le (belE_ok hb).2.2 (by omega)
  · exact bw_le (belE_ok hb).2.2 (by omega)
theorem wN_bell (q : Rat) (n j : Nat) : wN (wB q n) j = bM q n j := by
  unfold wN; rw [wB_text, dstr_list, dv_dec]
theorem wB_ok {q : Rat} {n : Nat} (hb : belE q = 0) (hn : n ≤ 16) (hO : bwO q.den n = 0) : WOk (wB q n) (2 * n + 1) := by
  obtain ⟨h5, ho⟩ := bwO_ok hO
  refine ⟨by omega, by omega, fun j _ => by rw [wN_bell, wB_text], fun j hj => by rw [wN_bell]; exact ho.mono (bM_le hb hj), fun j hj => ?_, ?_⟩
  · rw [wN_bell]
    refine Nat.le_trans ?_ h5
    rw [dstr_size, dstr_size]; exact dec_len_mono (bM_le hb hj)
  · have h1 : wN (wB q n) 0 ≤ wsum (wN (wB q n)) 1 := Nat.le_add_left _ _
    have h2 := wsum_mono (wN (wB q n)) 1 (2 * n + 1) (by omega)
    have h3 := bM_pos hb n 0
    rw [wN_bell] at h1
    omega

theorem DR.resultB {w : World} {b : Nat} {d : Bool} {v u : Int} {tmps : Array Value} {x : Value} {fn : Func} (h : DR w b d v u) (hf : fn.results = #[.cell 6 26, .tmp 7]) (ht : tmps.getD 6 undef = .pointer (some ⟨b, 0, none⟩)) (hx : tmps.getD 7 undef = x) : (results fn tmps).run Tryz.prog w = .ok (.tuple #[.agg #[.bool d, .int .i64 v, .int .i64 u], x]) w := by
  have hl := h.load
  have ht' : tmps[6]?.getD undef = .pointer (some ⟨b, 0, none⟩) := by rw [← ht]; simp
  have hx' : tmps[7]?.getD undef = x := by rw [← hx]; simp
  simp [results, hf, ht', hx', asAddr, hl]
theorem DR.s1 {w : World} {b : Nat} {d : Bool} {v u : Int} (h : DR w b d v u) (v' : Int) : DR (w.setCell ⟨b, 1, none⟩ (.int .i64 v')) b d v' u := heap_setCell_same w b 1 _ _ _ h
theorem DR.other {w : World} {b c j : Nat} {d : Bool} {v u : Int} {x : Value} (h : DR w b d v u) (hne : b ≠ c) : DR (w.setCell ⟨c, j, none⟩ x) b d v u := (heap_setCell_other w ⟨c, j, none⟩ b x hne).trans h

set_option maxHeartbeats 3200000 in
set_option maxRecDepth 100000 in
theorem bDraw_w {s b : ByteArray} {t : Int} (hs : s.size ≤ 1000000) (h : bwE s t ≠ 0) (w : World) (htab : Tab w) (hm : ML w) :
    Calls Tryz.prog 34 #[.string s, .int .i64 t, .string b] w fun e w' => e = .returned (.tuple #[.agg #[.bool false, .int .i64 0, .int .i64 0], .int .i64 ((bwE s t : Nat) : Int)]) ∧ Below w.heap.size w w' := by
  have HB := Lib.hid ((Below.refl w.heap.size w).alloc (Nat.le_refl _) (drO false 0 0))
  have HP := Lib.hid (weights_err hs h _ (htab.below HB.out) (ml_keep hm (ml_pos hm) HB.out))
  have HD := Lib.hid (DR.new w false 0 0)
  have hne := errne h
  generalize bwE s t = c at *
  clear h hs hm htab
  go_enter Tryz.func34, Tryz.ntmps34
  go_wp2_with fail
  refine HP.out.mono ?_
  rintro e w1 ⟨rfl, hb⟩
  replace HB := Lib.hid (HB.out.trans (hb.mono HB.out.size))
  replace HD := Lib.hid (HD.out.below hb)
  obtain ⟨g0, g1, g2⟩ := HD.out.c
  have f0 := HD.out.f 0
  have f1 := HD.out.f 1
  have f2 := HD.out.f 2
  clear hb HP
  go_wp2_with fail
  exact bodyPost_ret ((HD.out.st false 0 0).resultB rfl rfl rfl) rfl ⟨rfl, below_sr3 HB.out (by omega) _ _ _⟩

set_option maxHeartbeats 6400000 in
set_option maxRecDepth 100000 in
theorem bDraw_true {q : Rat} {n : Nat} {b : ByteArray} {v u c : Int} (op : QOk q) (hb : belE q = 0) (hn : n ≤ 16) (hO : bwO q.den n = 0) (hv : 0 ≤ v ∧ v ≤ 64) (w : World) (htab : Tab w) (hm : ML w)
    (hP : ∀ W ao cap, PRow W ao (2 * n + 1) (wB q n) → Tab W → PDraws ao (2 * n + 1) cap b true v u c W) :
    Calls Tryz.prog 34 #[.string (qstr q), .int .i64 (n : Int), .string b] w fun e w' => e = .returned (.tuple #[.agg #[.bool true, .int .i64 (v - (n : Int)), .int .i64 u], .int .i64 c]) ∧ Below w.heap.size w w' := by
  have HB := Lib.hid ((Below.refl w.heap.size w).alloc (Nat.le_refl _) (drO false 0 0))
  have HW := Lib.hid (weights_ok op hb hn hO _ (htab.below HB.out) (ml_keep hm (ml_pos hm) HB.out))
  have HD := Lib.hid (DR.new w false 0 0)
  have HP := Lib.hid hP
  have HTAB := Lib.hid (fun W (h : Below w.heap.size w W) => htab.below h)
  have hv0 := hv.1
  have hv1 := hv.2
  generalize qstr q = s at *
  clear op hb hO hm htab hP hv
  go_enter Tryz.func34, Tryz.ntmps34
  go_wp2_with fail
  refine HW.out.mono ?_
  rintro e w1 ⟨ao, cap, rfl, hrow, hb⟩
  replace HB := Lib.hid (HB.out.trans (hb.mono HB.out.size))
  replace HD := Lib.hid (HD.out.below hb)
  have HPD := Lib.hid (show Calls Tryz.prog 21 #[.slice ao (2 * n + 1) cap, .string b] w1 fun e w' => e = .returned (.tuple #[.agg #[.bool true, .int .i64 v, .int .i64 u], .int .i64 c]) ∧ Below w1.heap.size w1 w' from HP.out w1 ao cap (srow_prow hrow) (HTAB.out w1 HB.out))
  have HZ := Lib.hid HD.out.lt
  clear hb hrow HW HP HTAB
  go_wp2_with fail
  refine HPD.out.mono ?_
  rintro e w2 ⟨rfl, hb⟩
  have HD2 := Lib.hid (DR.new w2 true v u)
  have hbb := hb.alloc hb.size (drO true v u)
  replace HB := Lib.hid (HB.out.trans (hbb.mono HB.out.size))
  replace HD := Lib.hid (HD.out.below hbb)
  have hne : w.heap.size ≠ w2.heap.size := by
    have h1 := HD.out.lt
    have h2 := hb.size
    have h3 := HZ.out
    omega
  obtain ⟨g0, g1, g2⟩ := HD.out.c
  have f0 := HD.out.f 0
  have f1 := HD.out.f 1
  have f2 := HD.out.f 2
  obtain ⟨d0, d1, d2⟩ := HD2.out.c
  have e1 := HD2.out.f 1
  have HNE := Lib.hid hne
  obtain ⟨W3, hW3⟩ : ∃ W3, (w2.alloc (drO true v u)).setCell ⟨w2.heap.size, 1, none⟩ (.int .i64 (v - (n : Int))) = W3 := ⟨_, rfl⟩
  have hl : (loadVar 26 ⟨w2.heap.size, 0, none⟩).run Tryz.prog W3 = .ok (.agg #[.bool true, .int .i64 (v - (n : Int)), .int .i64 u]) W3 := by rw [← hW3]; exact (HD2.out.s1 (v - (n : Int))).load
  have HD3 := Lib.hid (show DR W3 w.heap.size false 0 0 by rw [← hW3]; exact HD.out.other hne)
  have HB3 := Lib.hid (show Below w.heap.size w W3 by rw [← hW3]; exact HB.out.setCell (p := ⟨w2.heap.size, 1, none⟩) (by have := HZ.out; have := hb.size; show w.heap.size ≤ w2.heap.size; omega) (.int .i64 (v - (n : Int))))
  obtain ⟨m0, m1, m2⟩ := (show DR W3 w2.heap.size true (v - (n : Int)) u by rw [← hW3]; exact HD2.out.s1 (v - (n : Int))).c
  clear g0 g1 g2 f0 f1 f2
  obtain ⟨k0, k1, k2⟩ := HD3.out.c
  have l0 := HD3.out.f 0
  have l1 := HD3.out.f 1
  have l2 := HD3.out.f 2
  clear hb hbb HPD
  go_wp2_with fail
  exact bodyPost_ret ((HD3.out.st true (v - (n : Int)) u).resultB rfl rfl rfl) rfl ⟨rfl, below_sr3 HB3.out (by omega) _ _ _⟩

set_option maxHeartbeats 6400000 in
set_option maxRecDepth 100000 in
theorem bDraw_false {q : Rat} {n : Nat} {b : ByteArray} {v u c : Int} (op : QOk q) (hb : belE q = 0) (hn : n ≤ 16) (hO : bwO q.den n = 0) (hv : 0 ≤ v ∧ v ≤ 64) (w : World) (htab : Tab w) (hm : ML w)
    (hP : ∀ W ao cap, PRow W ao (2 * n + 1) (wB q n) → Tab W → PDraws ao (2 * n + 1) cap b false v u c W) :
    Calls Tryz.prog 34 #[.string (qstr q), .int .i64 (n : Int), .string b] w fun e w' => e = .returned (.tuple #[.agg #[.bool false, .int .i64 v, .int .i64 u], .int .i64 c]) ∧ Below w.heap.size w w' := by
  have HB := Lib.hid ((Below.refl w.heap.size w).alloc (Nat.le_refl _) (drO false 0 0))
  have HW := Lib.hid (weights_ok op hb hn hO _ (htab.below HB.out) (ml_keep hm (ml_pos hm) HB.out))
  have HD := Lib.hid (DR.new w false 0 0)
  have HP := Lib.hid hP
  have HTAB := Lib.hid (fun W (h : Below w.heap.size w W) => htab.below h)
  have hv0 := hv.1
  have hv1 := hv.2
  generalize qstr q = s at *
  clear op hb hO hm htab hP hv
  go_enter Tryz.func34, Tryz.ntmps34
  go_wp2_with fail
  refine HW.out.mono ?_
  rintro e w1 ⟨ao, cap, rfl, hrow, hb⟩
  replace HB := Lib.hid (HB.out.trans (hb.mono HB.out.size))
  replace HD := Lib.hid (HD.out.below hb)
  have HPD := Lib.hid (show Calls Tryz.prog 21 #[.slice ao (2 * n + 1) cap, .string b] w1 fun e w' => e = .returned (.tuple #[.agg #[.bool false, .int .i64 v, .int .i64 u], .int .i64 c]) ∧ Below w1.heap.size w1 w' from HP.out w1 ao cap (srow_prow hrow) (HTAB.out w1 HB.out))
  have HZ := Lib.hid HD.out.lt
  clear hb hrow HW HP HTAB
  go_wp2_with fail
  refine HPD.out.mono ?_
  rintro e w2 ⟨rfl, hb⟩
  have HD2 := Lib.hid (DR.new w2 false v u)
  have hbb := hb.alloc hb.size (drO false v u)
  replace HB := Lib.hid (HB.out.trans (hbb.mono HB.out.size))
  replace HD := Lib.hid (HD.out.below hbb)
  have hne : w.heap.size ≠ w2.heap.size := by
    have h1 := HD.out.lt
    have h2 := hb.size
    have h3 := HZ.out
    omega
  obtain ⟨g0, g1, g2⟩ := HD.out.c
  have f0 := HD.out.f 0
  have f1 := HD.out.f 1
  have f2 := HD.out.f 2
  obtain ⟨d0, d1, d2⟩ := HD2.out.c
  have e1 := HD2.out.f 1
  have HNE := Lib.hid hne
  have hl := HD2.out.load
  clear hb hbb hne HPD
  go_wp2_with fail
  exact bodyPost_ret ((HD.out.st false v u).resultB rfl rfl rfl) rfl ⟨rfl, below_sr3 HB.out (by omega) _ _ _⟩

set_option maxHeartbeats 1600000 in
theorem bLate_w {s : ByteArray} {t m : Int} (hs : s.size ≤ 1000000) (h : bwE s t ≠ 0) (w : World) (htab : Tab w) (hm : ML w) :
    Calls Tryz.prog 38 #[.string s, .int .i64 t, .int .i64 m] w fun e w' => e = .returned (.tuple #[.string ⟨#[]⟩, .int .i64 ((bwE s t : Nat) : Int)]) ∧ Below w.heap.size w w' := by
  have HP := Lib.hid (weights_err hs h w htab hm)
  have hne := errne h
  generalize bwE s t = c at *
  clear h hs hm htab
  go_enter Tryz.func38, Tryz.ntmps38
  go_wp2_with fail
  refine HP.out.mono ?_
  rintro e w1 ⟨rfl, hb⟩
  have HB := Lib.hid hb
  clear hb HP
  go_wp2_with fail
  go_ret2
  exact ⟨rfl, HB.out⟩

set_option maxHeartbeats 3200000 in
set_option maxRecDepth 100000 in
theorem bLate_x {q : Rat} {n : Nat} {m c : Int} {x : ByteArray} (op : QOk q) (hb : belE q = 0) (hn : n ≤ 16) (hO : bwO q.den n = 0) (w : World) (htab : Tab w) (hm : ML w)
    (hP : ∀ W ao cap, PRow W ao (2 * n + 1) (wB q n) → Tab W → Calls Tryz.prog 25 #[.slice ao (2 * n + 1) cap, .int .i64 m] W fun e w' => e = .returned (.tuple #[.string x, .int .i64 c]) ∧ Below W.heap.size W w') :
    Calls Tryz.prog 38 #[.string (qstr q), .int .i64 (n : Int), .int .i64 m] w fun e w' => e = .returned (.tuple #[.string x, .int .i64 c]) ∧ Below w.heap.size w w' := by
  have HW := Lib.hid (weights_ok op hb hn hO w htab hm)
  have HP := Lib.hid hP
  have HTAB := Lib.hid (fun W (h : Below w.heap.size w W) => htab.below h)
  generalize qstr q = s at *
  clear op hb hO hm htab hP hn
  go_enter Tryz.func38, Tryz.ntmps38
  go_wp2_with fail
  refine HW.out.mono ?_
  rintro e w1 ⟨ao, cap, rfl, hrow, hb⟩
  have HB := Lib.hid hb
  have HPD := Lib.hid (HP.out w1 ao cap (srow_prow hrow) (HTAB.out w1 hb))
  clear hb hrow HW HP HTAB
  go_wp2_with fail
  refine HPD.out.mono ?_
  rintro e w2 ⟨rfl, hb⟩
  replace HB := Lib.hid (HB.out.trans (hb.mono HB.out.size))
  clear hb HPD
  go_wp2_with fail
  go_ret2
  exact ⟨rfl, HB.out⟩

end Go.Proofs.YteojekiocecdnaaGreatDoor
