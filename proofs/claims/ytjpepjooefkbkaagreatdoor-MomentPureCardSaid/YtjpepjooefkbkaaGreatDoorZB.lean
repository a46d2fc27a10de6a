/-
  The reference of layer 8: collect. The reference of layer 8: collect, its walk. Package dist: collect, Make; the reference's Make. Make of package dist and of the reference. Package dist: byKey, excess, Delta, Distance. Package dist: Delta, Distance, Same. Package dist: cover, compared.
-/
import Derived.Test.YtjpepjooefkbkaaGreatDoorZA
import Derived.OrdersHeld
import Derived.Deep.AppendLies
import Derived.Laws.OwnMore
import Derived.Maps.AppendAt
import Derived.Sort.Walk0
namespace Go.Proofs.YtjpepjooefkbkaaGreatDoor
section
open Go.RowKit NV
open Go.Lib (decDigits)
theorem sA {α : Type} (l : List α) (i : Nat) (a : α) : l.toArray.setIfInBounds i a = (l.set i a).toArray := List.setIfInBounds_toArray ..
theorem sB {α : Type} (x a : α) (l : List α) : (x :: l).set 0 a = a :: l := rfl
theorem sC {α : Type} (x a : α) (l : List α) (n : Nat) : (x :: l).set (n + 1) a = x :: l.set n a := rfl
section
variable {P : Program} {ops : Array Oper} {Q : Exit → Act → World → Prop} {md : Region.Mode} {S : World → Prop}
theorem wpHz_one {i fuel : Nat} {l : Array Bool} {a : Act} {w : World} (hr : Region.ready md ops l = [i]) (h : wpOp P ops Q i (fun a' w' => S w' ∧ wpAnyH P md ops Q S fuel (l.setIfInBounds i true) a' w') a w) : wpAnyH P md ops Q S (fuel + 1) l a w :=
 wpAnyH_all hr (by simp) fun j hj => by
  rw [List.mem_singleton] at hj
  subst hj; exact h
theorem wpHz_two {i j fuel : Nat} {l : Array Bool} {a : Act} {w : World} (hr : Region.ready md ops l = [i, j]) (h : wpOp P ops Q i (fun a' w' => S w' ∧ wpAnyH P md ops Q S fuel (l.setIfInBounds i true) a' w') a w) (h2 : wpOp P ops Q j (fun a' w' => S w' ∧ wpAnyH P md ops Q S fuel (l.setIfInBounds j true) a' w') a w) : wpAnyH P md ops Q S (fuel + 1) l a w :=
 wpAnyH_all hr (by simp) fun k hk => by
  rcases List.mem_cons.1 hk with rfl | hk
  ·exact h
  ·rw [List.mem_singleton] at hk
   subst hk; exact h2
theorem wpHz_take {i : Nat} {oi : Oper} {v : Value} {d fuel : Nat} {listed : Array Bool} {a : Act} {w : World} (hi : ops[i]? = some oi) (hd : oi.dst = some d)
  (hs : Region.noSelect ops = true) (hf : Region.free md ops listed i = true) (hr : (Region.ready md ops listed).contains i = true)
  (hQ : ∀ c a w, Q (.panic c) (a.put (some d) v) w → Q (.panic c) a w) (hg : oi.guard = none) (hy : ∀ w, S w → (execOp a.eval oi).run P w = .ok (.value v) w) (hS : S w)
  (h : wpAnyH P md ops Q S fuel (listed.setIfInBounds i true) (a.put (some d) v) w) : wpAnyH P md ops Q S (fuel + 1) listed a w :=
 wpAnyH_take hi hs hf hr (hd ▸ hQ) (.inl ⟨by simp [Region.wanted, hg], hy⟩) hS (hd ▸ h)
theorem wpOz_run {i : Nat} {o : Oper} {K : Act → World → Prop} {a : Act} {w : World} (hi : ops[i]? = some o) (hg : o.guard = none) (h : Oper.wp P o a w K Q) : wpOp P ops Q i K a w := by
 unfold wpOp
 simp only [hi]
 rw [if_pos (by simp [Region.wanted, hg])]
 exact .inl h
theorem wpz_value {o : Oper} {K : Act → World → Prop} {a : Act} {w w' : World} {v : Value} {d : Nat} (hd : o.dst = some d) (h : (execOp a.eval o).run P w = .ok (.value v) w') (hK : K (a.put (some d) v) w') : Oper.wp P o a w K Q := by
 unfold Oper.wp
 rw [h]
 simp only [Oper.upon, hd]; exact hK
theorem wpz_append_rowX {w : World} {o : Oper} {a : Act} {K : Act → World → Prop} (s x : Operand) (t : TypeId) {d : Nat} (hd : o.dst = some d)
  (ho : o.op = .call { callee := .builtin .append, args := #[s, x], argTypes := #[t, t] })
  (base : Nat) (e : TypeId) (i : TypeInfo) (z : Value) (size bytes : Nat) (ht : P.underlying t = some (.slice e)) (hi : P.info? e = some i) (hz : i.zero = some z)
  (hsize : i.size = size) (hby : i.bytes = bytes) (hzs : z.cells.size = size) (hsz : 0 < size)
  (v : Value) (n : Nat) (xs : List Value) (hs : a.eval s = v) (hown : w.ownsRow base e size v n xs)
  (ao : Option Addr) (m c : Nat) (news : List Value) (hx : a.eval x = .slice ao m c) (hl : news.length = m * size) (hnews : ∀ ad, ao = some ad → ∀ j u, news[j]? = some u → w.cell? (ad.add j) = some u) (hnone : ao = none → m = 0 ∧ c = 0) (h1 : ∀ u ∈ news, u.oneCell' = true)
  (h63 : n + m ≤ maxLen) (hbytes : (n + m) * bytes ≤ 140737488355328) (hbase : base ≤ w.heap.size)
  (h : ∀ v' w', w'.ownsRow base e size v' (n + m) (xs ++ news) → w.grownBy w' v.ownBlock → (v'.ownBlock = v.ownBlock ∨ v'.ownBlock = some w.heap.size) → K (a.put (some d) v') w') :
  Oper.wp P o a w K Q := by
 cases ao with
 | none =>
  obtain ⟨rfl, rfl⟩ := hnone rfl
  have hr := run_append_owned_none (P := P) (w := w) base t o.type e i size ht hi v n xs hown
  obtain rfl : news = [] := by
   cases news with
   | nil => rfl
   | cons _ _ => simp at hl
  unfold Oper.wp execOp
  simp only [Oper.upon, ho, hd, resolve, invoke, builtin, Sem.run_bind, Sem.run_pure, Result.andThen_ok, List.map_toArray, List.map_cons, List.map_nil, hs, hx, hr]
  exact h v w (by rw [List.append_nil]; exact hown) ⟨rfl, rfl, rfl, Nat.le_refl _, fun _ _ _ => rfl⟩ (.inl rfl)
 | some ad =>
  obtain ⟨v', w', hr, h2, h3, _, h5⟩ := run_append_own_at (P := P) w base t o.type e i z size bytes ht hi hz hsize hby hzs hsz v n xs hown ad m c news hl (hnews ad rfl) h1 h63 hbytes hbase
  unfold Oper.wp execOp
  simp only [Oper.upon, ho, hd, resolve, invoke, builtin, Sem.run_bind, Sem.run_pure, Result.andThen_ok, List.map_toArray, List.map_cons, List.map_nil, hs, hx, hr]
  exact h v' w' h2 h3 h5
theorem wpz_enter {o : Oper} {K : Act → World → Prop} {a : Act} {w : World} {f : FuncId} {args : Array Value} {d : Nat} (hd : o.dst = some d) (h : (execOp a.eval o).run P w = .ok (.enter f args) w)
  (hC : Calls P f args w fun e w' => ∃ v, e = .returned v ∧ K (a.put (some d) v) w') : Oper.wp P o a w K Q := by
 unfold Oper.wp
 rw [h]
 simp only [Oper.upon]
 refine hC.mono ?_
 rintro e w' ⟨v, rfl, hK⟩
 rw [hd]; exact hK
theorem wp_world {c : Code} {a : Act} {w wo : World} {B : Nat} {R : Exit → Act → World → Prop} (hb : Below B wo w) (h : ∀ W, Below B wo W → c.wp P R a W) : c.wp P R a w := h w hb
end
structure InsS (w W : World) (v : Value) (n : Nat) (xs : List Value) (B : Nat) (key p : ByteArray) : Prop where
 below : Below w.heap.size w W
 row : W.ownsRow w.heap.size 41 2 v n xs
 blk : W.heap[B]? = some (.cells #[.string key, .string p] 41 (0, 0))
 ne : v.ownBlock ≠ some B
structure InsR (w W : World) (v : Value) (n : Nat) (xs : List Value) : Prop where
 below : Below w.heap.size w W
 row : W.ownsRow w.heap.size 41 2 v n xs
structure InsB (w W : World) (B : Nat) (key p : ByteArray) : Prop where
 below : Below w.heap.size w W
 blk : W.heap[B]? = some (.cells #[.string key, .string p] 41 (0, 0))
theorem InsR.lit {w W : World} (h : Below w.heap.size w W) : InsR w (W.alloc (.cells #[] 41)) (.slice (some ⟨W.heap.size, 0, none⟩) 0 0) 0 [] :=
 ⟨h.alloc h.size _, World.ownsRow_lit W #[] 0 h.size (by unfold maxLen; omega) rfl⟩
theorem InsB.lit {w W : World} {B : Nat} {key p : ByteArray} (h : InsB w W B key p) : InsS w (W.alloc (.cells #[] 41)) (.slice (some ⟨W.heap.size, 0, none⟩) 0 0) 0 [] B key p := by
 have hlt : B < W.heap.size := (Array.getElem?_eq_some_iff.1 h.blk).1
 refine ⟨(InsR.lit h.below).below, (InsR.lit h.below).row, (Below.heap_alloc _ _ _ hlt).trans h.blk, ?_⟩
 intro e
 have : W.heap.size = B := by simpa [Value.ownBlock] using e
 omega
theorem InsB.new {w W : World} (key p : ByteArray) (h : Below w.heap.size w W) : InsB w (W.alloc (.cells #[.string key, .string p] 41)) W.heap.size key p :=
 ⟨h.alloc h.size _, heap_alloc_new _ _⟩
theorem InsR.new {w W : World} {v : Value} {n : Nat} {xs : List Value} (key p : ByteArray) (h : InsR w W v n xs) : InsS w (W.alloc (.cells #[.string key, .string p] 41)) v n xs W.heap.size key p :=
 ⟨h.below.alloc h.below.size _, h.row.alloc _, heap_alloc_new _ _, fun e => by have := (h.row.lt _ e).2; omega⟩
theorem InsR.grown {w W W' : World} {v v' : Value} {n n' : Nat} {xs xs' : List Value} (h : InsR w W v n xs) (hr : W'.ownsRow w.heap.size 41 2 v' n' xs') (hg : W.grownBy W' v.ownBlock) : InsR w W' v' n' xs' :=
 ⟨h.below.grown hg h.below.size (fun b hb => (h.row.lt b hb).1), hr⟩
theorem InsS.row1 {w W : World} {v : Value} {n : Nat} {xs : List Value} {B : Nat} {key p : ByteArray} (h : InsS w W v n xs B key p) : InsR w W v n xs := ⟨h.below, h.row⟩
theorem InsS.grown {w W W' : World} {v v' : Value} {n n' : Nat} {xs xs' : List Value} {B : Nat} {key p : ByteArray} (h : InsS w W v n xs B key p) (hr : W'.ownsRow w.heap.size 41 2 v' n' xs') (hg : W.grownBy W' v.ownBlock) (ho : v'.ownBlock = v.ownBlock ∨ v'.ownBlock = some W.heap.size) : InsS w W' v' n' xs' B key p := by
 have hlt : B < W.heap.size := (Array.getElem?_eq_some_iff.1 h.blk).1
 refine ⟨(h.row1.grown hr hg).below, hr, (hg.block B hlt (Ne.symm h.ne)).trans h.blk, fun e => ?_⟩
 rcases ho with ho | ho
 ·exact h.ne (ho ▸ e)
 ·rw [ho] at e
  have : W.heap.size = B := by simpa using e
  omega
def posZ (k : List UInt8) : List MI → Nat
 | [] => 0
 | y :: r => if kZ y < k then posZ k r + 1 else 0
theorem posZ_le (k : List UInt8) : ∀ S : List MI, posZ k S ≤ S.length
 | [] => Nat.le_refl _
 | y :: r => by
  unfold posZ
  have := posZ_le k r
  split
  ·simp; exact this
  ·exact Nat.zero_le _
theorem posZ_lt {k : List UInt8} : ∀ {S : List MI} {j : Nat} {x : MI}, j < posZ k S → S[j]? = some x → kZ x < k
 | [], j, x, h, _ => absurd h (Nat.not_lt_zero _)
 | y :: r, j, x, h, hx => by
  unfold posZ at h
  by_cases hy : kZ y < k
  ·rw [if_pos hy] at h
   cases j with
   | zero => obtain rfl : y = x := by simpa using hx
             exact hy
   | succ j => exact posZ_lt (S := r) (j := j) (by omega) (by simpa using hx)
  ·rw [if_neg hy] at h; exact absurd h (Nat.not_lt_zero _)
theorem posZ_at {k : List UInt8} : ∀ {S : List MI} {x : MI}, S[posZ k S]? = some x → ¬ kZ x < k
 | [], x, h => by simp at h
 | y :: r, x, h => by
  unfold posZ at h
  by_cases hy : kZ y < k
  ·rw [if_pos hy] at h
   exact posZ_at (S := r) (by simpa using h)
  ·rw [if_neg hy] at h
   obtain rfl : y = x := by simpa using h
   exact hy
theorem set_new {k t : ByteArray} : ∀ {S : List MI}, (∀ x, S[posZ k.data.toList S]? = some x → kZ x ≠ k.data.toList) → setZ k t S = S.take (posZ k.data.toList S) ++ [(k, t)] ++ S.drop (posZ k.data.toList S)
 | [], _ => rfl
 | y :: r, h => by
  unfold posZ at h ⊢
  unfold setZ
  by_cases hy : kZ y < k.data.toList
  ·rw [if_pos hy] at h ⊢
   rw [if_neg (fun h2 => List.lt_irrefl _ (List.lt_trans hy h2)), if_neg (fun h2 => List.lt_irrefl _ (by rw [← h2] at hy; exact hy))]
   rw [set_new (S := r) (fun x hx => h x (by simpa using hx))]
   rfl
  ·rw [if_neg hy] at h ⊢
   have h1 : kZ y ≠ k.data.toList := h y rfl
   rw [if_pos ((List.le_iff_lt_or_eq.1 (List.not_lt.1 hy)).resolve_right (fun e => h1 e.symm))]
   rfl
theorem set_old {k t : ByteArray} : ∀ {S : List MI} {x : MI}, S[posZ k.data.toList S]? = some x → kZ x = k.data.toList → setZ k t S = S.set (posZ k.data.toList S) (k, t)
 | [], x, h, _ => by simp at h
 | y :: r, x, h, hx => by
  unfold posZ at h ⊢
  unfold setZ
  by_cases hy : kZ y < k.data.toList
  ·rw [if_pos hy] at h ⊢
   rw [if_neg (fun h2 => List.lt_irrefl _ (List.lt_trans hy h2)), if_neg (fun h2 => List.lt_irrefl _ (by rw [← h2] at hy; exact hy))]
   rw [set_old (S := r) (by simpa using h) hx]
   rfl
  ·rw [if_neg hy] at h ⊢
   obtain rfl : y = x := by simpa using h
   rw [if_neg (by rw [hx]; exact List.lt_irrefl _), if_pos hx.symm]
   rfl
theorem cellsZ_set : ∀ (S : List MI) (p : Nat) (x : MI) (t : ByteArray), S[p]? = some x → cellsZ (S.set p (x.1, t)) = (cellsZ S).set (p * 2 + 1) (.string t)
 | [], p, x, t, h => by simp at h
 | y :: r, 0, x, t, h => by
  obtain rfl : y = x := by simpa using h
  unfold cellsZ
  rw [List.set_cons_zero, List.flatMap_cons, List.flatMap_cons]; rfl
 | y :: r, p + 1, x, t, h => by
  have ih := cellsZ_set r p x t (by simpa using h)
  have e : ∀ l, cellsZ (y :: l) = [.string y.1, .string y.2] ++ cellsZ l := fun l => by unfold cellsZ; rw [List.flatMap_cons]
  rw [List.set_cons_succ, e, e, ih, Nat.succ_mul]
  rfl
theorem cellsZ_len : ∀ l : List MI, (cellsZ l).length = l.length * 2
 | [] => rfl
 | a :: l => by
  have e : cellsZ (a :: l) = [.string a.1, .string a.2] ++ cellsZ l := by unfold cellsZ; rw [List.flatMap_cons]
  rw [e, List.length_append, cellsZ_len l, List.length_cons]; simp; omega
theorem cellsZ_one : ∀ (l : List MI), ∀ u ∈ cellsZ l, u.oneCell' = true := fun l u hu => by
 unfold cellsZ at hu
 obtain ⟨x, _, hx⟩ := List.mem_flatMap.1 hu
 simp at hx
 rcases hx with rfl | rfl <;> rfl
theorem colS_new {L : List MI} {k : Nat} {S : List QI} {x : MI} (hx : L[k]? = some x) (hok : OKM L) (hp : ∀ y, (tZ S)[posZ (kZ x) (tZ S)]? = some y → kZ y ≠ kZ x) (hs : SrtQ S) :
  ∃ S', colS L k S = some S' ∧ tZ S' = (tZ S).take (posZ (kZ x) (tZ S)) ++ [x] ++ (tZ S).drop (posZ (kZ x) (tZ S)) := by
 obtain ⟨h1, h2⟩ := hok.at hx
 have h0 : lookQ (kZ x) S = 0 := by
  rcases lookQ_in (k := kZ x) (S := S) with h | ⟨y, hy, he, _⟩
  ·exact h
  ·exfalso
   obtain ⟨j, hj, rfl⟩ := List.mem_iff_getElem.1 hy
   have hjt : (tZ S)[j]? = some (S[j].1, qstr S[j].2) := by unfold tZ; rw [List.getElem?_map, List.getElem?_eq_getElem hj]; rfl
   rcases Nat.lt_trichotomy j (posZ (kZ x) (tZ S)) with h | h | h
   ·have := posZ_lt h hjt
    exact List.lt_irrefl _ (he ▸ this)
   ·exact hp (S[j].1, qstr S[j].2) (by rw [← h]; exact hjt) he
   ·have hpl : posZ (kZ x) (tZ S) < (tZ S).length := by unfold tZ at h ⊢; rw [List.length_map]; omega
    have hz : (tZ S)[posZ (kZ x) (tZ S)]? = some ((tZ S)[posZ (kZ x) (tZ S)]'hpl) := List.getElem?_eq_getElem hpl
    have h3 := posZ_at hz
    have h4 := List.pairwise_iff_getElem.1 (srt_t.2 hs) _ j hpl (by unfold tZ; rw [List.length_map]; exact hj) h
    have e5 : (tZ S)[j]'(by unfold tZ; rw [List.length_map]; exact hj) = (S[j].1, qstr S[j].2) := Option.some.inj ((List.getElem?_eq_getElem _).symm.trans hjt)
    have h5 : kZ ((tZ S)[posZ (kZ x) (tZ S)]'hpl) < kZ (S[j].1, qstr S[j].2) := by rw [← e5]; exact h4
    have e6 : kZ (S[j].1, qstr S[j].2) = kZ x := he
    generalize kZ (S[j].1, qstr S[j].2) = u at h5 e6
    subst e6
    exact h3 h5
 have hq : (0 : Rat) + qZ L k = qZ L k := Rat.zero_add _
 refine ⟨setQ x.1 (qZ L k) S, ?_, ?_⟩
 ·unfold colS
  rw [getZ_of hx, h0, hq, okQ_yes h2]; rfl
 ·rw [← set_t, ← h1]
  exact set_new (k := x.1) (t := x.2) hp
theorem colS_old {L : List MI} {k : Nat} {S : List QI} {x y : MI} (hx : L[k]? = some x) (hok : OKM L) (hy : (tZ S)[posZ (kZ x) (tZ S)]? = some y) (he : kZ y = kZ x) (hs : SrtQ S) :
  ∃ q, y.2 = qstr q ∧ q ∈ S.map (·.2) ∧ ((okQ (q + qZ L k) = none ∧ colS L k S = none) ∨ ∃ r S', okQ (q + qZ L k) = some r ∧ colS L k S = some S' ∧ tZ S' = (tZ S).set (posZ (kZ x) (tZ S)) (y.1, qstr r)) := by
 obtain ⟨h1, h2⟩ := hok.at hx
 have hyS : ∃ z, z ∈ S ∧ y = (z.1, qstr z.2) := by
  have := List.mem_of_getElem? hy
  unfold tZ at this
  obtain ⟨z, hz, rfl⟩ := List.mem_map.1 this
  exact ⟨z, hz, rfl⟩
 obtain ⟨z, hz, rfl⟩ := hyS
 have hl : lookQ (kZ x) S = z.2 := by
  have hz' : kQ z = kZ x := he
  clear hy he
  induction S with
  | nil => simp at hz
  | cons u S ih =>
   unfold lookQ
   rcases List.mem_cons.1 hz with rfl | hz
   ·rw [if_pos hz']
   ·have h3 := (List.pairwise_cons.1 hs).1 z hz
    rw [if_neg (fun e => List.lt_irrefl _ (by rw [e, ← hz'] at h3; exact h3))]
    exact ih (List.pairwise_cons.1 hs).2 hz
 refine ⟨z.2, rfl, List.mem_map_of_mem hz, ?_⟩
 cases ho : okQ (z.2 + qZ L k) with
 | none =>
  refine .inl ⟨rfl, ?_⟩
  unfold colS
  rw [getZ_of hx, hl, ho]; rfl
 | some r =>
  refine .inr ⟨r, setQ x.1 r S, rfl, ?_, ?_⟩
  ·unfold colS
   rw [getZ_of hx, hl, ho]; rfl
  ·rw [← set_t]
   have e1 : z.1 = x.1 := ba_extZ he
   show _ = (tZ S).set _ (z.1, qstr r)
   rw [e1]
   exact set_old (k := x.1) hy he
theorem outQ_take (S : List QI) (k : Nat) (x : QI) (hx : S[k]? = some x) : outQ (S.take (k + 1)) = outQ (S.take k) ++ (if x.2 = 0 then [] else [x]) := by
 rw [List.take_add_one, hx]
 unfold outQ
 rw [List.filter_append]
 congr 1
 by_cases h : x.2 = 0 <;> simp [h]
theorem isZeroZ (q : Rat) : ((qstr q).toList == ([48] : List UInt8)) = decide (q = 0) := by
 by_cases h : q = 0
 ·rw [h, q0Z, decide_eq_true rfl]; exact lit_eq _ _ rfl
 ·rw [decide_eq_false h]
  exact beq_false_of_ne fun he => h (qstr_inj (by rw [q0Z]; exact ba_extZ (by rw [← Lib.toList_data]; exact he)))
end

section
open Go.RowKit NV
open Go.Lib (decDigits)
set_option maxHeartbeats 12800000 in
set_option maxRecDepth 100000 in
theorem rcollect_any {L : List MI} {N cap : Nat} {ao : Option Addr} {w : World} (hr : MR w ao N L) (hN : N ≤ 1000) (hok : OKM L) :
  Calls Tryz.prog 46 #[.slice ao N cap] w fun e w' => (∀ S, colO L = some S → ∃ v, e = .returned (.tuple #[v, .int .i64 0]) ∧ w'.ownsRow w.heap.size 41 2 v (outQ S).length (cellsZ (tZ (outQ S)))) ∧ (colO L = none → e = .returned (.tuple #[.slice none 0 0, .int .i64 5])) ∧ Below w.heap.size w w' := by
 obtain ⟨i0, hi, hz0, hz1, hz2⟩ := info_parts infoZ
 obtain ⟨R, hR⟩ : ∃ R, R = colO L := ⟨_, rfl⟩
 rw [← hR]
 have HBAD := Lib.hid (show ∀ k S, k < N → runO (colS L) [] k = some S → colS L k S = none → R = none from fun k S hk h1 h2 => by rw [hR]; unfold colO; rw [hr.len]; exact runO_fail h1 h2 hk)
 have HEND := Lib.hid (show ∀ S, runO (colS L) [] N = some S → R = some S from fun S h => by rw [hR]; unfold colO; rw [hr.len]; exact h)
 have HI := Lib.hid (show ∀ k S, k ≤ N → runO (colS L) [] k = some S → ColI L k S from fun k S hk h => ColI.run (by rw [hr.len]; exact hk) h)
 have HMR := Lib.hid hr
 have HOK := Lib.hid hok
 clear hr hok hR
 go_enter Tryz.func46, Tryz.ntmps46
 go_wp2_with fail
 go_loopw [4, 5] (fun vv iv wr => ∃ (k : Nat) (S : List QI), k ≤ N ∧ iv = .int .i64 (k : Int) ∧ Hid (runO (colS L) [] k = some S) ∧ Hid (wr.ownsRow w.heap.size 41 2 vv S.length (cellsZ (tZ S))) ∧ Below w.heap.size w wr) (fun _ iv _ => N - (intOf iv).toNat)
 case atStart => exact ⟨0, [], Nat.zero_le _, rfl, Lib.hid rfl, Lib.hid (World.ownsRow_nil _ _ _ _), Below.refl _ _⟩
 case round =>
  obtain ⟨k, S, hk, rfl, HRUN, HROW, hb⟩ := hrel
  have HCI := Lib.hid (HI.out k S hk HRUN.out)
  obtain ⟨M, hM⟩ : ∃ M, S.length = M := ⟨_, rfl⟩
  have HM := Lib.hid (And.intro hM (show (tZ S).length = M by unfold tZ; rw [List.length_map, hM]))
  have hM1 : M ≤ k := by rw [← hM]; exact HCI.out.len
  rw [hM] at HROW
  by_cases hlt : k < N
  ·have HB := Lib.hid hb
   obtain ⟨a, x, rfl, hx, hal, _, _⟩ := (HMR.out.below hb).at hlt
   obtain ⟨key, p⟩ := x
   have HX := Lib.hid hx
   have HCL := Lib.hid (show ∀ W, Below w.heap.size w W → W.cell? (a.add (k * 2)) = some (.string key) ∧ W.cell? ⟨(a.add (k * 2)).block, (a.add (k * 2)).off + 1, none⟩ = some (.string p) from fun W hW => by
    obtain ⟨a', x', e1, e2, _, e3, e4⟩ := (HMR.out.below hW).at hlt
    obtain rfl := Option.some.inj e1
    rw [hx] at e2
    obtain rfl := Option.some.inj e2
    exact ⟨e3, e4⟩)
   have HNEW := Lib.hid (fun hp => colS_new HX.out HOK.out hp HCI.out.srt)
   have HOLD := Lib.hid (fun y hy he => colS_old (y := y) HX.out HOK.out hy he HCI.out.srt)
   have HQOK := Lib.hid (HCI.out.ok)
   have HQK := Lib.hid ((HOK.out.at hx).2)
   have HQP := Lib.hid ((HOK.out.at hx).1)
   have HBADK := Lib.hid (HBAD.out k S hlt HRUN.out)
   have HSTEP := Lib.hid (runO_step HRUN.out)
   clear hb hx hal HBAD HEND HI HRUN HMR HCI HOK
   obtain ⟨LT, hLT⟩ : ∃ LT, tZ S = LT := ⟨_, rfl⟩
   have HLT := Lib.hid hLT
   rw [hLT] at HROW HM HNEW HOLD
   clear hM hLT
   obtain ⟨Pk, hPk⟩ : ∃ Pk, posZ key.data.toList LT = Pk := ⟨_, rfl⟩
   have hPM : Pk ≤ M := by rw [← hPk, ← HM.out.2]; exact posZ_le _ _
   have HPL := Lib.hid (show ∀ j x, j < Pk → LT[j]? = some x → kZ x < key.data.toList from fun j x hj hx => posZ_lt (by rw [hPk]; exact hj) hx)
   have HPA := Lib.hid (show ∀ x, LT[Pk]? = some x → ¬ kZ x < key.data.toList from fun x hx => posZ_at (by rw [hPk]; exact hx))
   rw [show kZ (key, p) = key.data.toList from rfl, hPk] at HNEW HOLD
   clear hPk
   have hform : (M = 0 ∧ u4 = .slice none 0 0) ∨ ∃ g cp, u4 = .slice (some ⟨g, 0, none⟩) M cp ∧ g < wr.heap.size ∧ w.heap.size ≤ g ∧ M ≤ cp ∧ cp ≤ maxLen := by
    rcases HROW.out.2 with ⟨hv, h0⟩ | ⟨g, cp, cur, hv, hb, hg, h4, h5, _⟩
    ·exact .inl ⟨h0, hv⟩
    ·exact .inr ⟨g, cp, hv, (Array.getElem?_eq_some_iff.1 hg).1, hb, h4, h5⟩
   obtain ⟨wo, hwo⟩ : ∃ wo, wo = wr := ⟨_, rfl⟩
   rw [← hwo] at HB HROW hform ⊢
   clear hwo
   replace HCL := Lib.hid (fun W (hW : Below wo.heap.size wo W) => HCL.out W (HB.out.trans (hW.mono HB.out.size)))
   rcases hform with ⟨rfl, rfl⟩ | ⟨g, cp, rfl, hg, hgb, hcap, hcm⟩
   ·obtain rfl : Pk = 0 := by omega
    obtain ⟨S', hS1, hS2⟩ := HNEW.out (fun y hy => by rw [List.length_eq_zero_iff.1 HM.out.2] at hy; simp at hy)
    have HNXT := Lib.hid (show runO (colS L) [] (k + 1) = some S' by rw [HSTEP.out, hS1])
    have HLEN := Lib.hid (show S'.length = 0 + 1 by
     have := congrArg List.length hS2
     unfold tZ at this
     rw [List.length_map] at this
     have h2 := HM.out.2
     rw [this, List.length_append, List.length_append, List.length_take, List.length_drop, h2]
     show min _ _ + 1 + _ = _
     omega)
    have HFIN := Lib.hid (show cellsZ (tZ S') = cellsZ (LT.take 0) ++ [.string key, .string p] ++ cellsZ (LT.drop 0) by rw [hS2, cellsZ_app, cellsZ_app]; rfl)
    have HNL := Lib.hid (show (cellsZ (LT.take 0)).length = 0 * 2 ∧ (∀ u ∈ cellsZ (LT.take 0), u.oneCell' = true) ∧ (cellsZ (LT.drop 0)).length = 0 * 2 ∧ (∀ u ∈ cellsZ (LT.drop 0), u.oneCell' = true) from
     ⟨by rw [cellsZ_len, List.length_take, HM.out.2]; omega, cellsZ_one _, by rw [cellsZ_len, List.length_drop, HM.out.2], cellsZ_one _⟩)
    clear hS1 hS2 HNEW HOLD HSTEP
    have HNB := Lib.hid (show ∀ W, Below wo.heap.size wo W → ∀ ad : Addr, none = some ad → ∀ j u, (cellsZ (LT.take 0))[j]? = some u → W.cell? (ad.add j) = some u from fun W _ ad h => by cases h)
    have HNF := Lib.hid (show ∀ W, Below wo.heap.size wo W → ∀ ad : Addr, none = some ad → ∀ j u, (cellsZ (LT.drop 0))[j]? = some u → W.cell? (ad.add j) = some u from fun W _ ad h => by cases h)
    have hk0 : decide ((0 : Int) < 0) = false := by decide
    have hk1 : ((0 : Int) == 0) = true := by decide
    clear HROW HPL HPA HBADK HQOK HQK HQP
    go_wp2_with fail
    go_loopw [6] (fun jv wq => jv = .int .i64 0 ∧ Below wo.heap.size wo wq) (fun _ _ => 0)
    case atStart => exact ⟨rfl, Below.refl _ _⟩
    case round =>
     obtain ⟨rfl, hbq⟩ := hrel
     have HBQ0 := Lib.hid hbq
     clear hbq
     go_wp2_with fail
     go_quiet (fail)
     go_wp2_with fail
     go_quiet (fail)
     go_wp2_with fail
     refine wp_world (below_drewZ (below_drewZ HBQ0.out _) _) (fun wx hbx => ?_)
     refine wp_region_held (S := fun W => Below wo.heap.size wo W) (by kernel_rfl) ?_
     have HD : Below wo.heap.size wo wx.drew := hbx.drew
     change wpAnyH _ _ _ _ _ 16 _ _ wx.drew
     clear hbx
     generalize wx.drew = W at *
     refine wpHz_take (i := 1) (d := 54) (v := .slice none 0 0) rfl rfl (by kernel_rfl) (by kernel_rfl) (by kernel_rfl) (fun _ _ _ h => h) rfl (fun W _ => by go_simp) HD ?_
     simp only [Act.put, sA, sB, sC]
     refine wpHz_take (i := 2) (d := 55) (v := .int .i64 0) rfl rfl (by kernel_rfl) (by kernel_rfl) (by kernel_rfl) (fun _ _ _ h => h) rfl (fun W _ => by go_simp) HD ?_
     simp only [Act.put, sA, sB, sC]
     refine wpHz_take (i := 3) (d := 56) (v := .slice none 0 0) rfl rfl (by kernel_rfl) (by kernel_rfl) (by kernel_rfl) (fun _ _ _ h => h) rfl (fun W _ => by go_simp) HD ?_
     simp only [Act.put, sA, sB, sC]
     refine wpHz_take (i := 5) (d := 58) (v := .slice (some a) N cap) rfl rfl (by kernel_rfl) (by kernel_rfl) (by kernel_rfl) (fun _ _ _ h => h) rfl (fun W _ => by go_simp) HD ?_
     simp only [Act.put, sA, sB, sC]
     refine wpHz_take (i := 6) (d := 59) (v := .int .i64 (k : Int)) rfl rfl (by kernel_rfl) (by kernel_rfl) (by kernel_rfl) (fun _ _ _ h => h) rfl (fun W _ => by go_simp) HD ?_
     simp only [Act.put, sA, sB, sC]
     refine wpHz_take (i := 7) (d := 60) (v := .pointer (some (a.add (k * 2)))) rfl rfl (by kernel_rfl) (by kernel_rfl) (by kernel_rfl) (fun _ _ _ h => h) rfl (fun W _ => by go_simp) HD ?_
     simp only [Act.put, sA, sB, sC]
     refine wpHz_take (i := 8) (d := 61) (v := .agg #[.string key, .string p]) rfl rfl (by kernel_rfl) (by kernel_rfl) (by kernel_rfl) (fun _ _ _ h => h) rfl (fun W hW => by have e0 := (HCL.out W hW).1; have e1 := (HCL.out W hW).2; go_simp) HD ?_
     simp only [Act.put, sA, sB, sC]
     refine wpHz_take (i := 11) (d := 64) (v := .slice none 0 0) rfl rfl (by kernel_rfl) (by kernel_rfl) (by kernel_rfl) (fun _ _ _ h => h) rfl (fun W _ => by go_simp) HD ?_
     simp only [Act.put, sA, sB, sC]
     refine wpHz_take (i := 12) (d := 65) (v := .int .i64 0) rfl rfl (by kernel_rfl) (by kernel_rfl) (by kernel_rfl) (fun _ _ _ h => h) rfl (fun W _ => by go_simp) HD ?_
     simp only [Act.put, sA, sB, sC]
     refine wpHz_take (i := 13) (d := 66) (v := .slice none (0) (0)) rfl rfl (by kernel_rfl) (by kernel_rfl) (by kernel_rfl) (fun _ _ _ h => h) rfl (fun W _ => by go_simp) HD ?_
     simp only [Act.put, sA, sB, sC]
     refine wpHz_two (i := 0) (j := 9) (by kernel_rfl) ?_ ?_
     ·refine wpOz_run rfl rfl (wpz_value (d := 53) (v := .slice (some ⟨W.heap.size, 0, none⟩) 0 0) (w' := W.alloc (.cells #[] 41)) rfl (by go_simp) ?_)
      simp only [Act.put, sA, sB, sC]
      have HA := InsR.lit HD
      refine ⟨HA.below, ?_⟩
      refine wpHz_two (i := 4) (j := 9) (by kernel_rfl) ?_ ?_
      ·refine wpOz_run rfl rfl (wpz_append_rowX (.tmp 53) (.tmp 56) 22 (d := 57) rfl rfl wo.heap.size 41 i0 (.agg #[.string ⟨#[]⟩, .string ⟨#[]⟩]) 2 32 Tryz.underlying22 hi hz0 hz1 hz2 rfl (by decide) _ 0 [] rfl HA.row none 0 0 (cellsZ (LT.take 0)) rfl HNL.out.1 (HNB.out _ HA.below) (fun _ => ⟨rfl, rfl⟩) HNL.out.2.1 (by unfold maxLen; omega) (by omega) HA.below.size ?_)
       intro v1 W1 hown1 hgr1 ho1
       simp only [Act.put, sA, sB, sC]
       rw [Nat.zero_add, List.nil_append] at hown1
       have HC := HA.grown hown1 hgr1
       clear hown1 hgr1 ho1
       refine ⟨HC.below, ?_⟩
       refine wpHz_one (i := 9) (by kernel_rfl) ?_
       refine wpOz_run rfl rfl (wpz_value (d := 62) (v := .slice (some ⟨W1.heap.size, 0, none⟩) 1 1) (w' := W1.alloc (.cells #[.string key, .string p] 41)) rfl (by go_simp) ?_)
       simp only [Act.put, sA, sB, sC]
       have HS := HC.new key p
       refine ⟨HS.below, ?_⟩
       generalize W1.heap.size = B at *
       generalize World.alloc W1 _ = W9 at *
       clear HC
       refine wpHz_one (i := 10) (by kernel_rfl) ?_
       refine wpOz_run rfl rfl (wpz_append_rowX (.tmp 57) (.tmp 62) 22 (d := 63) rfl rfl wo.heap.size 41 i0 (.agg #[.string ⟨#[]⟩, .string ⟨#[]⟩]) 2 32 Tryz.underlying22 hi hz0 hz1 hz2 rfl (by decide) _ 0 (cellsZ (LT.take 0)) rfl HS.row (some ⟨B, 0, none⟩) 1 1 [Value.string key, Value.string p] rfl rfl (fun ad had => by cases had; exact World.news_of_block HS.blk) (fun h => by cases h) (by intro u hu; simp at hu; rcases hu with rfl | rfl <;> rfl) (by unfold maxLen; omega) (by omega) HS.below.size ?_)
       intro v2 W2 hown2 hgr2 _
       simp only [Act.put, sA, sB, sC]
       have HR2 := HS.row1.grown hown2 hgr2
       clear hown2 hgr2 HS
       refine ⟨HR2.below, ?_⟩
       refine wpHz_one (i := 14) (by kernel_rfl) ?_
       refine wpOz_run rfl rfl (wpz_append_rowX (.tmp 63) (.tmp 66) 22 (d := 67) rfl rfl wo.heap.size 41 i0 (.agg #[.string ⟨#[]⟩, .string ⟨#[]⟩]) 2 32 Tryz.underlying22 hi hz0 hz1 hz2 rfl (by decide) _ (0 + 1) (cellsZ (LT.take 0) ++ [Value.string key, Value.string p]) rfl HR2.row none (0) (0) (cellsZ (LT.drop 0)) rfl HNL.out.2.2.1 (HNF.out _ HR2.below) (fun _ => ⟨rfl, rfl⟩) HNL.out.2.2.2 (by unfold maxLen; omega) (by omega) HR2.below.size ?_)
       intro v3 W3 hown3 hgr3 _
       simp only [Act.put, sA, sB, sC]
       have HR3 := HR2.grown hown3 hgr3
       clear hown3 hgr3 HR2
       refine ⟨HR3.below, ?_⟩
       refine wpHz_take (i := 15) (d := 4) (v := v3) rfl rfl (by kernel_rfl) (by kernel_rfl) (by kernel_rfl) (fun _ _ _ h => h) rfl (fun W _ => by go_simp) HR3.below ?_
       simp only [Act.put, sA, sB, sC]
       refine wpAnyH_done (by kernel_rfl) ?_ _
       have HF := Lib.hid (And.intro HR3.row HR3.below)
       clear HR3
       go_wp2_with fail
       go_roundw
       case rel => exact ⟨k + 1, S', by omega, by go_num, HNXT, Lib.hid (by
        have h := HF.out.1
        rw [← HFIN.out] at h
        rw [HLEN.out]
        exact rowM_base h HB.out.size), HB.out.trans (HF.out.2.mono HB.out.size)⟩
       case measure => simp [intOf]; omega
      ·refine wpOz_run rfl rfl (wpz_value (d := 62) (v := .slice (some ⟨(W.alloc (.cells #[] 41)).heap.size, 0, none⟩) 1 1) (w' := (W.alloc (.cells #[] 41)).alloc (.cells #[.string key, .string p] 41)) rfl (by go_simp) ?_)
       simp only [Act.put, sA, sB, sC]
       have HS0 := HA.new key p
       refine ⟨HS0.below, ?_⟩
       clear HA
       generalize (W.alloc (.cells #[] 41)).heap.size = B at *
       refine wpHz_one (i := 4) (by kernel_rfl) ?_
       refine wpOz_run rfl rfl (wpz_append_rowX (.tmp 53) (.tmp 56) 22 (d := 57) rfl rfl wo.heap.size 41 i0 (.agg #[.string ⟨#[]⟩, .string ⟨#[]⟩]) 2 32 Tryz.underlying22 hi hz0 hz1 hz2 rfl (by decide) _ 0 [] rfl HS0.row none 0 0 (cellsZ (LT.take 0)) rfl HNL.out.1 (HNB.out _ HS0.below) (fun _ => ⟨rfl, rfl⟩) HNL.out.2.1 (by unfold maxLen; omega) (by omega) HS0.below.size ?_)
       intro v1 W1 hown1 hgr1 ho1
       simp only [Act.put, sA, sB, sC]
       rw [Nat.zero_add, List.nil_append] at hown1
       have HS := HS0.grown hown1 hgr1 ho1
       clear hown1 hgr1 ho1
       refine ⟨HS.below, ?_⟩
       clear HS0
       refine wpHz_one (i := 10) (by kernel_rfl) ?_
       refine wpOz_run rfl rfl (wpz_append_rowX (.tmp 57) (.tmp 62) 22 (d := 63) rfl rfl wo.heap.size 41 i0 (.agg #[.string ⟨#[]⟩, .string ⟨#[]⟩]) 2 32 Tryz.underlying22 hi hz0 hz1 hz2 rfl (by decide) _ 0 (cellsZ (LT.take 0)) rfl HS.row (some ⟨B, 0, none⟩) 1 1 [Value.string key, Value.string p] rfl rfl (fun ad had => by cases had; exact World.news_of_block HS.blk) (fun h => by cases h) (by intro u hu; simp at hu; rcases hu with rfl | rfl <;> rfl) (by unfold maxLen; omega) (by omega) HS.below.size ?_)
       intro v2 W2 hown2 hgr2 _
       simp only [Act.put, sA, sB, sC]
       have HR2 := HS.row1.grown hown2 hgr2
       clear hown2 hgr2 HS
       refine ⟨HR2.below, ?_⟩
       refine wpHz_one (i := 14) (by kernel_rfl) ?_
       refine wpOz_run rfl rfl (wpz_append_rowX (.tmp 63) (.tmp 66) 22 (d := 67) rfl rfl wo.heap.size 41 i0 (.agg #[.string ⟨#[]⟩, .string ⟨#[]⟩]) 2 32 Tryz.underlying22 hi hz0 hz1 hz2 rfl (by decide) _ (0 + 1) (cellsZ (LT.take 0) ++ [Value.string key, Value.string p]) rfl HR2.row none (0) (0) (cellsZ (LT.drop 0)) rfl HNL.out.2.2.1 (HNF.out _ HR2.below) (fun _ => ⟨rfl, rfl⟩) HNL.out.2.2.2 (by unfold maxLen; omega) (by omega) HR2.below.size ?_)
       intro v3 W3 hown3 hgr3 _
       simp only [Act.put, sA, sB, sC]
       have HR3 := HR2.grown hown3 hgr3
       clear hown3 hgr3 HR2
       refine ⟨HR3.below, ?_⟩
       refine wpHz_take (i := 15) (d := 4) (v := v3) rfl rfl (by kernel_rfl) (by kernel_rfl) (by kernel_rfl) (fun _ _ _ h => h) rfl (fun W _ => by go_simp) HR3.below ?_
       simp only [Act.put, sA, sB, sC]
       refine wpAnyH_done (by kernel_rfl) ?_ _
       have HF := Lib.hid (And.intro HR3.row HR3.below)
       clear HR3
       go_wp2_with fail
       go_roundw
       case rel => exact ⟨k + 1, S', by omega, by go_num, HNXT, Lib.hid (by
        have h := HF.out.1
        rw [← HFIN.out] at h
        rw [HLEN.out]
        exact rowM_base h HB.out.size), HB.out.trans (HF.out.2.mono HB.out.size)⟩
       case measure => simp [intOf]; omega
     ·refine wpOz_run rfl rfl (wpz_value (d := 62) (v := .slice (some ⟨W.heap.size, 0, none⟩) 1 1) (w' := W.alloc (.cells #[.string key, .string p] 41)) rfl (by go_simp) ?_)
      simp only [Act.put, sA, sB, sC]
      have HB := InsB.new key p HD
      refine ⟨HB.below, ?_⟩
      refine wpHz_one (i := 0) (by kernel_rfl) ?_
      refine wpOz_run rfl rfl (wpz_value (d := 53) (v := .slice (some ⟨(W.alloc (.cells #[.string key, .string p] 41)).heap.size, 0, none⟩) 0 0) (w' := (W.alloc (.cells #[.string key, .string p] 41)).alloc (.cells #[] 41)) rfl (by go_simp) ?_)
      simp only [Act.put, sA, sB, sC]
      have HS0 := HB.lit
      refine ⟨HS0.below, ?_⟩
      clear HB
      refine wpHz_one (i := 4) (by kernel_rfl) ?_
      refine wpOz_run rfl rfl (wpz_append_rowX (.tmp 53) (.tmp 56) 22 (d := 57) rfl rfl wo.heap.size 41 i0 (.agg #[.string ⟨#[]⟩, .string ⟨#[]⟩]) 2 32 Tryz.underlying22 hi hz0 hz1 hz2 rfl (by decide) _ 0 [] rfl HS0.row none 0 0 (cellsZ (LT.take 0)) rfl HNL.out.1 (HNB.out _ HS0.below) (fun _ => ⟨rfl, rfl⟩) HNL.out.2.1 (by unfold maxLen; omega) (by omega) HS0.below.size ?_)
      intro v1 W1 hown1 hgr1 ho1
      simp only [Act.put, sA, sB, sC]
      rw [Nat.zero_add, List.nil_append] at hown1
      have HS := HS0.grown hown1 hgr1 ho1
      clear hown1 hgr1 ho1
      refine ⟨HS.below, ?_⟩
      clear HS0
      generalize W.heap.size = B at *
      refine wpHz_one (i := 10) (by kernel_rfl) ?_
      refine wpOz_run rfl rfl (wpz_append_rowX (.tmp 57) (.tmp 62) 22 (d := 63) rfl rfl wo.heap.size 41 i0 (.agg #[.string ⟨#[]⟩, .string ⟨#[]⟩]) 2 32 Tryz.underlying22 hi hz0 hz1 hz2 rfl (by decide) _ 0 (cellsZ (LT.take 0)) rfl HS.row (some ⟨B, 0, none⟩) 1 1 [Value.string key, Value.string p] rfl rfl (fun ad had => by cases had; exact World.news_of_block HS.blk) (fun h => by cases h) (by intro u hu; simp at hu; rcases hu with rfl | rfl <;> rfl) (by unfold maxLen; omega) (by omega) HS.below.size ?_)
      intro v2 W2 hown2 hgr2 _
      simp only [Act.put, sA, sB, sC]
      have HR2 := HS.row1.grown hown2 hgr2
      clear hown2 hgr2 HS
      refine ⟨HR2.below, ?_⟩
      refine wpHz_one (i := 14) (by kernel_rfl) ?_
      refine wpOz_run rfl rfl (wpz_append_rowX (.tmp 63) (.tmp 66) 22 (d := 67) rfl rfl wo.heap.size 41 i0 (.agg #[.string ⟨#[]⟩, .string ⟨#[]⟩]) 2 32 Tryz.underlying22 hi hz0 hz1 hz2 rfl (by decide) _ (0 + 1) (cellsZ (LT.take 0) ++ [Value.string key, Value.string p]) rfl HR2.row none (0) (0) (cellsZ (LT.drop 0)) rfl HNL.out.2.2.1 (HNF.out _ HR2.below) (fun _ => ⟨rfl, rfl⟩) HNL.out.2.2.2 (by unfold maxLen; omega) (by omega) HR2.below.size ?_)
      intro v3 W3 hown3 hgr3 _
      simp only [Act.put, sA, sB, sC]
      have HR3 := HR2.grown hown3 hgr3
      clear hown3 hgr3 HR2
      refine ⟨HR3.below, ?_⟩
      refine wpHz_take (i := 15) (d := 4) (v := v3) rfl rfl (by kernel_rfl) (by kernel_rfl) (by kernel_rfl) (fun _ _ _ h => h) rfl (fun W _ => by go_simp) HR3.below ?_
      simp only [Act.put, sA, sB, sC]
      refine wpAnyH_done (by kernel_rfl) ?_ _
      have HF := Lib.hid (And.intro HR3.row HR3.below)
      clear HR3
      go_wp2_with fail
      go_roundw
      case rel => exact ⟨k + 1, S', by omega, by go_num, HNXT, Lib.hid (by
       have h := HF.out.1
       rw [← HFIN.out] at h
       rw [HLEN.out]
       exact rowM_base h HB.out.size), HB.out.trans (HF.out.2.mono HB.out.size)⟩
      case measure => simp [intOf]; omega
   ·have HNBT := Lib.hid (show ∀ W, Below wo.heap.size wo W → ∀ j u, (cellsZ LT)[j]? = some u → W.cell? ⟨g, j, none⟩ = some u from fun W hW j u hu => by
     have h1 := HROW.out.cells (g := g) rfl j u hu
     rw [Addr.add_lit, Nat.zero_add] at h1
     exact (hW.cell (p := ⟨g, j, none⟩) hg).trans h1)
    have HCG := Lib.hid (show ∀ j x, LT[j]? = some x → ∀ W, Below wo.heap.size wo W → W.cell? ⟨g, j * 2, none⟩ = some (.string x.1) ∧ W.cell? ⟨g, j * 2 + 1, none⟩ = some (.string x.2) from fun j x hx W hW => ⟨HNBT.out W hW _ _ (cellsZ_get LT j x hx).1, HNBT.out W hW _ _ (cellsZ_get LT j x hx).2⟩)
    have HCK := Lib.hid (show ∀ W, Below wo.heap.size wo W → W.cell? (a.add (k * 2)) = some (.string key) from fun W hW => (HCL.out W hW).1)
    go_wp2_with fail
    go_loopw [6] (fun jv wq => ∃ j : Nat, j ≤ Pk ∧ jv = .int .i64 (j : Int) ∧ Below wo.heap.size wo wq) (fun jv _ => M - (intOf jv).toNat)
    case atStart => exact ⟨0, Nat.zero_le _, rfl, Below.refl _ _⟩
    case round =>
     obtain ⟨j, hj, rfl, hbq⟩ := hrel
     by_cases hjP : j < Pk
     ·obtain ⟨y, hy⟩ : ∃ y, LT[j]? = some y := ⟨LT[j]'(by rw [HM.out.2]; omega), List.getElem?_eq_getElem _⟩
      have d0 := (HCG.out j y hy wr hbq).1
      have d1 := HCK.out wr hbq
      obtain ⟨y1, y2⟩ := y
      have hl1 : Op.bytesLess y1.toList key.toList = true := (lt_b y1 key).trans (decide_eq_true (HPL.out j _ hjP hy))
      have hjM : decide ((j : Int) < (M : Int)) = true := decide_eq_true (by omega)
      have hjM2 : j < M := by omega
      have HBQ0 := Lib.hid hbq
      clear hbq hy
      go_wp2_with fail
      go_quiet (fail)
      go_wp2_with fail
      go_roundw
      case rel => exact ⟨j + 1, by omega, by go_num, below_drewZ HBQ0.out _⟩
      case measure => simp [intOf]; omega
     ·obtain rfl : j = Pk := by omega
      have HBQ0 := Lib.hid hbq
      clear hbq
      by_cases hPM2 : j < M
      ·obtain ⟨y, hy⟩ : ∃ y, LT[j]? = some y := ⟨LT[j]'(by rw [HM.out.2]; omega), List.getElem?_eq_getElem _⟩
       have d0 := (HCG.out j y hy wr HBQ0.out).1
       have d1 := HCK.out wr HBQ0.out
       have HY := Lib.hid hy
       have HCY := Lib.hid (HCG.out j y hy)
       obtain ⟨y1, y2⟩ := y
       have hl1 : Op.bytesLess y1.toList key.toList = false := (lt_b y1 key).trans (decide_eq_false (HPA.out _ hy))
       have hjM : decide ((j : Int) < (M : Int)) = true := decide_eq_true (by omega)
       have hjE : ((j : Int) == (M : Int)) = false := by rw [beq_eq_false_iff_ne]; omega
       have hjE2 : (j == M) = false := by rw [beq_eq_false_iff_ne]; omega
       by_cases hq : y1.data.toList = key.data.toList
       ·have hl2 : (y1.toList == key.toList) = true := (eq_b y1 key).trans (decide_eq_true hq)
        obtain ⟨q, hq1, hq2, hq3⟩ := HOLD.out _ HY.out hq
        have hq1 : y2 = qstr q := hq1
        have hqo : QOk q := by
         obtain ⟨z, hz, rfl⟩ := List.mem_map.1 hq2
         exact HQOK.out z hz
        have HADD := Lib.hid (fun W => rAdd_oQ q (qZ L k) hqo HQK.out W)
        rw [← hq1, ← (show p = qstr (qZ L k) from HQP.out)] at HADD
        have HQ3 := Lib.hid hq3
        have HBQ1 := Lib.hid (HB.out.trans (HBQ0.out.mono HB.out.size))
        have HCP := Lib.hid (show ∀ W, Below wo.heap.size wo W → W.cell? ⟨(a.add (k * 2)).block, (a.add (k * 2)).off + 1, none⟩ = some (.string p) from fun W hW => (HCL.out W hW).2)
        clear hy hq1 hq2 hq3 hqo HNEW HOLD HPL HPA HQOK HQK HQP HNBT HCG HX hq
        go_wp2_with fail
        go_quiet (fail)
        go_wp2_with fail
        go_quiet (fail)
        go_wp2_with fail
        refine wp_world (below_drewZ (below_drewZ HBQ0.out _) _) (fun wx hbx => ?_)
        have HBX := Lib.hid hbx
        have HLD := Lib.hid (show ∀ W, Below wx.heap.size wx W → W.cell? ⟨g, j * 2 + 1, none⟩ = some (.string y2) ∧ W.cell? ⟨(a.add (k * 2)).block, (a.add (k * 2)).off + 1, none⟩ = some (.string p) from fun W hW => ⟨(HCY.out W (hbx.trans (hW.mono hbx.size))).2, HCP.out W (hbx.trans (hW.mono hbx.size))⟩)
        have hD0 := (Below.refl wx.heap.size wx).drew
        have HRX := Lib.hid (rowM_below HROW.out hbx)
        have HAX := Lib.hid (fun W (h : Below wx.heap.size wx W) => HADD.out W)
        clear hbx HCY HCP HROW HADD d0 d1
        rcases HQ3.out with ⟨ho, hc⟩ | ⟨r, S', ho, hc, hcl⟩
        ·have HR0 := Lib.hid (HBADK.out hc)
         rw [ho] at HAX
         replace HAX := Lib.hid (show ∀ W, Below wx.heap.size wx W → Calls Tryz.prog 7 #[.string y2, .string p] W fun e w' => e = .returned (.tuple #[.string ⟨#[]⟩, .int .i64 5]) ∧ Below W.heap.size W w' from HAX.out)
         clear HQ3 ho hc HBADK HSTEP
         refine wp_region_held (S := fun W => Below wx.heap.size wx W) (by kernel_rfl) ?_
         change wpAnyH _ _ _ _ _ 16 _ _ wx.drew
         generalize wx.drew = W at *
         refine wpHz_take (i := 0) (d := 69) (v := .slice (some ⟨g, 0, none⟩) M cp) rfl rfl (by kernel_rfl) (by kernel_rfl) (by kernel_rfl) (fun _ _ _ h => h) rfl (fun W _ => by go_simp) hD0 ?_
         simp only [Act.put, sA, sB, sC]
         refine wpHz_take (i := 1) (d := 70) (v := .int .i64 (j : Int)) rfl rfl (by kernel_rfl) (by kernel_rfl) (by kernel_rfl) (fun _ _ _ h => h) rfl (fun W _ => by go_simp) hD0 ?_
         simp only [Act.put, sA, sB, sC]
         refine wpHz_take (i := 2) (d := 71) (v := .pointer (some ⟨g, j * 2, none⟩)) rfl rfl (by kernel_rfl) (by kernel_rfl) (by kernel_rfl) (fun _ _ _ h => h) rfl (fun W _ => by go_simp) hD0 ?_
         simp only [Act.put, sA, sB, sC]
         refine wpHz_take (i := 3) (d := 72) (v := .pointer (some ⟨g, j * 2 + 1, none⟩)) rfl rfl (by kernel_rfl) (by kernel_rfl) (by kernel_rfl) (fun _ _ _ h => h) rfl (fun W _ => by go_simp) hD0 ?_
         simp only [Act.put, sA, sB, sC]
         refine wpHz_take (i := 4) (d := 73) (v := .string y2) rfl rfl (by kernel_rfl) (by kernel_rfl) (by kernel_rfl) (fun _ _ _ h => h) rfl (fun W hW => by have e1 := (HLD.out W hW).1; go_simp) hD0 ?_
         simp only [Act.put, sA, sB, sC]
         refine wpHz_take (i := 5) (d := 74) (v := .slice (some a) N cap) rfl rfl (by kernel_rfl) (by kernel_rfl) (by kernel_rfl) (fun _ _ _ h => h) rfl (fun W _ => by go_simp) hD0 ?_
         simp only [Act.put, sA, sB, sC]
         refine wpHz_take (i := 6) (d := 75) (v := .int .i64 (k : Int)) rfl rfl (by kernel_rfl) (by kernel_rfl) (by kernel_rfl) (fun _ _ _ h => h) rfl (fun W _ => by go_simp) hD0 ?_
         simp only [Act.put, sA, sB, sC]
         refine wpHz_take (i := 7) (d := 76) (v := .pointer (some (a.add (k * 2)))) rfl rfl (by kernel_rfl) (by kernel_rfl) (by kernel_rfl) (fun _ _ _ h => h) rfl (fun W _ => by go_simp) hD0 ?_
         simp only [Act.put, sA, sB, sC]
         refine wpHz_take (i := 8) (d := 77) (v := .pointer (some ⟨(a.add (k * 2)).block, (a.add (k * 2)).off + 1, none⟩)) rfl rfl (by kernel_rfl) (by kernel_rfl) (by kernel_rfl) (fun _ _ _ h => h) rfl (fun W _ => by go_simp) hD0 ?_
         simp only [Act.put, sA, sB, sC]
         refine wpHz_take (i := 9) (d := 78) (v := .string p) rfl rfl (by kernel_rfl) (by kernel_rfl) (by kernel_rfl) (fun _ _ _ h => h) rfl (fun W hW => by have e2 := (HLD.out W hW).2; go_simp) hD0 ?_
         simp only [Act.put, sA, sB, sC]
         refine wpHz_one (i := 10) (by kernel_rfl) ?_
         refine wpOz_run rfl rfl (wpz_enter (d := 79) rfl (by go_simp) ((HAX.out _ hD0).mono ?_))
         rintro e u2 ⟨rfl, hb2⟩
         have hB2 : Below wx.heap.size wx u2 := hD0.trans (hb2.mono hD0.size)
         refine ⟨_, rfl, hB2, ?_⟩
         simp only [Act.put, sA, sB, sC]
         refine wpHz_take (i := 11) (d := 68) (v := .tuple #[.string ⟨#[]⟩, .int .i64 5]) rfl rfl (by kernel_rfl) (by kernel_rfl) (by kernel_rfl) (fun _ _ _ h => h) rfl (fun W _ => by go_simp) hB2 ?_
         simp only [Act.put, sA, sB, sC]
         refine wpHz_take (i := 12) (d := 80) (v := .string ⟨#[]⟩) rfl rfl (by kernel_rfl) (by kernel_rfl) (by kernel_rfl) (fun _ _ _ h => h) rfl (fun W _ => by go_simp) hB2 ?_
         simp only [Act.put, sA, sB, sC]
         refine wpHz_take (i := 13) (d := 81) (v := .int .i64 5) rfl rfl (by kernel_rfl) (by kernel_rfl) (by kernel_rfl) (fun _ _ _ h => h) rfl (fun W _ => by go_simp) hB2 ?_
         simp only [Act.put, sA, sB, sC]
         refine wpHz_take (i := 14) (d := 7) (v := .string ⟨#[]⟩) rfl rfl (by kernel_rfl) (by kernel_rfl) (by kernel_rfl) (fun _ _ _ h => h) rfl (fun W _ => by go_simp) hB2 ?_
         simp only [Act.put, sA, sB, sC]
         refine wpHz_take (i := 15) (d := 8) (v := .int .i64 5) rfl rfl (by kernel_rfl) (by kernel_rfl) (by kernel_rfl) (fun _ _ _ h => h) rfl (fun W _ => by go_simp) hB2 ?_
         simp only [Act.put, sA, sB, sC]
         refine wpAnyH_done (by kernel_rfl) ?_ _
         have HBF := Lib.hid (HB.out.trans ((HBX.out.trans (hB2.mono HBX.out.size)).mono HB.out.size))
         clear hb2 hB2 HLD HAX HRX hD0
         go_wp2_with fail
         go_ret2
         exact ⟨fun S h => (by rw [HR0.out] at h; cases h), fun _ => rfl, HBF.out⟩
        ·have HNXT := Lib.hid (show runO (colS L) [] (k + 1) = some S' by rw [HSTEP.out, hc])
         have HCL2 := Lib.hid hcl
         rw [ho] at HAX
         replace HAX := Lib.hid (show ∀ W, Below wx.heap.size wx W → Calls Tryz.prog 7 #[.string y2, .string p] W fun e w' => e = .returned (.tuple #[.string (qstr r), .int .i64 0]) ∧ Below W.heap.size W w' from HAX.out)
         have HST := Lib.hid (cellsZ_set LT j (y1, y2) (qstr r) HY.out)
         generalize qstr r = sr at *
         clear HQ3 ho hc HBADK HSTEP hcl
         refine wp_region_held (S := fun W => Below wx.heap.size wx W) (by kernel_rfl) ?_
         change wpAnyH _ _ _ _ _ 16 _ _ wx.drew
         generalize wx.drew = W at *
         refine wpHz_take (i := 0) (d := 69) (v := .slice (some ⟨g, 0, none⟩) M cp) rfl rfl (by kernel_rfl) (by kernel_rfl) (by kernel_rfl) (fun _ _ _ h => h) rfl (fun W _ => by go_simp) hD0 ?_
         simp only [Act.put, sA, sB, sC]
         refine wpHz_take (i := 1) (d := 70) (v := .int .i64 (j : Int)) rfl rfl (by kernel_rfl) (by kernel_rfl) (by kernel_rfl) (fun _ _ _ h => h) rfl (fun W _ => by go_simp) hD0 ?_
         simp only [Act.put, sA, sB, sC]
         refine wpHz_take (i := 2) (d := 71) (v := .pointer (some ⟨g, j * 2, none⟩)) rfl rfl (by kernel_rfl) (by kernel_rfl) (by kernel_rfl) (fun _ _ _ h => h) rfl (fun W _ => by go_simp) hD0 ?_
         simp only [Act.put, sA, sB, sC]
         refine wpHz_take (i := 3) (d := 72) (v := .pointer (some ⟨g, j * 2 + 1, none⟩)) rfl rfl (by kernel_rfl) (by kernel_rfl) (by kernel_rfl) (fun _ _ _ h => h) rfl (fun W _ => by go_simp) hD0 ?_
         simp only [Act.put, sA, sB, sC]
         refine wpHz_take (i := 4) (d := 73) (v := .string y2) rfl rfl (by kernel_rfl) (by kernel_rfl) (by kernel_rfl) (fun _ _ _ h => h) rfl (fun W hW => by have e1 := (HLD.out W hW).1; go_simp) hD0 ?_
         simp only [Act.put, sA, sB, sC]
         refine wpHz_take (i := 5) (d := 74) (v := .slice (some a) N cap) rfl rfl (by kernel_rfl) (by kernel_rfl) (by kernel_rfl) (fun _ _ _ h => h) rfl (fun W _ => by go_simp) hD0 ?_
         simp only [Act.put, sA, sB, sC]
         refine wpHz_take (i := 6) (d := 75) (v := .int .i64 (k : Int)) rfl rfl (by kernel_rfl) (by kernel_rfl) (by kernel_rfl) (fun _ _ _ h => h) rfl (fun W _ => by go_simp) hD0 ?_
         simp only [Act.put, sA, sB, sC]
         refine wpHz_take (i := 7) (d := 76) (v := .pointer (some (a.add (k * 2)))) rfl rfl (by kernel_rfl) (by kernel_rfl) (by kernel_rfl) (fun _ _ _ h => h) rfl (fun W _ => by go_simp) hD0 ?_
         simp only [Act.put, sA, sB, sC]
         refine wpHz_take (i := 8) (d := 77) (v := .pointer (some ⟨(a.add (k * 2)).block, (a.add (k * 2)).off + 1, none⟩)) rfl rfl (by kernel_rfl) (by kernel_rfl) (by kernel_rfl) (fun _ _ _ h => h) rfl (fun W _ => by go_simp) hD0 ?_
         simp only [Act.put, sA, sB, sC]
         refine wpHz_take (i := 9) (d := 78) (v := .string p) rfl rfl (by kernel_rfl) (by kernel_rfl) (by kernel_rfl) (fun _ _ _ h => h) rfl (fun W hW => by have e2 := (HLD.out W hW).2; go_simp) hD0 ?_
         simp only [Act.put, sA, sB, sC]
         refine wpHz_one (i := 10) (by kernel_rfl) ?_
         refine wpOz_run rfl rfl (wpz_enter (d := 79) rfl (by go_simp) ((HAX.out _ hD0).mono ?_))
         rintro e u2 ⟨rfl, hb2⟩
         have hB2 : Below wx.heap.size wx u2 := hD0.trans (hb2.mono hD0.size)
         refine ⟨_, rfl, hB2, ?_⟩
         simp only [Act.put, sA, sB, sC]
         refine wpHz_take (i := 11) (d := 68) (v := .tuple #[.string sr, .int .i64 0]) rfl rfl (by kernel_rfl) (by kernel_rfl) (by kernel_rfl) (fun _ _ _ h => h) rfl (fun W _ => by go_simp) hB2 ?_
         simp only [Act.put, sA, sB, sC]
         refine wpHz_take (i := 12) (d := 80) (v := .string sr) rfl rfl (by kernel_rfl) (by kernel_rfl) (by kernel_rfl) (fun _ _ _ h => h) rfl (fun W _ => by go_simp) hB2 ?_
         simp only [Act.put, sA, sB, sC]
         refine wpHz_take (i := 13) (d := 81) (v := .int .i64 0) rfl rfl (by kernel_rfl) (by kernel_rfl) (by kernel_rfl) (fun _ _ _ h => h) rfl (fun W _ => by go_simp) hB2 ?_
         simp only [Act.put, sA, sB, sC]
         refine wpHz_take (i := 14) (d := 7) (v := .string sr) rfl rfl (by kernel_rfl) (by kernel_rfl) (by kernel_rfl) (fun _ _ _ h => h) rfl (fun W _ => by go_simp) hB2 ?_
         simp only [Act.put, sA, sB, sC]
         refine wpHz_take (i := 15) (d := 8) (v := .int .i64 0) rfl rfl (by kernel_rfl) (by kernel_rfl) (by kernel_rfl) (fun _ _ _ h => h) rfl (fun W _ => by go_simp) hB2 ?_
         simp only [Act.put, sA, sB, sC]
         refine wpAnyH_done (by kernel_rfl) ?_ _
         have HBF := Lib.hid (HB.out.trans ((HBX.out.trans (hB2.mono HBX.out.size)).mono HB.out.size))
         have hru := rowM_below HRX.out hB2
         have e1 := (HLD.out u2 hB2).1
         have f1 := hru.frozenAt (j * 2 + 1)
         have HRU := Lib.hid (hru.stored (j * 2 + 1) (.string sr))
         have HLEN := Lib.hid (show S'.length = M by
          have := congrArg List.length HCL2.out
          unfold tZ at this
          rw [List.length_map, List.length_set] at this
          rw [this]; exact HM.out.2)
         clear hb2 hB2 HLD HAX HRX hD0 hru
         go_wp2_with fail
         go_roundw
         case rel => exact ⟨k + 1, S', by omega, by go_num, HNXT, Lib.hid (by
          have h := HRU.out.1
          rw [← HST.out, ← HCL2.out] at h
          rw [HLEN.out]; exact h), HBF.out.grown HRU.out.2 HBF.out.size (fun b hb => by cases hb; exact hgb)⟩
         case measure => simp [intOf]; omega
       ·have hl2 : (y1.toList == key.toList) = false := (eq_b y1 key).trans (decide_eq_false hq)
        obtain ⟨S', hS1, hS2⟩ := HNEW.out (fun x hx e => hq (by rw [HY.out] at hx; cases hx; exact e))
        have HNXT := Lib.hid (show runO (colS L) [] (k + 1) = some S' by rw [HSTEP.out, hS1])
        have HLEN := Lib.hid (show S'.length = M + 1 by
         have := congrArg List.length hS2
         unfold tZ at this
         rw [List.length_map] at this
         have h2 := HM.out.2
         rw [this, List.length_append, List.length_append, List.length_take, List.length_drop, h2]
         show min _ _ + 1 + _ = _
         omega)
        have HFIN := Lib.hid (show cellsZ (tZ S') = cellsZ (LT.take j) ++ [.string key, .string p] ++ cellsZ (LT.drop j) by rw [hS2, cellsZ_app, cellsZ_app]; rfl)
        have HNL := Lib.hid (show (cellsZ (LT.take j)).length = j * 2 ∧ (∀ u ∈ cellsZ (LT.take j), u.oneCell' = true) ∧ (cellsZ (LT.drop j)).length = (M - j) * 2 ∧ (∀ u ∈ cellsZ (LT.drop j), u.oneCell' = true) from
         ⟨by rw [cellsZ_len, List.length_take, HM.out.2]; omega, cellsZ_one _, by rw [cellsZ_len, List.length_drop, HM.out.2], cellsZ_one _⟩)
        clear hS1 hS2 HNEW HOLD HSTEP
        have hk0 : (0 : Int) ≤ (j : Int) := by omega
        have hk1 : (j : Int) ≤ (M : Int) := by omega
        have hk2 : (j : Int) ≤ (cp : Int) := by omega
        have hk3 : (M : Int) ≤ (cp : Int) := by omega
        have HNB := Lib.hid (show ∀ W, Below wo.heap.size wo W → ∀ ad : Addr, some (⟨g, 0, none⟩ : Addr) = some ad → ∀ i u, (cellsZ (LT.take j))[i]? = some u → W.cell? (ad.add i) = some u from fun W hW ad had i u hu => by
         cases had
         have hu2 : (cellsZ LT)[i]? = some u := by
          have hsplit : cellsZ LT = cellsZ (LT.take j) ++ cellsZ (LT.drop j) := by rw [← cellsZ_app, List.take_append_drop]
          rw [hsplit, List.getElem?_append_left (List.getElem?_eq_some_iff.1 hu).1]; exact hu
         rw [Addr.add_lit, Nat.zero_add]
         exact HNBT.out W hW i u hu2)
        have HNF := Lib.hid (show ∀ W, Below wo.heap.size wo W → ∀ ad : Addr, (if cp = j then some (⟨g, 0, none⟩ : Addr) else some ⟨g, j * 2, none⟩) = some ad → ∀ i u, (cellsZ (LT.drop j))[i]? = some u → W.cell? (ad.add i) = some u from fun W hW ad had i u hu => by
         split at had
         ·have h1 := (List.getElem?_eq_some_iff.1 hu).1
          rw [HNL.out.2.2.1] at h1
          have h2 : M - j = 0 := by omega
          rw [h2] at h1; omega
         ·cases had
          have hu2 : (cellsZ LT)[j * 2 + i]? = some u := by
           have hsplit : cellsZ LT = cellsZ (LT.take j) ++ cellsZ (LT.drop j) := by rw [← cellsZ_app, List.take_append_drop]
           rw [hsplit, List.getElem?_append_right (by rw [HNL.out.1]; omega), HNL.out.1, Nat.add_sub_cancel_left]; exact hu
          rw [Addr.add_lit]
          exact HNBT.out W hW _ u hu2)
        clear hy hq HPL HPA HBADK HQOK HQK HQP HNBT HCG HCY
        go_wp2_with fail
        go_quiet (fail)
        go_wp2_with fail
        go_quiet (fail)
        go_wp2_with fail
        refine wp_world (below_drewZ (below_drewZ HBQ0.out _) _) (fun wx hbx => ?_)
        refine wp_region_held (S := fun W => Below wo.heap.size wo W) (by kernel_rfl) ?_
        have HD : Below wo.heap.size wo wx.drew := hbx.drew
        change wpAnyH _ _ _ _ _ 16 _ _ wx.drew
        clear hbx
        generalize wx.drew = W at *
        refine wpHz_take (i := 1) (d := 54) (v := .slice (some ⟨g, 0, none⟩) M cp) rfl rfl (by kernel_rfl) (by kernel_rfl) (by kernel_rfl) (fun _ _ _ h => h) rfl (fun W _ => by go_simp) HD ?_
        simp only [Act.put, sA, sB, sC]
        refine wpHz_take (i := 2) (d := 55) (v := .int .i64 (j : Int)) rfl rfl (by kernel_rfl) (by kernel_rfl) (by kernel_rfl) (fun _ _ _ h => h) rfl (fun W _ => by go_simp) HD ?_
        simp only [Act.put, sA, sB, sC]
        refine wpHz_take (i := 3) (d := 56) (v := .slice (some ⟨g, 0, none⟩) j cp) rfl rfl (by kernel_rfl) (by kernel_rfl) (by kernel_rfl) (fun _ _ _ h => h) rfl (fun W _ => by go_simp) HD ?_
        simp only [Act.put, sA, sB, sC]
        refine wpHz_take (i := 5) (d := 58) (v := .slice (some a) N cap) rfl rfl (by kernel_rfl) (by kernel_rfl) (by kernel_rfl) (fun _ _ _ h => h) rfl (fun W _ => by go_simp) HD ?_
        simp only [Act.put, sA, sB, sC]
        refine wpHz_take (i := 6) (d := 59) (v := .int .i64 (k : Int)) rfl rfl (by kernel_rfl) (by kernel_rfl) (by kernel_rfl) (fun _ _ _ h => h) rfl (fun W _ => by go_simp) HD ?_
        simp only [Act.put, sA, sB, sC]
        refine wpHz_take (i := 7) (d := 60) (v := .pointer (some (a.add (k * 2)))) rfl rfl (by kernel_rfl) (by kernel_rfl) (by kernel_rfl) (fun _ _ _ h => h) rfl (fun W _ => by go_simp) HD ?_
        simp only [Act.put, sA, sB, sC]
        refine wpHz_take (i := 8) (d := 61) (v := .agg #[.string key, .string p]) rfl rfl (by kernel_rfl) (by kernel_rfl) (by kernel_rfl) (fun _ _ _ h => h) rfl (fun W hW => by have e0 := (HCL.out W hW).1; have e1 := (HCL.out W hW).2; go_simp) HD ?_
        simp only [Act.put, sA, sB, sC]
        refine wpHz_take (i := 11) (d := 64) (v := .slice (some ⟨g, 0, none⟩) M cp) rfl rfl (by kernel_rfl) (by kernel_rfl) (by kernel_rfl) (fun _ _ _ h => h) rfl (fun W _ => by go_simp) HD ?_
        simp only [Act.put, sA, sB, sC]
        refine wpHz_take (i := 12) (d := 65) (v := .int .i64 (j : Int)) rfl rfl (by kernel_rfl) (by kernel_rfl) (by kernel_rfl) (fun _ _ _ h => h) rfl (fun W _ => by go_simp) HD ?_
        simp only [Act.put, sA, sB, sC]
        refine wpHz_take (i := 13) (d := 66) (v := .slice (if cp = j then some ⟨g, 0, none⟩ else some ⟨g, j * 2, none⟩) (M - j) (cp - j)) rfl rfl (by kernel_rfl) (by kernel_rfl) (by kernel_rfl) (fun _ _ _ h => h) rfl (fun W _ => by go_simp) HD ?_
        simp only [Act.put, sA, sB, sC]
        refine wpHz_two (i := 0) (j := 9) (by kernel_rfl) ?_ ?_
        ·refine wpOz_run rfl rfl (wpz_value (d := 53) (v := .slice (some ⟨W.heap.size, 0, none⟩) 0 0) (w' := W.alloc (.cells #[] 41)) rfl (by go_simp) ?_)
         simp only [Act.put, sA, sB, sC]
         have HA := InsR.lit HD
         refine ⟨HA.below, ?_⟩
         refine wpHz_two (i := 4) (j := 9) (by kernel_rfl) ?_ ?_
         ·refine wpOz_run rfl rfl (wpz_append_rowX (.tmp 53) (.tmp 56) 22 (d := 57) rfl rfl wo.heap.size 41 i0 (.agg #[.string ⟨#[]⟩, .string ⟨#[]⟩]) 2 32 Tryz.underlying22 hi hz0 hz1 hz2 rfl (by decide) _ 0 [] rfl HA.row (some ⟨g, 0, none⟩) j cp (cellsZ (LT.take j)) rfl HNL.out.1 (HNB.out _ HA.below) (fun h => by cases h) HNL.out.2.1 (by unfold maxLen; omega) (by omega) HA.below.size ?_)
          intro v1 W1 hown1 hgr1 ho1
          simp only [Act.put, sA, sB, sC]
          rw [Nat.zero_add, List.nil_append] at hown1
          have HC := HA.grown hown1 hgr1
          clear hown1 hgr1 ho1
          refine ⟨HC.below, ?_⟩
          refine wpHz_one (i := 9) (by kernel_rfl) ?_
          refine wpOz_run rfl rfl (wpz_value (d := 62) (v := .slice (some ⟨W1.heap.size, 0, none⟩) 1 1) (w' := W1.alloc (.cells #[.string key, .string p] 41)) rfl (by go_simp) ?_)
          simp only [Act.put, sA, sB, sC]
          have HS := HC.new key p
          refine ⟨HS.below, ?_⟩
          generalize W1.heap.size = B at *
          generalize World.alloc W1 _ = W9 at *
          clear HC
          refine wpHz_one (i := 10) (by kernel_rfl) ?_
          refine wpOz_run rfl rfl (wpz_append_rowX (.tmp 57) (.tmp 62) 22 (d := 63) rfl rfl wo.heap.size 41 i0 (.agg #[.string ⟨#[]⟩, .string ⟨#[]⟩]) 2 32 Tryz.underlying22 hi hz0 hz1 hz2 rfl (by decide) _ j (cellsZ (LT.take j)) rfl HS.row (some ⟨B, 0, none⟩) 1 1 [Value.string key, Value.string p] rfl rfl (fun ad had => by cases had; exact World.news_of_block HS.blk) (fun h => by cases h) (by intro u hu; simp at hu; rcases hu with rfl | rfl <;> rfl) (by unfold maxLen; omega) (by omega) HS.below.size ?_)
          intro v2 W2 hown2 hgr2 _
          simp only [Act.put, sA, sB, sC]
          have HR2 := HS.row1.grown hown2 hgr2
          clear hown2 hgr2 HS
          refine ⟨HR2.below, ?_⟩
          refine wpHz_one (i := 14) (by kernel_rfl) ?_
          refine wpOz_run rfl rfl (wpz_append_rowX (.tmp 63) (.tmp 66) 22 (d := 67) rfl rfl wo.heap.size 41 i0 (.agg #[.string ⟨#[]⟩, .string ⟨#[]⟩]) 2 32 Tryz.underlying22 hi hz0 hz1 hz2 rfl (by decide) _ (j + 1) (cellsZ (LT.take j) ++ [Value.string key, Value.string p]) rfl HR2.row (if cp = j then some ⟨g, 0, none⟩ else some ⟨g, j * 2, none⟩) (M - j) (cp - j) (cellsZ (LT.drop j)) rfl HNL.out.2.2.1 (HNF.out _ HR2.below) (fun h => by split at h <;> cases h) HNL.out.2.2.2 (by unfold maxLen; omega) (by omega) HR2.below.size ?_)
          intro v3 W3 hown3 hgr3 _
          simp only [Act.put, sA, sB, sC]
          have HR3 := HR2.grown hown3 hgr3
          clear hown3 hgr3 HR2
          refine ⟨HR3.below, ?_⟩
          refine wpHz_take (i := 15) (d := 4) (v := v3) rfl rfl (by kernel_rfl) (by kernel_rfl) (by kernel_rfl) (fun _ _ _ h => h) rfl (fun W _ => by go_simp) HR3.below ?_
          simp only [Act.put, sA, sB, sC]
          refine wpAnyH_done (by kernel_rfl) ?_ _
          have HF := Lib.hid (And.intro HR3.row HR3.below)
          clear HR3
          go_wp2_with fail
          go_roundw
          case rel => exact ⟨k + 1, S', by omega, by go_num, HNXT, Lib.hid (by
           have h := HF.out.1
           rw [← HFIN.out] at h
           rw [HLEN.out]
           rw [show j + 1 + (M - j) = M + 1 by omega] at h; exact rowM_base h HB.out.size), HB.out.trans (HF.out.2.mono HB.out.size)⟩
          case measure => simp [intOf]; omega
         ·refine wpOz_run rfl rfl (wpz_value (d := 62) (v := .slice (some ⟨(W.alloc (.cells #[] 41)).heap.size, 0, none⟩) 1 1) (w' := (W.alloc (.cells #[] 41)).alloc (.cells #[.string key, .string p] 41)) rfl (by go_simp) ?_)
          simp only [Act.put, sA, sB, sC]
          have HS0 := HA.new key p
          refine ⟨HS0.below, ?_⟩
          clear HA
          generalize (W.alloc (.cells #[] 41)).heap.size = B at *
          refine wpHz_one (i := 4) (by kernel_rfl) ?_
          refine wpOz_run rfl rfl (wpz_append_rowX (.tmp 53) (.tmp 56) 22 (d := 57) rfl rfl wo.heap.size 41 i0 (.agg #[.string ⟨#[]⟩, .string ⟨#[]⟩]) 2 32 Tryz.underlying22 hi hz0 hz1 hz2 rfl (by decide) _ 0 [] rfl HS0.row (some ⟨g, 0, none⟩) j cp (cellsZ (LT.take j)) rfl HNL.out.1 (HNB.out _ HS0.below) (fun h => by cases h) HNL.out.2.1 (by unfold maxLen; omega) (by omega) HS0.below.size ?_)
          intro v1 W1 hown1 hgr1 ho1
          simp only [Act.put, sA, sB, sC]
          rw [Nat.zero_add, List.nil_append] at hown1
          have HS := HS0.grown hown1 hgr1 ho1
          clear hown1 hgr1 ho1
          refine ⟨HS.below, ?_⟩
          clear HS0
          refine wpHz_one (i := 10) (by kernel_rfl) ?_
          refine wpOz_run rfl rfl (wpz_append_rowX (.tmp 57) (.tmp 62) 22 (d := 63) rfl rfl wo.heap.size 41 i0 (.agg #[.string ⟨#[]⟩, .string ⟨#[]⟩]) 2 32 Tryz.underlying22 hi hz0 hz1 hz2 rfl (by decide) _ j (cellsZ (LT.take j)) rfl HS.row (some ⟨B, 0, none⟩) 1 1 [Value.string key, Value.string p] rfl rfl (fun ad had => by cases had; exact World.news_of_block HS.blk) (fun h => by cases h) (by intro u hu; simp at hu; rcases hu with rfl | rfl <;> rfl) (by unfold maxLen; omega) (by omega) HS.below.size ?_)
          intro v2 W2 hown2 hgr2 _
          simp only [Act.put, sA, sB, sC]
          have HR2 := HS.row1.grown hown2 hgr2
          clear hown2 hgr2 HS
          refine ⟨HR2.below, ?_⟩
          refine wpHz_one (i := 14) (by kernel_rfl) ?_
          refine wpOz_run rfl rfl (wpz_append_rowX (.tmp 63) (.tmp 66) 22 (d := 67) rfl rfl wo.heap.size 41 i0 (.agg #[.string ⟨#[]⟩, .string ⟨#[]⟩]) 2 32 Tryz.underlying22 hi hz0 hz1 hz2 rfl (by decide) _ (j + 1) (cellsZ (LT.take j) ++ [Value.string key, Value.string p]) rfl HR2.row (if cp = j then some ⟨g, 0, none⟩ else some ⟨g, j * 2, none⟩) (M - j) (cp - j) (cellsZ (LT.drop j)) rfl HNL.out.2.2.1 (HNF.out _ HR2.below) (fun h => by split at h <;> cases h) HNL.out.2.2.2 (by unfold maxLen; omega) (by omega) HR2.below.size ?_)
          intro v3 W3 hown3 hgr3 _
          simp only [Act.put, sA, sB, sC]
          have HR3 := HR2.grown hown3 hgr3
          clear hown3 hgr3 HR2
          refine ⟨HR3.below, ?_⟩
          refine wpHz_take (i := 15) (d := 4) (v := v3) rfl rfl (by kernel_rfl) (by kernel_rfl) (by kernel_rfl) (fun _ _ _ h => h) rfl (fun W _ => by go_simp) HR3.below ?_
          simp only [Act.put, sA, sB, sC]
          refine wpAnyH_done (by kernel_rfl) ?_ _
          have HF := Lib.hid (And.intro HR3.row HR3.below)
          clear HR3
          go_wp2_with fail
          go_roundw
          case rel => exact ⟨k + 1, S', by omega, by go_num, HNXT, Lib.hid (by
           have h := HF.out.1
           rw [← HFIN.out] at h
           rw [HLEN.out]
           rw [show j + 1 + (M - j) = M + 1 by omega] at h; exact rowM_base h HB.out.size), HB.out.trans (HF.out.2.mono HB.out.size)⟩
          case measure => simp [intOf]; omega
        ·refine wpOz_run rfl rfl (wpz_value (d := 62) (v := .slice (some ⟨W.heap.size, 0, none⟩) 1 1) (w' := W.alloc (.cells #[.string key, .string p] 41)) rfl (by go_simp) ?_)
         simp only [Act.put, sA, sB, sC]
         have HB := InsB.new key p HD
         refine ⟨HB.below, ?_⟩
         refine wpHz_one (i := 0) (by kernel_rfl) ?_
         refine wpOz_run rfl rfl (wpz_value (d := 53) (v := .slice (some ⟨(W.alloc (.cells #[.string key, .string p] 41)).heap.size, 0, none⟩) 0 0) (w' := (W.alloc (.cells #[.string key, .string p] 41)).alloc (.cells #[] 41)) rfl (by go_simp) ?_)
         simp only [Act.put, sA, sB, sC]
         have HS0 := HB.lit
         refine ⟨HS0.below, ?_⟩
         clear HB
         refine wpHz_one (i := 4) (by kernel_rfl) ?_
         refine wpOz_run rfl rfl (wpz_append_rowX (.tmp 53) (.tmp 56) 22 (d := 57) rfl rfl wo.heap.size 41 i0 (.agg #[.string ⟨#[]⟩, .string ⟨#[]⟩]) 2 32 Tryz.underlying22 hi hz0 hz1 hz2 rfl (by decide) _ 0 [] rfl HS0.row (some ⟨g, 0, none⟩) j cp (cellsZ (LT.take j)) rfl HNL.out.1 (HNB.out _ HS0.below) (fun h => by cases h) HNL.out.2.1 (by unfold maxLen; omega) (by omega) HS0.below.size ?_)
         intro v1 W1 hown1 hgr1 ho1
         simp only [Act.put, sA, sB, sC]
         rw [Nat.zero_add, List.nil_append] at hown1
         have HS := HS0.grown hown1 hgr1 ho1
         clear hown1 hgr1 ho1
         refine ⟨HS.below, ?_⟩
         clear HS0
         generalize W.heap.size = B at *
         refine wpHz_one (i := 10) (by kernel_rfl) ?_
         refine wpOz_run rfl rfl (wpz_append_rowX (.tmp 57) (.tmp 62) 22 (d := 63) rfl rfl wo.heap.size 41 i0 (.agg #[.string ⟨#[]⟩, .string ⟨#[]⟩]) 2 32 Tryz.underlying22 hi hz0 hz1 hz2 rfl (by decide) _ j (cellsZ (LT.take j)) rfl HS.row (some ⟨B, 0, none⟩) 1 1 [Value.string key, Value.string p] rfl rfl (fun ad had => by cases had; exact World.news_of_block HS.blk) (fun h => by cases h) (by intro u hu; simp at hu; rcases hu with rfl | rfl <;> rfl) (by unfold maxLen; omega) (by omega) HS.below.size ?_)
         intro v2 W2 hown2 hgr2 _
         simp only [Act.put, sA, sB, sC]
         have HR2 := HS.row1.grown hown2 hgr2
         clear hown2 hgr2 HS
         refine ⟨HR2.below, ?_⟩
         refine wpHz_one (i := 14) (by kernel_rfl) ?_
         refine wpOz_run rfl rfl (wpz_append_rowX (.tmp 63) (.tmp 66) 22 (d := 67) rfl rfl wo.heap.size 41 i0 (.agg #[.string ⟨#[]⟩, .string ⟨#[]⟩]) 2 32 Tryz.underlying22 hi hz0 hz1 hz2 rfl (by decide) _ (j + 1) (cellsZ (LT.take j) ++ [Value.string key, Value.string p]) rfl HR2.row (if cp = j then some ⟨g, 0, none⟩ else some ⟨g, j * 2, none⟩) (M - j) (cp - j) (cellsZ (LT.drop j)) rfl HNL.out.2.2.1 (HNF.out _ HR2.below) (fun h => by split at h <;> cases h) HNL.out.2.2.2 (by unfold maxLen; omega) (by omega) HR2.below.size ?_)
         intro v3 W3 hown3 hgr3 _
         simp only [Act.put, sA, sB, sC]
         have HR3 := HR2.grown hown3 hgr3
         clear hown3 hgr3 HR2
         refine ⟨HR3.below, ?_⟩
         refine wpHz_take (i := 15) (d := 4) (v := v3) rfl rfl (by kernel_rfl) (by kernel_rfl) (by kernel_rfl) (fun _ _ _ h => h) rfl (fun W _ => by go_simp) HR3.below ?_
         simp only [Act.put, sA, sB, sC]
         refine wpAnyH_done (by kernel_rfl) ?_ _
         have HF := Lib.hid (And.intro HR3.row HR3.below)
         clear HR3
         go_wp2_with fail
         go_roundw
         case rel => exact ⟨k + 1, S', by omega, by go_num, HNXT, Lib.hid (by
          have h := HF.out.1
          rw [← HFIN.out] at h
          rw [HLEN.out]
          rw [show j + 1 + (M - j) = M + 1 by omega] at h; exact rowM_base h HB.out.size), HB.out.trans (HF.out.2.mono HB.out.size)⟩
         case measure => simp [intOf]; omega
      ·have hjM : decide ((j : Int) < (M : Int)) = false := decide_eq_false (by omega)
       have hjMn : decide (j < M) = false := decide_eq_false (by omega)
       have hjE : ((j : Int) == (M : Int)) = true := by rw [beq_iff_eq]; omega
       have hjE2 : (j == M) = true := by rw [beq_iff_eq]; omega
       obtain ⟨S', hS1, hS2⟩ := HNEW.out (fun x hx => by have := (List.getElem?_eq_some_iff.1 hx).1; rw [HM.out.2] at this; omega)
       have HNXT := Lib.hid (show runO (colS L) [] (k + 1) = some S' by rw [HSTEP.out, hS1])
       have HLEN := Lib.hid (show S'.length = M + 1 by
        have := congrArg List.length hS2
        unfold tZ at this
        rw [List.length_map] at this
        have h2 := HM.out.2
        rw [this, List.length_append, List.length_append, List.length_take, List.length_drop, h2]
        show min _ _ + 1 + _ = _
        omega)
       have HFIN := Lib.hid (show cellsZ (tZ S') = cellsZ (LT.take j) ++ [.string key, .string p] ++ cellsZ (LT.drop j) by rw [hS2, cellsZ_app, cellsZ_app]; rfl)
       have HNL := Lib.hid (show (cellsZ (LT.take j)).length = j * 2 ∧ (∀ u ∈ cellsZ (LT.take j), u.oneCell' = true) ∧ (cellsZ (LT.drop j)).length = (M - j) * 2 ∧ (∀ u ∈ cellsZ (LT.drop j), u.oneCell' = true) from
        ⟨by rw [cellsZ_len, List.length_take, HM.out.2]; omega, cellsZ_one _, by rw [cellsZ_len, List.length_drop, HM.out.2], cellsZ_one _⟩)
       clear hS1 hS2 HNEW HOLD HSTEP
       have hk0 : (0 : Int) ≤ (j : Int) := by omega
       have hk1 : (j : Int) ≤ (M : Int) := by omega
       have hk2 : (j : Int) ≤ (cp : Int) := by omega
       have hk3 : (M : Int) ≤ (cp : Int) := by omega
       have HNB := Lib.hid (show ∀ W, Below wo.heap.size wo W → ∀ ad : Addr, some (⟨g, 0, none⟩ : Addr) = some ad → ∀ i u, (cellsZ (LT.take j))[i]? = some u → W.cell? (ad.add i) = some u from fun W hW ad had i u hu => by
        cases had
        have hu2 : (cellsZ LT)[i]? = some u := by
         have hsplit : cellsZ LT = cellsZ (LT.take j) ++ cellsZ (LT.drop j) := by rw [← cellsZ_app, List.take_append_drop]
         rw [hsplit, List.getElem?_append_left (List.getElem?_eq_some_iff.1 hu).1]; exact hu
        rw [Addr.add_lit, Nat.zero_add]
        exact HNBT.out W hW i u hu2)
       have HNF := Lib.hid (show ∀ W, Below wo.heap.size wo W → ∀ ad : Addr, (if cp = j then some (⟨g, 0, none⟩ : Addr) else some ⟨g, j * 2, none⟩) = some ad → ∀ i u, (cellsZ (LT.drop j))[i]? = some u → W.cell? (ad.add i) = some u from fun W hW ad had i u hu => by
        split at had
        ·have h1 := (List.getElem?_eq_some_iff.1 hu).1
         rw [HNL.out.2.2.1] at h1
         have h2 : M - j = 0 := by omega
         rw [h2] at h1; omega
        ·cases had
         have hu2 : (cellsZ LT)[j * 2 + i]? = some u := by
          have hsplit : cellsZ LT = cellsZ (LT.take j) ++ cellsZ (LT.drop j) := by rw [← cellsZ_app, List.take_append_drop]
          rw [hsplit, List.getElem?_append_right (by rw [HNL.out.1]; omega), HNL.out.1, Nat.add_sub_cancel_left]; exact hu
         rw [Addr.add_lit]
         exact HNBT.out W hW _ u hu2)
       clear HPL HPA HBADK HQOK HQK HQP HNBT HCG
       go_wp2_with fail
       go_quiet (fail)
       go_wp2_with fail
       go_quiet (fail)
       go_wp2_with fail
       refine wp_world (below_drewZ (below_drewZ HBQ0.out _) _) (fun wx hbx => ?_)
       refine wp_region_held (S := fun W => Below wo.heap.size wo W) (by kernel_rfl) ?_
       have HD : Below wo.heap.size wo wx.drew := hbx.drew
       change wpAnyH _ _ _ _ _ 16 _ _ wx.drew
       clear hbx
       generalize wx.drew = W at *
       refine wpHz_take (i := 1) (d := 54) (v := .slice (some ⟨g, 0, none⟩) M cp) rfl rfl (by kernel_rfl) (by kernel_rfl) (by kernel_rfl) (fun _ _ _ h => h) rfl (fun W _ => by go_simp) HD ?_
       simp only [Act.put, sA, sB, sC]
       refine wpHz_take (i := 2) (d := 55) (v := .int .i64 (j : Int)) rfl rfl (by kernel_rfl) (by kernel_rfl) (by kernel_rfl) (fun _ _ _ h => h) rfl (fun W _ => by go_simp) HD ?_
       simp only [Act.put, sA, sB, sC]
       refine wpHz_take (i := 3) (d := 56) (v := .slice (some ⟨g, 0, none⟩) j cp) rfl rfl (by kernel_rfl) (by kernel_rfl) (by kernel_rfl) (fun _ _ _ h => h) rfl (fun W _ => by go_simp) HD ?_
       simp only [Act.put, sA, sB, sC]
       refine wpHz_take (i := 5) (d := 58) (v := .slice (some a) N cap) rfl rfl (by kernel_rfl) (by kernel_rfl) (by kernel_rfl) (fun _ _ _ h => h) rfl (fun W _ => by go_simp) HD ?_
       simp only [Act.put, sA, sB, sC]
       refine wpHz_take (i := 6) (d := 59) (v := .int .i64 (k : Int)) rfl rfl (by kernel_rfl) (by kernel_rfl) (by kernel_rfl) (fun _ _ _ h => h) rfl (fun W _ => by go_simp) HD ?_
       simp only [Act.put, sA, sB, sC]
       refine wpHz_take (i := 7) (d := 60) (v := .pointer (some (a.add (k * 2)))) rfl rfl (by kernel_rfl) (by kernel_rfl) (by kernel_rfl) (fun _ _ _ h => h) rfl (fun W _ => by go_simp) HD ?_
       simp only [Act.put, sA, sB, sC]
       refine wpHz_take (i := 8) (d := 61) (v := .agg #[.string key, .string p]) rfl rfl (by kernel_rfl) (by kernel_rfl) (by kernel_rfl) (fun _ _ _ h => h) rfl (fun W hW => by have e0 := (HCL.out W hW).1; have e1 := (HCL.out W hW).2; go_simp) HD ?_
       simp only [Act.put, sA, sB, sC]
       refine wpHz_take (i := 11) (d := 64) (v := .slice (some ⟨g, 0, none⟩) M cp) rfl rfl (by kernel_rfl) (by kernel_rfl) (by kernel_rfl) (fun _ _ _ h => h) rfl (fun W _ => by go_simp) HD ?_
       simp only [Act.put, sA, sB, sC]
       refine wpHz_take (i := 12) (d := 65) (v := .int .i64 (j : Int)) rfl rfl (by kernel_rfl) (by kernel_rfl) (by kernel_rfl) (fun _ _ _ h => h) rfl (fun W _ => by go_simp) HD ?_
       simp only [Act.put, sA, sB, sC]
       refine wpHz_take (i := 13) (d := 66) (v := .slice (if cp = j then some ⟨g, 0, none⟩ else some ⟨g, j * 2, none⟩) (M - j) (cp - j)) rfl rfl (by kernel_rfl) (by kernel_rfl) (by kernel_rfl) (fun _ _ _ h => h) rfl (fun W _ => by go_simp) HD ?_
       simp only [Act.put, sA, sB, sC]
       refine wpHz_two (i := 0) (j := 9) (by kernel_rfl) ?_ ?_
       ·refine wpOz_run rfl rfl (wpz_value (d := 53) (v := .slice (some ⟨W.heap.size, 0, none⟩) 0 0) (w' := W.alloc (.cells #[] 41)) rfl (by go_simp) ?_)
        simp only [Act.put, sA, sB, sC]
        have HA := InsR.lit HD
        refine ⟨HA.below, ?_⟩
        refine wpHz_two (i := 4) (j := 9) (by kernel_rfl) ?_ ?_
        ·refine wpOz_run rfl rfl (wpz_append_rowX (.tmp 53) (.tmp 56) 22 (d := 57) rfl rfl wo.heap.size 41 i0 (.agg #[.string ⟨#[]⟩, .string ⟨#[]⟩]) 2 32 Tryz.underlying22 hi hz0 hz1 hz2 rfl (by decide) _ 0 [] rfl HA.row (some ⟨g, 0, none⟩) j cp (cellsZ (LT.take j)) rfl HNL.out.1 (HNB.out _ HA.below) (fun h => by cases h) HNL.out.2.1 (by unfold maxLen; omega) (by omega) HA.below.size ?_)
         intro v1 W1 hown1 hgr1 ho1
         simp only [Act.put, sA, sB, sC]
         rw [Nat.zero_add, List.nil_append] at hown1
         have HC := HA.grown hown1 hgr1
         clear hown1 hgr1 ho1
         refine ⟨HC.below, ?_⟩
         refine wpHz_one (i := 9) (by kernel_rfl) ?_
         refine wpOz_run rfl rfl (wpz_value (d := 62) (v := .slice (some ⟨W1.heap.size, 0, none⟩) 1 1) (w' := W1.alloc (.cells #[.string key, .string p] 41)) rfl (by go_simp) ?_)
         simp only [Act.put, sA, sB, sC]
         have HS := HC.new key p
         refine ⟨HS.below, ?_⟩
         generalize W1.heap.size = B at *
         generalize World.alloc W1 _ = W9 at *
         clear HC
         refine wpHz_one (i := 10) (by kernel_rfl) ?_
         refine wpOz_run rfl rfl (wpz_append_rowX (.tmp 57) (.tmp 62) 22 (d := 63) rfl rfl wo.heap.size 41 i0 (.agg #[.string ⟨#[]⟩, .string ⟨#[]⟩]) 2 32 Tryz.underlying22 hi hz0 hz1 hz2 rfl (by decide) _ j (cellsZ (LT.take j)) rfl HS.row (some ⟨B, 0, none⟩) 1 1 [Value.string key, Value.string p] rfl rfl (fun ad had => by cases had; exact World.news_of_block HS.blk) (fun h => by cases h) (by intro u hu; simp at hu; rcases hu with rfl | rfl <;> rfl) (by unfold maxLen; omega) (by omega) HS.below.size ?_)
         intro v2 W2 hown2 hgr2 _
         simp only [Act.put, sA, sB, sC]
         have HR2 := HS.row1.grown hown2 hgr2
         clear hown2 hgr2 HS
         refine ⟨HR2.below, ?_⟩
         refine wpHz_one (i := 14) (by kernel_rfl) ?_
         refine wpOz_run rfl rfl (wpz_append_rowX (.tmp 63) (.tmp 66) 22 (d := 67) rfl rfl wo.heap.size 41 i0 (.agg #[.string ⟨#[]⟩, .string ⟨#[]⟩]) 2 32 Tryz.underlying22 hi hz0 hz1 hz2 rfl (by decide) _ (j + 1) (cellsZ (LT.take j) ++ [Value.string key, Value.string p]) rfl HR2.row (if cp = j then some ⟨g, 0, none⟩ else some ⟨g, j * 2, none⟩) (M - j) (cp - j) (cellsZ (LT.drop j)) rfl HNL.out.2.2.1 (HNF.out _ HR2.below) (fun h => by split at h <;> cases h) HNL.out.2.2.2 (by unfold maxLen; omega) (by omega) HR2.below.size ?_)
         intro v3 W3 hown3 hgr3 _
         simp only [Act.put, sA, sB, sC]
         have HR3 := HR2.grown hown3 hgr3
         clear hown3 hgr3 HR2
         refine ⟨HR3.below, ?_⟩
         refine wpHz_take (i := 15) (d := 4) (v := v3) rfl rfl (by kernel_rfl) (by kernel_rfl) (by kernel_rfl) (fun _ _ _ h => h) rfl (fun W _ => by go_simp) HR3.below ?_
         simp only [Act.put, sA, sB, sC]
         refine wpAnyH_done (by kernel_rfl) ?_ _
         have HF := Lib.hid (And.intro HR3.row HR3.below)
         clear HR3
         go_wp2_with fail
         go_roundw
         case rel => exact ⟨k + 1, S', by omega, by go_num, HNXT, Lib.hid (by
          have h := HF.out.1
          rw [← HFIN.out] at h
          rw [HLEN.out]
          rw [show j + 1 + (M - j) = M + 1 by omega] at h; exact rowM_base h HB.out.size), HB.out.trans (HF.out.2.mono HB.out.size)⟩
         case measure => simp [intOf]; omega
        ·refine wpOz_run rfl rfl (wpz_value (d := 62) (v := .slice (some ⟨(W.alloc (.cells #[] 41)).heap.size, 0, none⟩) 1 1) (w' := (W.alloc (.cells #[] 41)).alloc (.cells #[.string key, .string p] 41)) rfl (by go_simp) ?_)
         simp only [Act.put, sA, sB, sC]
         have HS0 := HA.new key p
         refine ⟨HS0.below, ?_⟩
         clear HA
         generalize (W.alloc (.cells #[] 41)).heap.size = B at *
         refine wpHz_one (i := 4) (by kernel_rfl) ?_
         refine wpOz_run rfl rfl (wpz_append_rowX (.tmp 53) (.tmp 56) 22 (d := 57) rfl rfl wo.heap.size 41 i0 (.agg #[.string ⟨#[]⟩, .string ⟨#[]⟩]) 2 32 Tryz.underlying22 hi hz0 hz1 hz2 rfl (by decide) _ 0 [] rfl HS0.row (some ⟨g, 0, none⟩) j cp (cellsZ (LT.take j)) rfl HNL.out.1 (HNB.out _ HS0.below) (fun h => by cases h) HNL.out.2.1 (by unfold maxLen; omega) (by omega) HS0.below.size ?_)
         intro v1 W1 hown1 hgr1 ho1
         simp only [Act.put, sA, sB, sC]
         rw [Nat.zero_add, List.nil_append] at hown1
         have HS := HS0.grown hown1 hgr1 ho1
         clear hown1 hgr1 ho1
         refine ⟨HS.below, ?_⟩
         clear HS0
         refine wpHz_one (i := 10) (by kernel_rfl) ?_
         refine wpOz_run rfl rfl (wpz_append_rowX (.tmp 57) (.tmp 62) 22 (d := 63) rfl rfl wo.heap.size 41 i0 (.agg #[.string ⟨#[]⟩, .string ⟨#[]⟩]) 2 32 Tryz.underlying22 hi hz0 hz1 hz2 rfl (by decide) _ j (cellsZ (LT.take j)) rfl HS.row (some ⟨B, 0, none⟩) 1 1 [Value.string key, Value.string p] rfl rfl (fun ad had => by cases had; exact World.news_of_block HS.blk) (fun h => by cases h) (by intro u hu; simp at hu; rcases hu with rfl | rfl <;> rfl) (by unfold maxLen; omega) (by omega) HS.below.size ?_)
         intro v2 W2 hown2 hgr2 _
         simp only [Act.put, sA, sB, sC]
         have HR2 := HS.row1.grown hown2 hgr2
         clear hown2 hgr2 HS
         refine ⟨HR2.below, ?_⟩
         refine wpHz_one (i := 14) (by kernel_rfl) ?_
         refine wpOz_run rfl rfl (wpz_append_rowX (.tmp 63) (.tmp 66) 22 (d := 67) rfl rfl wo.heap.size 41 i0 (.agg #[.string ⟨#[]⟩, .string ⟨#[]⟩]) 2 32 Tryz.underlying22 hi hz0 hz1 hz2 rfl (by decide) _ (j + 1) (cellsZ (LT.take j) ++ [Value.string key, Value.string p]) rfl HR2.row (if cp = j then some ⟨g, 0, none⟩ else some ⟨g, j * 2, none⟩) (M - j) (cp - j) (cellsZ (LT.drop j)) rfl HNL.out.2.2.1 (HNF.out _ HR2.below) (fun h => by split at h <;> cases h) HNL.out.2.2.2 (by unfold maxLen; omega) (by omega) HR2.below.size ?_)
         intro v3 W3 hown3 hgr3 _
         simp only [Act.put, sA, sB, sC]
         have HR3 := HR2.grown hown3 hgr3
         clear hown3 hgr3 HR2
         refine ⟨HR3.below, ?_⟩
         refine wpHz_take (i := 15) (d := 4) (v := v3) rfl rfl (by kernel_rfl) (by kernel_rfl) (by kernel_rfl) (fun _ _ _ h => h) rfl (fun W _ => by go_simp) HR3.below ?_
         simp only [Act.put, sA, sB, sC]
         refine wpAnyH_done (by kernel_rfl) ?_ _
         have HF := Lib.hid (And.intro HR3.row HR3.below)
         clear HR3
         go_wp2_with fail
         go_roundw
         case rel => exact ⟨k + 1, S', by omega, by go_num, HNXT, Lib.hid (by
          have h := HF.out.1
          rw [← HFIN.out] at h
          rw [HLEN.out]
          rw [show j + 1 + (M - j) = M + 1 by omega] at h; exact rowM_base h HB.out.size), HB.out.trans (HF.out.2.mono HB.out.size)⟩
         case measure => simp [intOf]; omega
       ·refine wpOz_run rfl rfl (wpz_value (d := 62) (v := .slice (some ⟨W.heap.size, 0, none⟩) 1 1) (w' := W.alloc (.cells #[.string key, .string p] 41)) rfl (by go_simp) ?_)
        simp only [Act.put, sA, sB, sC]
        have HB := InsB.new key p HD
        refine ⟨HB.below, ?_⟩
        refine wpHz_one (i := 0) (by kernel_rfl) ?_
        refine wpOz_run rfl rfl (wpz_value (d := 53) (v := .slice (some ⟨(W.alloc (.cells #[.string key, .string p] 41)).heap.size, 0, none⟩) 0 0) (w' := (W.alloc (.cells #[.string key, .string p] 41)).alloc (.cells #[] 41)) rfl (by go_simp) ?_)
        simp only [Act.put, sA, sB, sC]
        have HS0 := HB.lit
        refine ⟨HS0.below, ?_⟩
        clear HB
        refine wpHz_one (i := 4) (by kernel_rfl) ?_
        refine wpOz_run rfl rfl (wpz_append_rowX (.tmp 53) (.tmp 56) 22 (d := 57) rfl rfl wo.heap.size 41 i0 (.agg #[.string ⟨#[]⟩, .string ⟨#[]⟩]) 2 32 Tryz.underlying22 hi hz0 hz1 hz2 rfl (by decide) _ 0 [] rfl HS0.row (some ⟨g, 0, none⟩) j cp (cellsZ (LT.take j)) rfl HNL.out.1 (HNB.out _ HS0.below) (fun h => by cases h) HNL.out.2.1 (by unfold maxLen; omega) (by omega) HS0.below.size ?_)
        intro v1 W1 hown1 hgr1 ho1
        simp only [Act.put, sA, sB, sC]
        rw [Nat.zero_add, List.nil_append] at hown1
        have HS := HS0.grown hown1 hgr1 ho1
        clear hown1 hgr1 ho1
        refine ⟨HS.below, ?_⟩
        clear HS0
        generalize W.heap.size = B at *
        refine wpHz_one (i := 10) (by kernel_rfl) ?_
        refine wpOz_run rfl rfl (wpz_append_rowX (.tmp 57) (.tmp 62) 22 (d := 63) rfl rfl wo.heap.size 41 i0 (.agg #[.string ⟨#[]⟩, .string ⟨#[]⟩]) 2 32 Tryz.underlying22 hi hz0 hz1 hz2 rfl (by decide) _ j (cellsZ (LT.take j)) rfl HS.row (some ⟨B, 0, none⟩) 1 1 [Value.string key, Value.string p] rfl rfl (fun ad had => by cases had; exact World.news_of_block HS.blk) (fun h => by cases h) (by intro u hu; simp at hu; rcases hu with rfl | rfl <;> rfl) (by unfold maxLen; omega) (by omega) HS.below.size ?_)
        intro v2 W2 hown2 hgr2 _
        simp only [Act.put, sA, sB, sC]
        have HR2 := HS.row1.grown hown2 hgr2
        clear hown2 hgr2 HS
        refine ⟨HR2.below, ?_⟩
        refine wpHz_one (i := 14) (by kernel_rfl) ?_
        refine wpOz_run rfl rfl (wpz_append_rowX (.tmp 63) (.tmp 66) 22 (d := 67) rfl rfl wo.heap.size 41 i0 (.agg #[.string ⟨#[]⟩, .string ⟨#[]⟩]) 2 32 Tryz.underlying22 hi hz0 hz1 hz2 rfl (by decide) _ (j + 1) (cellsZ (LT.take j) ++ [Value.string key, Value.string p]) rfl HR2.row (if cp = j then some ⟨g, 0, none⟩ else some ⟨g, j * 2, none⟩) (M - j) (cp - j) (cellsZ (LT.drop j)) rfl HNL.out.2.2.1 (HNF.out _ HR2.below) (fun h => by split at h <;> cases h) HNL.out.2.2.2 (by unfold maxLen; omega) (by omega) HR2.below.size ?_)
        intro v3 W3 hown3 hgr3 _
        simp only [Act.put, sA, sB, sC]
        have HR3 := HR2.grown hown3 hgr3
        clear hown3 hgr3 HR2
        refine ⟨HR3.below, ?_⟩
        refine wpHz_take (i := 15) (d := 4) (v := v3) rfl rfl (by kernel_rfl) (by kernel_rfl) (by kernel_rfl) (fun _ _ _ h => h) rfl (fun W _ => by go_simp) HR3.below ?_
        simp only [Act.put, sA, sB, sC]
        refine wpAnyH_done (by kernel_rfl) ?_ _
        have HF := Lib.hid (And.intro HR3.row HR3.below)
        clear HR3
        go_wp2_with fail
        go_roundw
        case rel => exact ⟨k + 1, S', by omega, by go_num, HNXT, Lib.hid (by
         have h := HF.out.1
         rw [← HFIN.out] at h
         rw [HLEN.out]
         rw [show j + 1 + (M - j) = M + 1 by omega] at h; exact rowM_base h HB.out.size), HB.out.trans (HF.out.2.mono HB.out.size)⟩
        case measure => simp [intOf]; omega
  ·obtain rfl : k = N := by omega
   have HE := Lib.hid (HEND.out S HRUN.out)
   have HB := Lib.hid hb
   obtain ⟨ao2, cp, rfl, hform⟩ := rowM_shape HROW.out
   have HFM := Lib.hid hform
   obtain ⟨wo, hwo⟩ : ∃ wo, wo = wr := ⟨_, rfl⟩
   rw [← hwo] at HB HROW HFM ⊢
   have HNC := Lib.hid (show ∀ W, Below wo.heap.size wo W → ∀ j x, (tZ S)[j]? = some x → ∀ g, ao2 = some ⟨g, 0, none⟩ → W.cell? ⟨g, j * 2, none⟩ = some (.string x.1) ∧ W.cell? ⟨g, j * 2 + 1, none⟩ = some (.string x.2) from fun W hW j x hx g hg => by
    subst hg
    have hl : j < M := by rw [← HM.out.2]; exact (List.getElem?_eq_some_iff.1 hx).1
    obtain ⟨g', e1, _, e3⟩ := HFM.out (by omega)
    cases e1
    have h1 := HROW.out.cells (g := g) rfl _ _ (cellsZ_get _ j x hx).1
    have h2 := HROW.out.cells (g := g) rfl _ _ (cellsZ_get _ j x hx).2
    rw [Addr.add_lit, Nat.zero_add] at h1 h2
    exact ⟨(hW.cell (p := ⟨g, j * 2, none⟩) e3).trans h1, (hW.cell (p := ⟨g, j * 2 + 1, none⟩) e3).trans h2⟩)
   have HTK := Lib.hid (fun j (x : QI) (hx : S[j]? = some x) => outQ_take S j x hx)
   have HLS := Lib.hid (show (outQ S).length ≤ M from by rw [← HM.out.1]; exact List.length_filter_le _ _)
   have HLT := Lib.hid (fun j => show (outQ (S.take j)).length ≤ j from Nat.le_trans (List.length_filter_le _ _) (by rw [List.length_take]; exact Nat.min_le_left _ _))
   clear hb HBAD HEND HI HRUN HMR HOK HCI hwo hform hk hlt
   go_wp2_with fail
   go_loopw [9, 10] (fun dv iv wq => ∃ j : Nat, j ≤ M ∧ iv = .int .i64 (j : Int) ∧ Hid (wq.ownsRow wo.heap.size 41 2 dv (outQ (S.take j)).length (cellsZ (tZ (outQ (S.take j))))) ∧ Below wo.heap.size wo wq) (fun _ iv _ => M - (intOf iv).toNat)
   case atStart => exact ⟨0, Nat.zero_le _, rfl, Lib.hid (World.ownsRow_nil _ _ _ _), Below.refl _ _⟩
   case round =>
    obtain ⟨j, hj, rfl, HRW, hb⟩ := hrel
    by_cases hlt : j < M
    ·obtain ⟨x, hx⟩ : ∃ x, S[j]? = some x := ⟨S[j]'(by rw [HM.out.1]; exact hlt), List.getElem?_eq_getElem _⟩
     have htx : (tZ S)[j]? = some (x.1, qstr x.2) := by unfold tZ; rw [List.getElem?_map, hx]; rfl
     obtain ⟨g, rfl, _, hgl⟩ := HFM.out (by omega)
     obtain ⟨c0, c1⟩ := HNC.out wr hb j _ htx g rfl
     have htk := HTK.out j x hx
     have hz := isZeroZ x.2
     obtain ⟨x1, q⟩ := x
     have HBR := Lib.hid hb
     obtain ⟨xo, xc, rfl, _⟩ := rowM_shape HRW.out
     clear hb hx htx
     by_cases hq : q = 0
     ·rw [decide_eq_true hq] at hz
      rw [if_pos hq, List.append_nil] at htk
      have HTJ := Lib.hid htk
      clear htk hq
      generalize qstr q = sq at *
      go_wp2_with fail
      go_roundw
      case rel => exact ⟨j + 1, by omega, by go_num, Lib.hid (by rw [HTJ.out]; exact HRW.out), HBR.out⟩
      case measure => simp [intOf]; omega
     ·rw [decide_eq_false hq] at hz
      rw [if_neg hq] at htk
      have HTJ := Lib.hid (show cellsZ (tZ (outQ (S.take (j + 1)))) = cellsZ (tZ (outQ (S.take j))) ++ [.string x1, .string (qstr q)] ∧ (outQ (S.take (j + 1))).length = (outQ (S.take j)).length + 1 from by
       rw [htk]
       constructor
       ·unfold tZ; rw [List.map_append, cellsZ_app]; rfl
       ·rw [List.length_append]; rfl)
      have HLJ := HLT.out j
      clear htk hq
      generalize qstr q = sq at *
      generalize (outQ (S.take j)).length = n at *
      go_wp2_with (at_builtin; refine wpList_append_own _ rfl _ _ 22 rfl wo.heap.size 41 i0 (.agg #[.string ⟨#[]⟩, .string ⟨#[]⟩]) 2 32 Tryz.underlying22 hi hz0 hz1 hz2 rfl (by decide) _ _ _ rfl (HRW.out.alloc _) ⟨wr.heap.size, 0, none⟩ 1 1 [.string x1, .string sq] rfl rfl (World.news_of_block (heap_alloc_new _ _)) (fun u hu => by simp at hu; rcases hu with rfl | rfl <;> rfl) ?c3 ?c4 ?c5 ?_)
      case c3 => unfold maxLen; omega
      case c4 => omega
      case c5 => have := HBR.out.size; simp; omega
      intro v' w6 hown' hgrow _
      have hlt5 := HRW.out.lt
      have HF := Lib.hid (And.intro hown' ((HBR.out.alloc HBR.out.size _).grown hgrow (by have := HBR.out.size; simp; omega) (fun q hq => (hlt5 q hq).1)))
      clear hown' hgrow hlt5
      go_wp2_with fail
      go_roundw
      case rel => exact ⟨j + 1, by omega, by go_num, Lib.hid (by rw [HTJ.out.1, HTJ.out.2]; exact HF.out.1), HF.out.2⟩
      case measure => simp [intOf]; omega
    ·obtain rfl : j = M := by omega
     have HTA := Lib.hid (show S.take j = S from List.take_of_length_le (by rw [HM.out.1]; exact Nat.le_refl _))
     have HBR := Lib.hid hb
     clear hb HNC HTK HLT
     go_wp2_with fail
     go_ret2
     exact ⟨fun S2 h => ⟨_, rfl, by rw [HE.out] at h; cases h; have h2 := HRW.out; rw [HTA.out] at h2; exact rowM_base h2 HB.out.size⟩, fun h => (by rw [HE.out] at h; cases h), HB.out.trans (HBR.out.mono HB.out.size)⟩
end

section
open Go.RowKit NV Go.Maps Go.Sort Go.Shelf
open Go.Lib (decDigits)
theorem hasZ_mem {k : List UInt8} {S : List MI} {z : MI} (hz : z ∈ S) (hk : kZ z = k) : hasZ k S = true := by
 unfold hasZ
 rw [List.any_eq_true]
 exact ⟨z, hz, decide_eq_true hk⟩
theorem tZ_len (S : List QI) : (tZ S).length = S.length := by unfold tZ; rw [List.length_map]
theorem tZ_at {S : List QI} {k : Nat} {x : QI} (h : S[k]? = some x) : (tZ S)[k]? = some (x.1, qstr x.2) := by unfold tZ; rw [List.getElem?_map, h]; rfl
structure GoodQ (D : List QI) : Prop where
 srt : SrtQ D
 ok : ∀ x, x ∈ D → QOk x.2
 pos : ∀ x, x ∈ D → 0 < x.2
def sumD (D : List QI) : Nat := sumE (qZ (tZ D)) D.length
theorem eC_good {D : List QI} (h : GoodQ D) {k : Nat} (hk : k < D.length) : eC (tZ D) k = 0 := by
 have hx : D[k]? = some D[k] := List.getElem?_eq_getElem hk
 have hm : D[k] ∈ D := List.getElem_mem hk
 rcases eC_cases (tZ_at hx) with ⟨h1, _⟩ | ⟨_, h2, _⟩ | ⟨_, _, h3, h4, _⟩ | ⟨_, _, _, h5⟩
 ·exact absurd (qstr_chk (h.ok _ hm)) h1
 ·exfalso
  have hp := h.pos _ hm
  unfold sE at h2
  rw [if_pos (qstr_chk (h.ok _ hm)), ratS_q] at h2
  have : sgnQ D[k].2 = 1 := by
   have := cmpQ_gt hp
   exact this
  omega
 ·exfalso
  have hk1 : k - 1 < D.length := by omega
  have hg := getZ_of (tZ_at (List.getElem?_eq_getElem hk1))
  rw [hg] at h4
  have h5 := List.pairwise_iff_getElem.1 h.srt (k - 1) k hk1 hk (by omega)
  exact List.not_le.2 h5 h4
 ·exact h5
theorem chk_good {D : List QI} (h : GoodQ D) : chkZ (tZ D) = sumD D := by
 unfold chkZ sumD
 rw [tZ_len, fstE_zero (fun k hk => eC_good h hk), if_neg (by omega)]
theorem ColI.nonneg {L : List MI} (hp : ∀ k, k < L.length → 0 ≤ qZ L k) : ∀ {k : Nat} {S : List QI}, k ≤ L.length → runO (colS L) [] k = some S → ∀ x, x ∈ S → 0 ≤ x.2
 | 0, S, _, h, x, hx => by obtain rfl : [] = S := Option.some.inj h; simp at hx
 | k + 1, S, hk, h, x, hx => by
  obtain ⟨s, hs⟩ := runO_some h k (by omega)
  have ih := ColI.nonneg hp (k := k) (S := s) (by omega) hs
  rw [runO_step hs] at h
  unfold colS at h
  cases ho : okQ (lookQ (kZ (getZ L k)) s + qZ L k) with
  | none => rw [ho] at h; cases h
  | some r =>
   rw [ho] at h
   obtain rfl : setQ (getZ L k).1 r s = S := by simpa using h
   obtain ⟨e, _⟩ := okQ_some ho
   rcases setQ_mem hx with rfl | hx
   ·show 0 ≤ r
    rw [← e]
    have h0 := hp k (by omega)
    rcases lookQ_in (k := kZ (getZ L k)) (S := s) with h1 | ⟨y, hy, _, h1⟩
    ·rw [h1]; grind
    ·have := ih y hy
     rw [h1]; grind
   ·exact ih x hx
theorem srt_filter {S : List QI} (h : SrtQ S) : SrtQ (outQ S) := List.Pairwise.sublist List.filter_sublist h
theorem good_out {L : List MI} (hp : ∀ k, k < L.length → 0 ≤ qZ L k) {S : List QI} (h : colO L = some S) : GoodQ (outQ S) := by
 have hi := ColI.run (Nat.le_refl _) h
 have hn := ColI.nonneg hp (Nat.le_refl _) h
 refine ⟨srt_filter hi.srt, fun x hx => hi.ok x (List.mem_filter.1 hx).1, fun x hx => ?_⟩
 have h1 := hn x (List.mem_filter.1 hx).1
 have h2 : x.2 ≠ 0 := of_decide_eq_true (List.mem_filter.1 hx).2
 rcases Rat.le_iff_lt_or_eq.1 h1 with h3 | h3
 ·exact h3
 ·exact absurd h3.symm h2
def mkE (L : List MI) : Nat :=
 if fstE (eN L) L.length ≠ 0 then fstE (eN L) L.length else
 match colO L with
 | none => 5
 | some S => sumD (outQ S)
theorem eN_ok {L : List MI} (h : fstE (eN L) L.length = 0) : OKM L ∧ ∀ k, k < L.length → 0 ≤ qZ L k := by
 have h1 := fstE_all h
 have h2 : ∀ k, k < L.length → rchk (getZ L k).2 = 0 ∧ 0 ≤ qZ L k := fun k hk => by
  have h3 := h1 k hk
  unfold eN eS at h3
  by_cases h4 : rchk (getZ L k).2 = 0
  ·rw [if_neg (by omega)] at h3
   refine ⟨h4, ?_⟩
   by_cases h5 : sgnQ (ratS (getZ L k).2) < 0
   ·rw [if_pos h5] at h3; omega
   ·have h6 : cmpQ 0 (ratS (getZ L k).2) ≤ 0 := by rw [cmpQ_neg]; unfold sgnQ at h5; omega
    exact cmpQ_le.1 h6
  ·rw [if_pos h4] at h3; exact absurd h3 h4
 refine ⟨fun x hx => ?_, fun k hk => (h2 k hk).2⟩
 obtain ⟨k, hk, rfl⟩ := List.mem_iff_getElem.1 hx
 have := (h2 k hk).1
 rw [getZ_of (List.getElem?_eq_getElem hk)] at this
 exact this
end

section
open Go.RowKit NV Go.Maps Go.Sort Go.Shelf
open Go.Lib (decDigits)
def MkP (L : List MI) (w : World) (e : Ending) (w' : World) : Prop :=
 (mkE L ≠ 0 → e = .returned (.tuple #[.slice none 0 0, .int .i64 ((mkE L : Nat) : Int)])) ∧
 (mkE L = 0 → ∃ S v, colO L = some S ∧ GoodQ (outQ S) ∧ sumD (outQ S) = 0 ∧ e = .returned (.tuple #[v, .int .i64 0]) ∧ w'.ownsRow w.heap.size 41 2 v (outQ S).length (cellsZ (tZ (outQ S)))) ∧ Below w.heap.size w w'
theorem mkE_bad {L : List MI} {k : Nat} (hk : k < L.length) (h0 : fstE (eN L) k = 0) (h1 : eN L k ≠ 0) : mkE L = eN L k := by
 unfold mkE
 rw [fstE_at h0 h1 hk, if_pos h1]
theorem mkE_col {L : List MI} (h0 : fstE (eN L) L.length = 0) : mkE L = match colO L with | none => 5 | some S => sumD (outQ S) := by
 unfold mkE
 rw [if_neg (by omega)] <;> rfl
set_option maxHeartbeats 3200000 in
set_option maxRecDepth 100000 in
theorem rMake_any {L : List MI} {N cap : Nat} {ao : Option Addr} {w : World} (hr : MR w ao N L) (hN : N ≤ 1000) (hl : ML2 L) :
  Calls Tryz.prog 17 #[.slice ao N cap] w (MkP L w) := by
 have hlen := hr.len
 have HR := Lib.hid hr
 have HL := Lib.hid hl
 have HBAD := Lib.hid (show ∀ k, k < N → fstE (eN L) k = 0 → eN L k ≠ 0 → mkE L = eN L k from fun k hk h0 h1 => mkE_bad (by omega) h0 h1)
 have HCOL := Lib.hid (show fstE (eN L) N = 0 → OKM L ∧ (∀ k, k < L.length → 0 ≤ qZ L k) ∧ mkE L = (match colO L with | none => 5 | some S => sumD (outQ S)) from fun h0 => ⟨(eN_ok (by rw [hlen]; exact h0)).1, (eN_ok (by rw [hlen]; exact h0)).2, mkE_col (by rw [hlen]; exact h0)⟩)
 have HSZ := Lib.hid (show fstE (eN L) N = 0 → ∀ S (z : QI), colO L = some S → z ∈ outQ S → z.1.size ≤ 1000000 ∧ (qstr z.2).size ≤ 1000000 from fun h0 S z hS hz => by
  have hi := ColI.run (Nat.le_refl _) hS
  have hz := (List.mem_filter.1 hz).1
  obtain ⟨y, hy, e⟩ := hi.key z hz
  exact ⟨by rw [e]; exact (hl y hy).1, Nat.le_trans (qstr_size (hi.ok z hz)) (by omega)⟩)
 unfold MkP
 obtain ⟨c, hc⟩ : ∃ c, c = mkE L := ⟨_, rfl⟩
 rw [← hc]
 have HC := Lib.hid hc
 clear hr hl hc hlen
 go_enter Tryz.func17, Tryz.ntmps17
 go_wp2_with fail
 go_loopw [4] (fun iv wr => ∃ k : Nat, k ≤ N ∧ iv = .int .i64 (k : Int) ∧ Hid (fstE (eN L) k = 0) ∧ Below w.heap.size w wr) (fun iv _ => N - (intOf iv).toNat)
 case atStart => exact ⟨0, Nat.zero_le _, rfl, Lib.hid rfl, Below.refl _ _⟩
 case round =>
  obtain ⟨k, hk, rfl, H0, hb⟩ := hrel
  by_cases hlt : k < N
  ·obtain ⟨a, x, rfl, hx, _, c0, c1⟩ := (HR.out.below hb).at hlt
   have HE := Lib.hid (show eN L k = eS x.2 from by unfold eN; rw [getZ_of hx])
   have HBK := Lib.hid (HBAD.out k hlt H0.out)
   have HNX := Lib.hid (fstE_step H0.out)
   have hsz := (HL.out x (List.mem_of_getElem? hx)).2
   have HB := Lib.hid hb
   have HS := Lib.hid (rSign_any x.2 (by omega) wr)
   have HEI := Lib.hid (eS_is x.2)
   obtain ⟨x1, x2⟩ := x
   clear hb hx HBAD HCOL HR HL hsz
   rw [HE.out] at HBK HNX
   generalize eS x2 = d at *
   generalize sE x2 = sg at *
   clear HE
   by_cases h0 : rchk x2 = 0
   ·rw [h0] at HS HEI
    simp only [ne_eq, not_true_eq_false, if_false] at HEI
    by_cases hs : sg < 0
    ·rw [if_pos hs] at HEI
     obtain rfl := HEI.out
     have HCE := Lib.hid (show c = 2 from by rw [HC.out, HBK.out (by omega)])
     clear h0 HBK HNX HEI
     go_wp2_with fail
     refine HS.out.mono ?_
     rintro e w1 ⟨rfl, hb1⟩
     have HB2 := Lib.hid (HB.out.trans (hb1.mono HB.out.size))
     clear hb1 HS HB
     go_wp2_with fail
     go_ret2
     exact ⟨fun _ => by rw [HCE.out]; rfl, fun h => (by rw [HCE.out] at h; omega), HB2.out⟩
    ·rw [if_neg hs] at HEI
     obtain rfl := HEI.out
     clear h0 HBK HEI
     go_wp2_with fail
     refine HS.out.mono ?_
     rintro e w1 ⟨rfl, hb1⟩
     have HB2 := Lib.hid (HB.out.trans (hb1.mono HB.out.size))
     clear hb1 HS HB
     go_wp2_with fail
     go_roundw
     case rel => exact ⟨k + 1, by omega, by go_num, HNX, HB2.out⟩
     case measure => simp [intOf]; omega
   ·have hz := errneZ h0
    rw [if_pos h0] at HEI
    obtain rfl := HEI.out
    have HCE := Lib.hid (show c = rchk x2 ∧ c ≠ 0 from by rw [HC.out, HBK.out h0]; exact ⟨rfl, h0⟩)
    generalize rchk x2 = d at *
    clear h0 HBK HNX HEI
    go_wp2_with fail
    refine HS.out.mono ?_
    rintro e w1 ⟨rfl, hb1⟩
    have HB2 := Lib.hid (HB.out.trans (hb1.mono HB.out.size))
    clear hb1 HS HB
    go_wp2_with fail
    go_ret2
    exact ⟨fun _ => by rw [HCE.out.1]; rfl, fun h => absurd h HCE.out.2, HB2.out⟩
  ·obtain rfl : k = N := by omega
   obtain ⟨h1, h2, h3⟩ := HCOL.out H0.out
   have HB := Lib.hid hb
   have HF := Lib.hid (rcollect_any (cap := cap) (HR.out.below hb) hN h1)
   have HSZ2 := Lib.hid (HSZ.out H0.out)
   have HGD := Lib.hid (fun S (h : colO L = some S) => good_out h2 h)
   rw [h3] at HC
   have hnl : ∀ S, colO L = some S → (outQ S).length ≤ k := fun S h => by
    have h4 := (ColI.run (Nat.le_refl _) h).len
    rw [HR.out.len] at h4
    exact Nat.le_trans (List.length_filter_le _ _) h4
   clear hb HBAD HCOL HR HL h1 h2 h3 H0
   cases hcol : colO L with
   | none =>
    rw [hcol] at HC HF
    obtain rfl : c = 5 := HC.out
    clear HC HGD hcol hnl
    go_wp2_with fail
    refine HF.out.mono ?_
    rintro e w1 ⟨_, h2, hb⟩
    obtain rfl := h2 (by first | rfl | trivial)
    have HB2 := Lib.hid (HB.out.trans (hb.mono HB.out.size))
    clear hb h2 HF HB
    go_wp2_with fail
    go_ret2
    exact ⟨fun _ => rfl, fun h => (by omega), HB2.out⟩
   | some S =>
    rw [hcol] at HC HF
    have HCS := Lib.hid (show c = sumD (outQ S) from HC.out)
    have HCL := Lib.hid hcol
    have HG := Lib.hid (HGD.out S hcol)
    have HSZ3 := Lib.hid (fun z => HSZ2.out S z hcol)
    have hnS := hnl S hcol
    clear HC HGD hcol hnl HSZ HSZ2
    go_wp2_with fail
    refine HF.out.mono ?_
    rintro e w1 ⟨h1, _, hb⟩
    obtain ⟨v, rfl, hrow⟩ := h1 S (by first | rfl | trivial)
    have HB2 := Lib.hid (HB.out.trans (hb.mono HB.out.size))
    obtain ⟨vo, vc, rfl, hmr⟩ := MR.own hrow (tZ_len _)
    have HROW := Lib.hid hrow
    have HCK := Lib.hid (rCheck_any (cap := vc) hmr (by omega) (fun y hy => by
     obtain ⟨z, hz, rfl⟩ := List.mem_map.1 hy
     exact HSZ3.out z hz))
    have HCK2 := Lib.hid (show chkZ (tZ (outQ S)) = c from (chk_good HG.out).trans HCS.out.symm)
    rw [HCK2.out] at HCK
    clear h1 hb hrow hmr HF HCK2
    by_cases h0 : c = 0
    ·obtain rfl := h0
     go_wp2_with fail
     refine HCK.out.mono ?_
     rintro e w2 ⟨rfl, hb⟩
     have HB3 := Lib.hid (HB2.out.trans (hb.mono HB2.out.size))
     have HRF := Lib.hid (rowM_base (rowM_below HROW.out hb) HB.out.size)
     clear hb HCK HB2 HROW
     go_wp2_with fail
     go_ret2
     exact ⟨⟨S, HCL.out, HG.out, HCS.out.symm, _, rfl, HRF.out⟩, HB3.out⟩
    ·have hz := errneZ h0
     have H0 := Lib.hid h0
     clear h0
     go_wp2_with fail
     refine HCK.out.mono ?_
     rintro e w2 ⟨rfl, hb⟩
     have HB3 := Lib.hid (HB2.out.trans (hb.mono HB2.out.size))
     clear hb HCK HB2 HROW
     go_wp2_with fail
     go_ret2
     exact ⟨fun _ => rfl, fun h => absurd h H0.out, HB3.out⟩
end

section
open Go.RowKit NV Go.Maps Go.Sort Go.Shelf
open Go.Lib (decDigits)
theorem srt_of {L : List MI} (h : ∀ k, k + 1 < L.length → kZ (getZ L k) < kZ (getZ L (k + 1))) : SrtZ L := by
 refine List.pairwise_iff_getElem.2 fun i j hi hj hij => ?_
 have key : ∀ d, i + 1 + d < L.length → kZ (getZ L i) < kZ (getZ L (i + 1 + d)) := by
  intro d
  induction d with
  | zero => exact fun hd => h i hd
  | succ d ih => exact fun hd => List.lt_trans (ih (by omega)) (h (i + 1 + d) hd)
 have h2 := key (j - i - 1) (by omega)
 rw [show i + 1 + (j - i - 1) = j by omega, getZ_of (List.getElem?_eq_getElem hi), getZ_of (List.getElem?_eq_getElem hj)] at h2
 exact h2
theorem chk_ok {L : List MI} (h : chkZ L = 0) : OKM L ∧ SrtZ L ∧ sumE (qZ L) L.length = 0 ∧ ∀ k, k < L.length → 0 < qZ L k := by
 unfold chkZ at h
 by_cases h0 : fstE (eC L) L.length = 0
 ·rw [if_neg (by omega)] at h
  refine ⟨okm_of h0, srt_of fun k hk => ?_, h, fun k hk => ?_⟩
  ·have h1 := fstE_all h0 (k + 1) hk
   rcases eC_cases (List.getElem?_eq_getElem hk) with ⟨h2, h3⟩ | ⟨_, _, h3⟩ | ⟨_, _, _, _, h3⟩ | ⟨_, _, h3, _⟩
   ·omega
   ·omega
   ·omega
   ·have h4 := h3.resolve_left (by omega)
    rw [Nat.add_sub_cancel] at h4
    rw [getZ_of (List.getElem?_eq_getElem hk)]; exact h4
  ·have h1 := fstE_all h0 k hk
   have hx : L[k]? = some L[k] := List.getElem?_eq_getElem hk
   rcases eC_cases hx with ⟨h2, h3⟩ | ⟨_, _, h3⟩ | ⟨_, _, _, _, h3⟩ | ⟨h2, h3, _⟩
   ·omega
   ·omega
   ·omega
   ·unfold sE at h3
    rw [if_pos h2] at h3
    unfold qZ
    rw [getZ_of hx]
    have h5 : ¬ cmpQ (ratS L[k].2) 0 ≤ 0 := h3
    rw [cmpQ_le] at h5
    exact Rat.not_le.1 h5
 ·rw [if_pos h0] at h; exact absurd h h0
def vQ (Q : List MI) (key : List UInt8) : Rat := ratS (valZ key Q)
theorem rat0Z : ratS ⟨#[48]⟩ = 0 := by rw [← q0Z, ratS_q]
theorem vQ_ok {Q : List MI} (h : OKM Q) (key : List UInt8) : valZ key Q = qstr (vQ Q key) ∧ QOk (vQ Q key) := by
 unfold vQ
 cases hh : hasZ key Q with
 | true =>
  obtain ⟨x, hx, _, e⟩ := val_mem hh
  rw [e]; exact ratS_ok (h x hx)
 | false => rw [val_no hh, rat0Z, q0Z]; exact ⟨rfl, qok_0⟩
def bE (P Q : List MI) : Nat := if chkZ P ≠ 0 then chkZ P else chkZ Q
theorem Mul_oQ (p q : Rat) (hp : QOk p) (hq : QOk q) (w : World) (htab : Tab w) (hm : ML w) :
  Calls Tryz.prog 84 #[.string (qstr p), .string (qstr q)] w (PR (oQ (okQ (p * q))) w) := by
 have h := Mul_q p q hp hq w htab hm
 unfold RQ at h
 rw [wQ_oQ] at h
 exact h
theorem runF_ok {g : Nat → Rat → Option Rat} (hg : ∀ k s t, QOk s → g k s = some t → QOk t) : ∀ {k : Nat} {s : Rat}, runO g 0 k = some s → QOk s
 | 0, s, h => by obtain rfl : (0 : Rat) = s := Option.some.inj h; exact qok_0
 | k + 1, s, h => by
  obtain ⟨s0, h0⟩ := runO_some h k (by omega)
  rw [runO_step h0] at h
  exact hg _ _ _ (runF_ok hg h0) h
end

section
open Go.RowKit NV Go.Maps Go.Sort Go.Shelf
open Go.Lib (decDigits)
theorem bE_zero {P Q : List MI} (h : bE P Q = 0) : chkZ P = 0 ∧ chkZ Q = 0 := by
 unfold bE at h
 by_cases h0 : chkZ P = 0
 ·rw [if_neg (by omega)] at h; exact ⟨h0, h⟩
 ·rw [if_pos h0] at h; exact absurd h h0
end

section
open Go.RowKit NV Go.Maps Go.Sort Go.Shelf
open Go.Lib (decDigits)
def allZ (P Q : List MI) : Bool := P.all fun x => hasZ (kZ x) Q
def cmpO (g : Rat → Rat → Rat → Option Rat) (P Q : List MI) : Option Rat := runO (fun k s => g s (qZ P k) (vQ Q (kZ (getZ P k)))) 0 P.length
def cmpR (g : Rat → Rat → Rat → Option Rat) (P Q : List MI) : ByteArray × Bool × Nat :=
 if allZ P Q then ((oQ (cmpO g P Q)).1, (cmpO g P Q).isSome, (oQ (cmpO g P Q)).2) else (⟨#[]⟩, false, 0)
def TR (T : ByteArray × Bool × Nat) (w : World) (e : Ending) (w' : World) : Prop := e = .returned (.tuple #[.string T.1, .bool T.2.1, .int .i64 ((T.2.2 : Nat) : Int)]) ∧ Below w.heap.size w w'
end

end Go.Proofs.YtjpepjooefkbkaaGreatDoor
