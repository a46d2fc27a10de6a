/-
  The reference of layer 8: collect.
-/
import Derived.Test.YtofanopnibbaeaaGreatDoorZ7
import Derived.OrdersHeld
import Derived.Deep.AppendLies
import Derived.Laws.OwnMore
import Derived.Maps.AppendAt
import Derived.Sort.Walk0
namespace Go.Proofs.YtofanopnibbaeaaGreatDoor
open Go.RowKit NV
open Go.Lib (decDigits)

section
variable {P : Program} {ops : Array Oper} {Q : Exit → Act → World → Prop} {md : Region.Mode} {S : World → Prop}
theorem wpHz_one {i fuel : Nat} {l : Array Bool} {a : Act} {w : World} (hr : Region.ready md ops l = [i]) (h : wpOp P ops Q i (fun a' w' => S w' ∧ wpAnyH P md ops Q S fuel (l.setIfInBounds i true) a' w') a w) : wpAnyH P md ops Q S (fuel + 1) l a w :=
  wpAnyH_all hr (by simp) fun j hj => by
    rw [List.mem_singleton] at hj
    subst hj; exact h
theorem wpHz_two {i j fuel : Nat} {l : Array Bool} {a : Act} {w : World} (hr : Region.ready md ops l = [i, j]) (h : wpOp P ops Q i (fun a' w' => S w' ∧ wpAnyH P md ops Q S fuel (l.setIfInBounds i true) a' w') a w) (h2 : wpOp P ops Q j (fun a' w' => S w' ∧ wpAnyH P md ops Q S fuel (l.setIfInBounds j true) a' w') a w) : wpAnyH P md ops Q S (fuel + 1) l a w :=
  wpAnyH_all hr (by simp) fun k hk => by
    rcases List.mem_cons.1 hk with rfl | hk
    · exact h
    · rw [List.mem_singleton] at hk
      subst hk; exact h2
theorem wpHz_take {i : Nat} {oi : Oper} {v : Value} {d fuel : Nat} {listed : Array Bool} {a : Act} {w : World} (hi : ops[i]? = some oi) (hd : oi.dst = some d)
    (hs : Region.noSelect ops = true) (hf : Region.free md ops listed i = true) (hr : (Region.ready md ops listed).contains i = true)
    (hQ : ∀ c a w, Q (.panic c) (a.put (some d) v) w → Q (.panic c) a w) (hg : oi.guard = none) (hy : ∀ w, S w → (execOp a.eval oi).run P w = .ok (.value v) w) (hS : S w)
    (h : wpAnyH P md ops Q S fuel (listed.setIfInBounds i true) (a.put (some d) v) w) : wpAnyH P md ops Q S (fuel + 1) listed a w :=
  wpAnyH_take hi hs hf hr (hd ▸ hQ) (.inl ⟨by simp [Region.wanted, hg], hy⟩) hS (hd ▸ h)
theorem wpOz_run {i : Nat} {o : Oper} {K : Act → World → Prop} {a : Act} {w : World} (hi : ops[i]? = some o) (hg : o.guard = none) (h : Oper.wp P o a w K Q) : wpOp P ops Q i K a w := by
  unfold wpOp
  simp only [hi]
  rw [if_pos (by simp [Region.wanted, hg])]
  exact .inl h
theorem wpz_value {o : Oper} {K : Act → World → Prop} {a : Act} {w w' : World} {v : Value} {d : Nat} (hd : o.dst = some d) (h : (execOp a.eval o).run P w = .ok (.value v) w') (hK : K (a.put (some d) v) w') : Oper.wp P o a w K Q := by
  unfold Oper.wp
  rw [h]
  simp only [Oper.upon, hd]; exact hK
/-- append, what is appended may be nothing. -/
theorem wpz_append_rowX {w : World} {o : Oper} {a : Act} {K : Act → World → Prop} (s x : Operand) (t : TypeId) {d : Nat} (hd : o.dst = some d)
    (ho : o.op = .call { callee := .builtin .append, args := #[s, x], argTypes := #[t, t] })
    (base : Nat) (e : TypeId) (i : TypeInfo) (z : Value) (size bytes : Nat) (ht : P.underlying t = some (.slice e)) (hi : P.info? e = some i) (hz : i.zero = some z)
    (hsize : i.size = size) (hby : i.bytes = bytes) (hzs : z.cells.size = size) (hsz : 0 < size)
    (v : Value) (n : Nat) (xs : List Value) (hs : a.eval s = v) (hown : w.ownsRow base e size v n xs)
    (ao : Option Addr) (m c : Nat) (news : List Value) (hx : a.eval x = .slice ao m c) (hl : news.length = m * size) (hnews : ∀ ad, ao = some ad → ∀ j u, news[j]? = some u → w.cell? (ad.add j) = some u) (hnone : ao = none → m = 0 ∧ c = 0) (h1 : ∀ u ∈ news, u.oneCell' = true)
    (h63 : n + m ≤ maxLen) (hbytes : (n + m) * bytes ≤ 140737488355328) (hbase : base ≤ w.heap.size)
    (h : ∀ v' w', w'.ownsRow base e size v' (n + m) (xs ++ news) → w.grownBy w' v.ownBlock → (v'.ownBlock = v.ownBlock ∨ v'.ownBlock = some w.heap.size) → K (a.put (some d) v') w') :
    Oper.wp P o a w K Q := by
  cases ao with
  | none =>
    obtain ⟨rfl, rfl⟩ := hnone rfl
    have hr := run_append_owned_none (P := P) (w := w) base t o.type e i size ht hi v n xs hown
    obtain rfl : news = [] := by
      cases news with
      | nil => rfl
      | cons _ _ => simp at hl
    unfold Oper.wp execOp
    simp only [Oper.upon, ho, hd, resolve, invoke, builtin, Sem.run_bind, Sem.run_pure, Result.andThen_ok, List.map_toArray, List.map_cons, List.map_nil, hs, hx, hr]
    exact h v w (by rw [List.append_nil]; exact hown) ⟨rfl, rfl, rfl, Nat.le_refl _, fun _ _ _ => rfl⟩ (.inl rfl)
  | some ad =>
    obtain ⟨v', w', hr, h2, h3, _, h5⟩ := run_append_own_at (P := P) w base t o.type e i z size bytes ht hi hz hsize hby hzs hsz v n xs hown ad m c news hl (hnews ad rfl) h1 h63 hbytes hbase
    unfold Oper.wp execOp
    simp only [Oper.upon, ho, hd, resolve, invoke, builtin, Sem.run_bind, Sem.run_pure, Result.andThen_ok, List.map_toArray, List.map_cons, List.map_nil, hs, hx, hr]
    exact h v' w' h2 h3 h5
theorem wpz_enter {o : Oper} {K : Act → World → Prop} {a : Act} {w : World} {f : FuncId} {args : Array Value} {d : Nat} (hd : o.dst = some d) (h : (execOp a.eval o).run P w = .ok (.enter f args) w)
    (hC : Calls P f args w fun e w' => ∃ v, e = .returned v ∧ K (a.put (some d) v) w') : Oper.wp P o a w K Q := by
  unfold Oper.wp
  rw [h]
  simp only [Oper.upon]
  refine hC.mono ?_
  rintro e w' ⟨v, rfl, hK⟩
  rw [hd]; exact hK
theorem wp_world {c : Code} {a : Act} {w wo : World} {B : Nat} {R : Exit → Act → World → Prop} (hb : Below B wo w) (h : ∀ W, Below B wo W → c.wp P R a W) : c.wp P R a w := h w hb
end


/-- In the middle of Add: a row of the call's own, and the block of the new outcome. -/
structure InsS (w W : World) (v : Value) (n : Nat) (xs : List Value) (B : Nat) (key p : ByteArray) : Prop where
  below : Below w.heap.size w W
  row : W.ownsRow w.heap.size 29 2 v n xs
  blk : W.heap[B]? = some (.cells #[.string key, .string p] 29 (0, 0))
  ne : v.ownBlock ≠ some B
/-- The row alone. -/
structure InsR (w W : World) (v : Value) (n : Nat) (xs : List Value) : Prop where
  below : Below w.heap.size w W
  row : W.ownsRow w.heap.size 29 2 v n xs
/-- The block alone. -/
structure InsB (w W : World) (B : Nat) (key p : ByteArray) : Prop where
  below : Below w.heap.size w W
  blk : W.heap[B]? = some (.cells #[.string key, .string p] 29 (0, 0))
theorem InsR.lit {w W : World} (h : Below w.heap.size w W) : InsR w (W.alloc (.cells #[] 29)) (.slice (some ⟨W.heap.size, 0, none⟩) 0 0) 0 [] :=
  ⟨h.alloc h.size _, World.ownsRow_lit W #[] 0 h.size (by unfold maxLen; omega) rfl⟩
theorem InsB.lit {w W : World} {B : Nat} {key p : ByteArray} (h : InsB w W B key p) : InsS w (W.alloc (.cells #[] 29)) (.slice (some ⟨W.heap.size, 0, none⟩) 0 0) 0 [] B key p := by
  have hlt : B < W.heap.size := (Array.getElem?_eq_some_iff.1 h.blk).1
  refine ⟨(InsR.lit h.below).below, (InsR.lit h.below).row, (Below.heap_alloc _ _ _ hlt).trans h.blk, ?_⟩
  intro e
  have : W.heap.size = B := by simpa [Value.ownBlock] using e
  omega
theorem InsB.new {w W : World} (key p : ByteArray) (h : Below w.heap.size w W) : InsB w (W.alloc (.cells #[.string key, .string p] 29)) W.heap.size key p :=
  ⟨h.alloc h.size _, heap_alloc_new _ _⟩
theorem InsR.new {w W : World} {v : Value} {n : Nat} {xs : List Value} (key p : ByteArray) (h : InsR w W v n xs) : InsS w (W.alloc (.cells #[.string key, .string p] 29)) v n xs W.heap.size key p :=
  ⟨h.below.alloc h.below.size _, h.row.alloc _, heap_alloc_new _ _, fun e => by have := (h.row.lt _ e).2; omega⟩
theorem InsR.grown {w W W' : World} {v v' : Value} {n n' : Nat} {xs xs' : List Value} (h : InsR w W v n xs) (hr : W'.ownsRow w.heap.size 29 2 v' n' xs') (hg : W.grownBy W' v.ownBlock) : InsR w W' v' n' xs' :=
  ⟨h.below.grown hg h.below.size (fun b hb => (h.row.lt b hb).1), hr⟩
theorem InsS.row1 {w W : World} {v : Value} {n : Nat} {xs : List Value} {B : Nat} {key p : ByteArray} (h : InsS w W v n xs B key p) : InsR w W v n xs := ⟨h.below, h.row⟩
theorem InsS.grown {w W W' : World} {v v' : Value} {n n' : Nat} {xs xs' : List Value} {B : Nat} {key p : ByteArray} (h : InsS w W v n xs B key p) (hr : W'.ownsRow w.heap.size 29 2 v' n' xs') (hg : W.grownBy W' v.ownBlock) (ho : v'.ownBlock = v.ownBlock ∨ v'.ownBlock = some W.heap.size) : InsS w W' v' n' xs' B key p := by
  have hlt : B < W.heap.size := (Array.getElem?_eq_some_iff.1 h.blk).1
  refine ⟨(h.row1.grown hr hg).below, hr, (hg.block B hlt (Ne.symm h.ne)).trans h.blk, fun e => ?_⟩
  rcases ho with ho | ho
  · exact h.ne (ho ▸ e)
  · rw [ho] at e
    have : W.heap.size = B := by simpa using e
    omega

/-- Where a key belongs. -/
def posZ (k : List UInt8) : List MI → Nat
  | [] => 0
  | y :: r => if kZ y < k then posZ k r + 1 else 0
theorem posZ_le (k : List UInt8) : ∀ S : List MI, posZ k S ≤ S.length
  | [] => Nat.le_refl _
  | y :: r => by
    unfold posZ
    have := posZ_le k r
    split
    · simp; exact this
    · exact Nat.zero_le _
theorem posZ_lt {k : List UInt8} : ∀ {S : List MI} {j : Nat} {x : MI}, j < posZ k S → S[j]? = some x → kZ x < k
  | [], j, x, h, _ => absurd h (Nat.not_lt_zero _)
  | y :: r, j, x, h, hx => by
    unfold posZ at h
    by_cases hy : kZ y < k
    · rw [if_pos hy] at h
      cases j with
      | zero => obtain rfl : y = x := by simpa using hx
                exact hy
      | succ j => exact posZ_lt (S := r) (j := j) (by omega) (by simpa using hx)
    · rw [if_neg hy] at h; exact absurd h (Nat.not_lt_zero _)
theorem posZ_at {k : List UInt8} : ∀ {S : List MI} {x : MI}, S[posZ k S]? = some x → ¬ kZ x < k
  | [], x, h => by simp at h
  | y :: r, x, h => by
    unfold posZ at h
    by_cases hy : kZ y < k
    · rw [if_pos hy] at h
      exact posZ_at (S := r) (by simpa using h)
    · rw [if_neg hy] at h
      obtain rfl : y = x := by simpa using h
      exact hy
theorem set_new {k t : ByteArray} : ∀ {S : List MI}, (∀ x, S[posZ k.data.toList S]? = some x → kZ x ≠ k.data.toList) → setZ k t S = S.take (posZ k.data.toList S) ++ [(k, t)] ++ S.drop (posZ k.data.toList S)
  | [], _ => rfl
  | y :: r, h => by
    unfold posZ at h ⊢
    unfold setZ
    by_cases hy : kZ y < k.data.toList
    · rw [if_pos hy] at h ⊢
      rw [if_neg (fun h2 => List.lt_irrefl _ (List.lt_trans hy h2)), if_neg (fun h2 => List.lt_irrefl _ (by rw [← h2] at hy; exact hy))]
      rw [set_new (S := r) (fun x hx => h x (by simpa using hx))]
      rfl
    · rw [if_neg hy] at h ⊢
      have h1 : kZ y ≠ k.data.toList := h y rfl
      rw [if_pos ((List.le_iff_lt_or_eq.1 (List.not_lt.1 hy)).resolve_right (fun e => h1 e.symm))]
      rfl
theorem set_old {k t : ByteArray} : ∀ {S : List MI} {x : MI}, S[posZ k.data.toList S]? = some x → kZ x = k.data.toList → setZ k t S = S.set (posZ k.data.toList S) (k, t)
  | [], x, h, _ => by simp at h
  | y :: r, x, h, hx => by
    unfold posZ at h ⊢
    unfold setZ
    by_cases hy : kZ y < k.data.toList
    · rw [if_pos hy] at h ⊢
      rw [if_neg (fun h2 => List.lt_irrefl _ (List.lt_trans hy h2)), if_neg (fun h2 => List.lt_irrefl _ (by rw [← h2] at hy; exact hy))]
      rw [set_old (S := r) (by simpa using h) hx]
      rfl
    · rw [if_neg hy] at h ⊢
      obtain rfl : y = x := by simpa using h
      rw [if_neg (by rw [hx]; exact List.lt_irrefl _), if_pos hx.symm]
      rfl
theorem cellsZ_set : ∀ (S : List MI) (p : Nat) (x : MI) (t : ByteArray), S[p]? = some x → cellsZ (S.set p (x.1, t)) = (cellsZ S).set (p * 2 + 1) (.string t)
  | [], p, x, t, h => by simp at h
  | y :: r, 0, x, t, h => by
    obtain rfl : y = x := by simpa using h
    unfold cellsZ
    rw [List.set_cons_zero, List.flatMap_cons, List.flatMap_cons]; rfl
  | y :: r, p + 1, x, t, h => by
    have ih := cellsZ_set r p x t (by simpa using h)
    have e : ∀ l, cellsZ (y :: l) = [.string y.1, .string y.2] ++ cellsZ l := fun l => by unfold cellsZ; rw [List.flatMap_cons]
    rw [List.set_cons_succ, e, e, ih, Nat.succ_mul]
    rfl
theorem cellsZ_len : ∀ l : List MI, (cellsZ l).length = l.length * 2
  | [] => rfl
  | a :: l => by
    have e : cellsZ (a :: l) = [.string a.1, .string a.2] ++ cellsZ l := by unfold cellsZ; rw [List.flatMap_cons]
    rw [e, List.length_append, cellsZ_len l, List.length_cons]; simp; omega
theorem cellsZ_one : ∀ (l : List MI), ∀ u ∈ cellsZ l, u.oneCell' = true := fun l u hu => by
  unfold cellsZ at hu
  obtain ⟨x, _, hx⟩ := List.mem_flatMap.1 hu
  simp at hx
  rcases hx with rfl | rfl <;> rfl
/-- Collecting a key that is not there. -/
theorem colS_new {L : List MI} {k : Nat} {S : List QI} {x : MI} (hx : L[k]? = some x) (hok : OKM L) (hp : ∀ y, (tZ S)[posZ (kZ x) (tZ S)]? = some y → kZ y ≠ kZ x) (hs : SrtQ S) :
    ∃ S', colS L k S = some S' ∧ tZ S' = (tZ S).take (posZ (kZ x) (tZ S)) ++ [x] ++ (tZ S).drop (posZ (kZ x) (tZ S)) := by
  obtain ⟨h1, h2⟩ := hok.at hx
  have h0 : lookQ (kZ x) S = 0 := by
    rcases lookQ_in (k := kZ x) (S := S) with h | ⟨y, hy, he, _⟩
    · exact h
    · exfalso
      obtain ⟨j, hj, rfl⟩ := List.mem_iff_getElem.1 hy
      have hjt : (tZ S)[j]? = some (S[j].1, qstr S[j].2) := by unfold tZ; rw [List.getElem?_map, List.getElem?_eq_getElem hj]; rfl
      rcases Nat.lt_trichotomy j (posZ (kZ x) (tZ S)) with h | h | h
      · have := posZ_lt h hjt
        exact List.lt_irrefl _ (he ▸ this)
      · exact hp (S[j].1, qstr S[j].2) (by rw [← h]; exact hjt) he
      · have hpl : posZ (kZ x) (tZ S) < (tZ S).length := by unfold tZ at h ⊢; rw [List.length_map]; omega
        have hz : (tZ S)[posZ (kZ x) (tZ S)]? = some ((tZ S)[posZ (kZ x) (tZ S)]'hpl) := List.getElem?_eq_getElem hpl
        have h3 := posZ_at hz
        have h4 := List.pairwise_iff_getElem.1 (srt_t.2 hs) _ j hpl (by unfold tZ; rw [List.length_map]; exact hj) h
        have e5 : (tZ S)[j]'(by unfold tZ; rw [List.length_map]; exact hj) = (S[j].1, qstr S[j].2) := Option.some.inj ((List.getElem?_eq_getElem _).symm.trans hjt)
        have h5 : kZ ((tZ S)[posZ (kZ x) (tZ S)]'hpl) < kZ (S[j].1, qstr S[j].2) := by rw [← e5]; exact h4
        have e6 : kZ (S[j].1, qstr S[j].2) = kZ x := he
        generalize kZ (S[j].1, qstr S[j].2) = u at h5 e6
        subst e6
        exact h3 h5
  have hq : (0 : Rat) + qZ L k = qZ L k := Rat.zero_add _
  refine ⟨setQ x.1 (qZ L k) S, ?_, ?_⟩
  · unfold colS
    rw [getZ_of hx, h0, hq, okQ_yes h2]; rfl
  · rw [← set_t, ← h1]
    exact set_new (k := x.1) (t := x.2) hp
/-- Collecting a key that is there. -/
theorem colS_old {L : List MI} {k : Nat} {S : List QI} {x y : MI} (hx : L[k]? = some x) (hok : OKM L) (hy : (tZ S)[posZ (kZ x) (tZ S)]? = some y) (he : kZ y = kZ x) (hs : SrtQ S) :
    ∃ q, y.2 = qstr q ∧ q ∈ S.map (·.2) ∧ ((okQ (q + qZ L k) = none ∧ colS L k S = none) ∨ ∃ r S', okQ (q + qZ L k) = some r ∧ colS L k S = some S' ∧ tZ S' = (tZ S).set (posZ (kZ x) (tZ S)) (y.1, qstr r)) := by
  obtain ⟨h1, h2⟩ := hok.at hx
  have hyS : ∃ z, z ∈ S ∧ y = (z.1, qstr z.2) := by
    have := List.mem_of_getElem? hy
    unfold tZ at this
    obtain ⟨z, hz, rfl⟩ := List.mem_map.1 this
    exact ⟨z, hz, rfl⟩
  obtain ⟨z, hz, rfl⟩ := hyS
  have hl : lookQ (kZ x) S = z.2 := by
    have hz' : kQ z = kZ x := he
    clear hy he
    induction S with
    | nil => simp at hz
    | cons u S ih =>
      unfold lookQ
      rcases List.mem_cons.1 hz with rfl | hz
      · rw [if_pos hz']
      · have h3 := (List.pairwise_cons.1 hs).1 z hz
        rw [if_neg (fun e => List.lt_irrefl _ (by rw [e, ← hz'] at h3; exact h3))]
        exact ih (List.pairwise_cons.1 hs).2 hz
  refine ⟨z.2, rfl, List.mem_map_of_mem hz, ?_⟩
  cases ho : okQ (z.2 + qZ L k) with
  | none =>
    refine .inl ⟨rfl, ?_⟩
    unfold colS
    rw [getZ_of hx, hl, ho]; rfl
  | some r =>
    refine .inr ⟨r, setQ x.1 r S, rfl, ?_, ?_⟩
    · unfold colS
      rw [getZ_of hx, hl, ho]; rfl
    · rw [← set_t]
      have e1 : z.1 = x.1 := ba_extZ he
      show _ = (tZ S).set _ (z.1, qstr r)
      rw [e1]
      exact set_old (k := x.1) hy he
theorem outQ_take (S : List QI) (k : Nat) (x : QI) (hx : S[k]? = some x) : outQ (S.take (k + 1)) = outQ (S.take k) ++ (if x.2 = 0 then [] else [x]) := by
  rw [List.take_add_one, hx]
  unfold outQ
  rw [List.filter_append]
  congr 1
  by_cases h : x.2 = 0 <;> simp [h]
theorem isZeroZ (q : Rat) : ((qstr q).toList == ([48] : List UInt8)) = decide (q = 0) := by
  by_cases h : q = 0
  · rw [h, q0Z, decide_eq_true rfl]; exact lit_eq _ _ rfl
  · rw [decide_eq_false h]
    exact beq_false_of_ne fun he => h (qstr_inj (by rw [q0Z]; exact ba_extZ (by rw [← Lib.toList_data]; exact he)))


end Go.Proofs.YtofanopnibbaeaaGreatDoor
