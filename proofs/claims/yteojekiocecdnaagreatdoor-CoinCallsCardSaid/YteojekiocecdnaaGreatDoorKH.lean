/-
  The reference of layer 4: Add. The reference of layer 4: Late, Law.
-/
import Derived.Test.YteojekiocecdnaaGreatDoorKD
import Derived.OrdersHeld
import Derived.Deep.AppendLies
import Derived.Laws.OwnMore
import Derived.Maps.AppendAt
import Derived.Sort.Walk0
import Derived.Test.YteojekiocecdnaaGreatDoorKG
namespace Go.Proofs.YteojekiocecdnaaGreatDoor
open Go.RowKit NV
open Go.Lib (decDigits)

section
variable {P : Program} {ops : Array Oper} {Q : Exit → Act → World → Prop} {md : Region.Mode}

/-- One operation may come up. -/
theorem wpAny_one {i fuel : Nat} {l : Array Bool} {a : Act} {w : World} (hr : Region.ready md ops l = [i]) (h : wpOp P ops Q i (wpAny P md ops Q fuel (l.setIfInBounds i true)) a w) : wpAny P md ops Q (fuel + 1) l a w :=
  wpAny_all hr (by simp) fun j hj => by
    rw [List.mem_singleton] at hj
    subst hj; exact h
/-- Two may. -/
theorem wpAny_two {i j fuel : Nat} {l : Array Bool} {a : Act} {w : World} (hr : Region.ready md ops l = [i, j]) (h : wpOp P ops Q i (wpAny P md ops Q fuel (l.setIfInBounds i true)) a w) (h2 : wpOp P ops Q j (wpAny P md ops Q fuel (l.setIfInBounds j true)) a w) : wpAny P md ops Q (fuel + 1) l a w :=
  wpAny_all hr (by simp) fun k hk => by
    rcases List.mem_cons.1 hk with rfl | hk
    · exact h
    · rw [List.mem_singleton] at hk
      subst hk; exact h2
theorem wpOp_run {i : Nat} {o : Oper} {K : Act → World → Prop} {a : Act} {w : World} (hi : ops[i]? = some o) (hg : o.guard = none) (h : Oper.wp P o a w K Q) : wpOp P ops Q i K a w := by
  unfold wpOp
  simp only [hi]
  rw [if_pos (by simp [Region.wanted, hg])]
  exact .inl h
theorem wp_value {o : Oper} {K : Act → World → Prop} {a : Act} {w w' : World} {v : Value} {d : Nat} (hd : o.dst = some d) (h : (execOp a.eval o).run P w = .ok (.value v) w') (hK : K (a.put (some d) v) w') : Oper.wp P o a w K Q := by
  unfold Oper.wp
  rw [h]
  simp only [Oper.upon, hd]; exact hK
/-- An operation that yields in whatever world is taken first. -/
theorem wpAny_takeD {i : Nat} {oi : Oper} {v : Value} {d fuel : Nat} {listed : Array Bool} {a : Act} {w : World} (hi : ops[i]? = some oi) (hd : oi.dst = some d)
    (hs : Region.noSelect ops = true) (hf : Region.free md ops listed i = true) (hr : (Region.ready md ops listed).contains i = true)
    (hQ : ∀ c a w, Q (.panic c) (a.put (some d) v) w → Q (.panic c) a w) (hg : oi.guard = none) (hy : ∀ w, (execOp a.eval oi).run P w = .ok (.value v) w)
    (h : wpAny P md ops Q fuel (listed.setIfInBounds i true) (a.put (some d) v) w) : wpAny P md ops Q (fuel + 1) listed a w :=
  wpAny_take hi hs hf hr (hd ▸ hQ) (.inl ⟨by simp [Region.wanted, hg], hy⟩) (hd ▸ h)

/-- append, what is appended may be nothing. -/
theorem wp_append_rowX {w : World} {o : Oper} {a : Act} {K : Act → World → Prop} (s x : Operand) (t : TypeId) {d : Nat} (hd : o.dst = some d)
    (ho : o.op = .call { callee := .builtin .append, args := #[s, x], argTypes := #[t, t] })
    (base : Nat) (e : TypeId) (i : TypeInfo) (z : Value) (size bytes : Nat) (ht : P.underlying t = some (.slice e)) (hi : P.info? e = some i) (hz : i.zero = some z)
    (hsize : i.size = size) (hby : i.bytes = bytes) (hzs : z.cells.size = size) (hsz : 0 < size)
    (v : Value) (n : Nat) (xs : List Value) (hs : a.eval s = v) (hown : w.ownsRow base e size v n xs)
    (ao : Option Addr) (m c : Nat) (news : List Value) (hx : a.eval x = .slice ao m c) (hl : news.length = m * size) (hnews : ∀ ad, ao = some ad → ∀ j u, news[j]? = some u → w.cell? (ad.add j) = some u) (hnone : ao = none → m = 0 ∧ c = 0) (h1 : ∀ u ∈ news, u.oneCell' = true)
    (h63 : n + m ≤ maxLen) (hbytes : (n + m) * bytes ≤ 140737488355328) (hbase : base ≤ w.heap.size)
    (h : ∀ v' w', w'.ownsRow base e size v' (n + m) (xs ++ news) → w.grownBy w' v.ownBlock → (v'.ownBlock = v.ownBlock ∨ v'.ownBlock = some w.heap.size) → K (a.put (some d) v') w') :
    Oper.wp P o a w K Q := by
  cases ao with
  | none =>
    obtain ⟨rfl, rfl⟩ := hnone rfl
    have hr := run_append_owned_none (P := P) (w := w) base t o.type e i size ht hi v n xs hown
    obtain rfl : news = [] := by
      cases news with
      | nil => rfl
      | cons _ _ => simp at hl
    unfold Oper.wp execOp
    simp only [Oper.upon, ho, hd, resolve, invoke, builtin, Sem.run_bind, Sem.run_pure, Result.andThen_ok, List.map_toArray, List.map_cons, List.map_nil, hs, hx, hr]
    exact h v w (by rw [List.append_nil]; exact hown) ⟨rfl, rfl, rfl, Nat.le_refl _, fun _ _ _ => rfl⟩ (.inl rfl)
  | some ad =>
    obtain ⟨v', w', hr, h2, h3, _, h5⟩ := run_append_own_at (P := P) w base t o.type e i z size bytes ht hi hz hsize hby hzs hsz v n xs hown ad m c news hl (hnews ad rfl) h1 h63 hbytes hbase
    unfold Oper.wp execOp
    simp only [Oper.upon, ho, hd, resolve, invoke, builtin, Sem.run_bind, Sem.run_pure, Result.andThen_ok, List.map_toArray, List.map_cons, List.map_nil, hs, hx, hr]
    exact h v' w' h2 h3 h5
end

/-- In the middle of Add: a row of the call's own, and the block of the new outcome. -/
structure AddS (w W : World) (v : Value) (n : Nat) (xs : List Value) (B : Nat) (key p : ByteArray) : Prop where
  below : Below w.heap.size w W
  row : W.ownsRow w.heap.size 38 2 v n xs
  blk : W.heap[B]? = some (.cells #[.string key, .string p] 38 (0, 0))
  ne : v.ownBlock ≠ some B
/-- The row alone. -/
structure AddR (w W : World) (v : Value) (n : Nat) (xs : List Value) : Prop where
  below : Below w.heap.size w W
  row : W.ownsRow w.heap.size 38 2 v n xs
/-- The block alone. -/
structure AddB (w W : World) (B : Nat) (key p : ByteArray) : Prop where
  below : Below w.heap.size w W
  blk : W.heap[B]? = some (.cells #[.string key, .string p] 38 (0, 0))
theorem AddR.lit {w W : World} (h : Below w.heap.size w W) : AddR w (W.alloc (.cells #[] 38)) (.slice (some ⟨W.heap.size, 0, none⟩) 0 0) 0 [] :=
  ⟨h.alloc h.size _, World.ownsRow_lit W #[] 0 h.size (by unfold maxLen; omega) rfl⟩
theorem AddB.lit {w W : World} {B : Nat} {key p : ByteArray} (h : AddB w W B key p) : AddS w (W.alloc (.cells #[] 38)) (.slice (some ⟨W.heap.size, 0, none⟩) 0 0) 0 [] B key p := by
  have hlt : B < W.heap.size := (Array.getElem?_eq_some_iff.1 h.blk).1
  refine ⟨(AddR.lit h.below).below, (AddR.lit h.below).row, (Below.heap_alloc _ _ _ hlt).trans h.blk, ?_⟩
  intro e
  have : W.heap.size = B := by simpa [Value.ownBlock] using e
  omega
theorem AddB.new {w W : World} (key p : ByteArray) (h : Below w.heap.size w W) : AddB w (W.alloc (.cells #[.string key, .string p] 38)) W.heap.size key p :=
  ⟨h.alloc h.size _, heap_alloc_new _ _⟩
theorem AddR.new {w W : World} {v : Value} {n : Nat} {xs : List Value} (key p : ByteArray) (h : AddR w W v n xs) : AddS w (W.alloc (.cells #[.string key, .string p] 38)) v n xs W.heap.size key p :=
  ⟨h.below.alloc h.below.size _, h.row.alloc _, heap_alloc_new _ _, fun e => by have := (h.row.lt _ e).2; omega⟩
theorem AddR.grown {w W W' : World} {v v' : Value} {n n' : Nat} {xs xs' : List Value} (h : AddR w W v n xs) (hr : W'.ownsRow w.heap.size 38 2 v' n' xs') (hg : W.grownBy W' v.ownBlock) : AddR w W' v' n' xs' :=
  ⟨h.below.grown hg h.below.size (fun b hb => (h.row.lt b hb).1), hr⟩
theorem AddS.row1 {w W : World} {v : Value} {n : Nat} {xs : List Value} {B : Nat} {key p : ByteArray} (h : AddS w W v n xs B key p) : AddR w W v n xs := ⟨h.below, h.row⟩
theorem AddS.grown {w W W' : World} {v v' : Value} {n n' : Nat} {xs xs' : List Value} {B : Nat} {key p : ByteArray} (h : AddS w W v n xs B key p) (hr : W'.ownsRow w.heap.size 38 2 v' n' xs') (hg : W.grownBy W' v.ownBlock) (ho : v'.ownBlock = v.ownBlock ∨ v'.ownBlock = some W.heap.size) : AddS w W' v' n' xs' B key p := by
  have hlt : B < W.heap.size := (Array.getElem?_eq_some_iff.1 h.blk).1
  refine ⟨(h.row1.grown hr hg).below, hr, (hg.block B hlt (Ne.symm h.ne)).trans h.blk, fun e => ?_⟩
  rcases ho with ho | ho
  · exact h.ne (ho ▸ e)
  · rw [ho] at e
    have : W.heap.size = B := by simpa using e
    omega

/-- A list of outcomes with one more in its place. -/
def addM (k p : ByteArray) : List (ByteArray × ByteArray) → List (ByteArray × ByteArray)
  | [] => [(k, p)]
  | x :: L => if x.1.data.toList < k.data.toList then x :: addM k p L else (k, p) :: x :: L
def posM (k : ByteArray) : List (ByteArray × ByteArray) → Nat
  | [] => 0
  | x :: L => if x.1.data.toList < k.data.toList then posM k L + 1 else 0
theorem addM_pos (k p : ByteArray) : ∀ L, addM k p L = L.take (posM k L) ++ [(k, p)] ++ L.drop (posM k L)
  | [] => rfl
  | x :: L => by
    unfold addM posM
    split
    · rw [addM_pos k p L]; simp
    · rfl
theorem posM_le (k : ByteArray) : ∀ L, posM k L ≤ L.length
  | [] => Nat.le_refl _
  | x :: L => by
    have := posM_le k L
    unfold posM; split <;> simp <;> omega
theorem posM_lt (k : ByteArray) : ∀ (L : List (ByteArray × ByteArray)) (j : Nat) (x : ByteArray × ByteArray), j < posM k L → L[j]? = some x → x.1.data.toList < k.data.toList
  | [], j, x, h, _ => by simp [posM] at h
  | y :: L, 0, x, h, hx => by
    unfold posM at h
    split at h
    · rename_i hy; obtain rfl : y = x := by simpa using hx
      exact hy
    · omega
  | y :: L, j + 1, x, h, hx => by
    unfold posM at h
    split at h
    · exact posM_lt k L j x (by omega) (by simpa using hx)
    · omega
theorem posM_at (k : ByteArray) : ∀ (L : List (ByteArray × ByteArray)) (x : ByteArray × ByteArray), L[posM k L]? = some x → ¬ x.1.data.toList < k.data.toList
  | [], x, h => by simp at h
  | y :: L, x, h => by
    unfold posM at h
    split at h
    · exact posM_at k L x (by simpa using h)
    · rename_i hy; obtain rfl : y = x := by simpa using h
      exact hy

set_option maxHeartbeats 6400000 in
set_option maxRecDepth 100000 in
theorem rAdd_zero {v : Value} {key p : ByteArray} (hp : (p.toList == [48]) = true) (w : World) :
    Calls Tryz.prog 68 #[v, .string key, .string p] w fun e w' => e = .returned v ∧ w = w' := by
  go_enter Tryz.func68, Tryz.ntmps68
  go_wp2_with fail
  go_ret
  exact ⟨rfl, rfl⟩

theorem cellsM_one : ∀ (l : List (ByteArray × ByteArray)), ∀ u ∈ cellsM l, u.oneCell' = true := fun l u hu => by
  unfold cellsM at hu
  obtain ⟨x, _, hx⟩ := List.mem_flatMap.1 hu
  simp at hx
  rcases hx with rfl | rfl <;> rfl


set_option maxHeartbeats 6400000 in
set_option maxRecDepth 100000 in
theorem rAdd_ok {v : Value} {key p : ByteArray} {L : List (ByteArray × ByteArray)} {base : Nat} (hp : (p.toList == [48]) = false) (hL : L.length ≤ 1000) (w : World) (hbase : base ≤ w.heap.size) (hrow : w.ownsRow base 38 2 v L.length (cellsM L)) :
    Calls Tryz.prog 68 #[v, .string key, .string p] w fun e w' => ∃ v', e = .returned v' ∧ w'.ownsRow base 38 2 v' (L.length + 1) (cellsM (addM key p L)) ∧ Below w.heap.size w w' := by
  obtain ⟨i0, hi, hz0, hz1, hz2⟩ := info_parts infoMass
  obtain ⟨N, hN⟩ : ∃ N, N = L.length := ⟨_, rfl⟩
  rw [← hN] at hL hrow ⊢
  have HN := Lib.hid hN
  have HROW := Lib.hid hrow
  obtain ⟨M, hM⟩ : ∃ M, M = posM key L := ⟨_, rfl⟩
  have hMN : M ≤ N := by rw [hM, hN]; exact posM_le key L
  have HM := Lib.hid hM
  have hform : (N = 0 ∧ v = .slice none 0 0) ∨ ∃ g cap, v = .slice (some ⟨g, 0, none⟩) N cap ∧ g < w.heap.size ∧ N ≤ cap ∧ cap ≤ maxLen := by
    rcases hrow.2 with ⟨hv, h0⟩ | ⟨g, cap, cur, hv, hb, hg, h4, h5, _⟩
    · exact .inl ⟨h0, hv⟩
    · exact .inr ⟨g, cap, hv, (Array.getElem?_eq_some_iff.1 hg).1, h4, h5⟩
  have HNL := Lib.hid (show (cellsM (L.take M)).length = M * 2 ∧ (∀ u ∈ cellsM (L.take M), u.oneCell' = true) ∧ (cellsM (L.drop M)).length = (N - M) * 2 ∧ (∀ u ∈ cellsM (L.drop M), u.oneCell' = true) from
    ⟨by rw [cellsM_len, List.length_take, ← hN, Nat.min_eq_left hMN], cellsM_one _, by rw [cellsM_len, List.length_drop, ← hN], cellsM_one _⟩)
  have HFIN := Lib.hid (show cellsM (addM key p L) = cellsM (L.take M) ++ [.string key, .string p] ++ cellsM (L.drop M) by rw [addM_pos, ← hM, cellsM_app, cellsM_app]; rfl)
  clear hN hrow hM
  rcases hform with ⟨rfl, rfl⟩ | ⟨g, cap, rfl, hg, hcap, hcm⟩
  · obtain rfl : M = 0 := by omega
    have HNB := Lib.hid (show ∀ W, Below w.heap.size w W → ∀ ad : Addr, none = some ad → ∀ j u, (cellsM (L.take 0))[j]? = some u → W.cell? (ad.add j) = some u from fun W _ ad h => by cases h)
    have HNF := Lib.hid (show ∀ W, Below w.heap.size w W → ∀ ad : Addr, none = some ad → ∀ j u, (cellsM (L.drop 0))[j]? = some u → W.cell? (ad.add j) = some u from fun W _ ad h => by cases h)
    go_enter Tryz.func68, Tryz.ntmps68
    go_wp2_with fail
    go_loop [7] (fun iv => iv = .int .i64 0) (fun _ => 0)
    case atStart => rfl
    case round =>
      obtain rfl := hrel
      go_wp2_with fail
      refine wp_region_any (by kernel_rfl) ?_
      have HD : Below w.heap.size w w.drew := (Below.refl w.heap.size w).drew
      change wpAny _ _ _ _ 15 _ _ w.drew
      generalize w.drew = W at *
      refine wpAny_takeD (i := 1) (d := 27) (v := .slice none 0 0) rfl rfl (by kernel_rfl) (by kernel_rfl) (by kernel_rfl) (fun _ _ _ h => h) rfl (fun W => by go_simp) ?_
      simp only [Act.put, List.setIfInBounds_toArray, List.set_cons_zero, List.set_cons_succ]
      refine wpAny_takeD (i := 2) (d := 28) (v := .int .i64 0) rfl rfl (by kernel_rfl) (by kernel_rfl) (by kernel_rfl) (fun _ _ _ h => h) rfl (fun W => by go_simp) ?_
      simp only [Act.put, List.setIfInBounds_toArray, List.set_cons_zero, List.set_cons_succ]
      refine wpAny_takeD (i := 3) (d := 29) (v := .slice none 0 0) rfl rfl (by kernel_rfl) (by kernel_rfl) (by kernel_rfl) (fun _ _ _ h => h) rfl (fun W => by go_simp) ?_
      simp only [Act.put, List.setIfInBounds_toArray, List.set_cons_zero, List.set_cons_succ]
      refine wpAny_takeD (i := 5) (d := 31) (v := .string key) rfl rfl (by kernel_rfl) (by kernel_rfl) (by kernel_rfl) (fun _ _ _ h => h) rfl (fun W => by go_simp) ?_
      simp only [Act.put, List.setIfInBounds_toArray, List.set_cons_zero, List.set_cons_succ]
      refine wpAny_takeD (i := 6) (d := 32) (v := .string p) rfl rfl (by kernel_rfl) (by kernel_rfl) (by kernel_rfl) (fun _ _ _ h => h) rfl (fun W => by go_simp) ?_
      simp only [Act.put, List.setIfInBounds_toArray, List.set_cons_zero, List.set_cons_succ]
      refine wpAny_takeD (i := 7) (d := 33) (v := .agg #[.string key, .string p]) rfl rfl (by kernel_rfl) (by kernel_rfl) (by kernel_rfl) (fun _ _ _ h => h) rfl (fun W => by go_simp) ?_
      simp only [Act.put, List.setIfInBounds_toArray, List.set_cons_zero, List.set_cons_succ]
      refine wpAny_takeD (i := 10) (d := 36) (v := .slice none 0 0) rfl rfl (by kernel_rfl) (by kernel_rfl) (by kernel_rfl) (fun _ _ _ h => h) rfl (fun W => by go_simp) ?_
      simp only [Act.put, List.setIfInBounds_toArray, List.set_cons_zero, List.set_cons_succ]
      refine wpAny_takeD (i := 11) (d := 37) (v := .int .i64 0) rfl rfl (by kernel_rfl) (by kernel_rfl) (by kernel_rfl) (fun _ _ _ h => h) rfl (fun W => by go_simp) ?_
      simp only [Act.put, List.setIfInBounds_toArray, List.set_cons_zero, List.set_cons_succ]
      refine wpAny_takeD (i := 12) (d := 38) (v := .slice none (0) (0)) rfl rfl (by kernel_rfl) (by kernel_rfl) (by kernel_rfl) (fun _ _ _ h => h) rfl (fun W => by go_simp) ?_
      simp only [Act.put, List.setIfInBounds_toArray, List.set_cons_zero, List.set_cons_succ]
      refine wpAny_two (i := 0) (j := 8) (by kernel_rfl) ?_ ?_
      · refine wpOp_run rfl rfl (wp_value (d := 26) (v := .slice (some ⟨W.heap.size, 0, none⟩) 0 0) (w' := W.alloc (.cells #[] 38)) rfl (by go_simp) ?_)
        simp only [Act.put, List.setIfInBounds_toArray, List.set_cons_zero, List.set_cons_succ]
        have HA := AddR.lit HD
        refine wpAny_two (i := 4) (j := 8) (by kernel_rfl) ?_ ?_
        · refine wpOp_run rfl rfl (wp_append_rowX (.tmp 26) (.tmp 29) 33 (d := 30) rfl rfl w.heap.size 38 i0 (.agg #[.string ⟨#[]⟩, .string ⟨#[]⟩]) 2 32 Tryz.underlying33 hi hz0 hz1 hz2 rfl (by decide) _ 0 [] rfl HA.row none 0 0 (cellsM (L.take 0)) rfl HNL.out.1 (HNB.out _ HA.below) (fun _ => ⟨rfl, rfl⟩) HNL.out.2.1 (by unfold maxLen; omega) (by omega) HA.below.size ?_)
          intro v1 W1 hown1 hgr1 ho1
          simp only [Act.put, List.setIfInBounds_toArray, List.set_cons_zero, List.set_cons_succ]
          rw [Nat.zero_add, List.nil_append] at hown1
          have HC := HA.grown hown1 hgr1
          clear hown1 hgr1 ho1
          refine wpAny_one (i := 8) (by kernel_rfl) ?_
          refine wpOp_run rfl rfl (wp_value (d := 34) (v := .slice (some ⟨W1.heap.size, 0, none⟩) 1 1) (w' := W1.alloc (.cells #[.string key, .string p] 38)) rfl (by go_simp) ?_)
          simp only [Act.put, List.setIfInBounds_toArray, List.set_cons_zero, List.set_cons_succ]
          have HS := HC.new key p
          generalize W1.heap.size = B at *
          generalize World.alloc W1 _ = W9 at *
          clear HC
          refine wpAny_one (i := 9) (by kernel_rfl) ?_
          refine wpOp_run rfl rfl (wp_append_rowX (.tmp 30) (.tmp 34) 33 (d := 35) rfl rfl w.heap.size 38 i0 (.agg #[.string ⟨#[]⟩, .string ⟨#[]⟩]) 2 32 Tryz.underlying33 hi hz0 hz1 hz2 rfl (by decide) _ 0 (cellsM (L.take 0)) rfl HS.row (some ⟨B, 0, none⟩) 1 1 [Value.string key, Value.string p] rfl rfl (fun ad had => by cases had; exact World.news_of_block HS.blk) (fun h => by cases h) (by intro u hu; simp at hu; rcases hu with rfl | rfl <;> rfl) (by unfold maxLen; omega) (by omega) HS.below.size ?_)
          intro v2 W2 hown2 hgr2 _
          simp only [Act.put, List.setIfInBounds_toArray, List.set_cons_zero, List.set_cons_succ]
          have HR2 := HS.row1.grown hown2 hgr2
          clear hown2 hgr2 HS
          refine wpAny_one (i := 13) (by kernel_rfl) ?_
          refine wpOp_run rfl rfl (wp_append_rowX (.tmp 35) (.tmp 38) 33 (d := 39) rfl rfl w.heap.size 38 i0 (.agg #[.string ⟨#[]⟩, .string ⟨#[]⟩]) 2 32 Tryz.underlying33 hi hz0 hz1 hz2 rfl (by decide) _ (0 + 1) (cellsM (L.take 0) ++ [Value.string key, Value.string p]) rfl HR2.row none (0) (0) (cellsM (L.drop 0)) rfl HNL.out.2.2.1 (HNF.out _ HR2.below) (fun _ => ⟨rfl, rfl⟩) HNL.out.2.2.2 (by unfold maxLen; omega) (by omega) HR2.below.size ?_)
          intro v3 W3 hown3 hgr3 _
          simp only [Act.put, List.setIfInBounds_toArray, List.set_cons_zero, List.set_cons_succ]
          have HR3 := HR2.grown hown3 hgr3
          clear hown3 hgr3 HR2
          refine wpAny_takeD (i := 14) (d := 6) (v := v3) rfl rfl (by kernel_rfl) (by kernel_rfl) (by kernel_rfl) (fun _ _ _ h => h) rfl (fun W => by go_simp) ?_
          simp only [Act.put, List.setIfInBounds_toArray, List.set_cons_zero, List.set_cons_succ]
          refine wpAny_done (by kernel_rfl) ?_ _
          have HF := Lib.hid (And.intro HR3.row HR3.below)
          clear HR3
          go_wp2_with fail
          all_goals
            go_ret
            refine ⟨_, rfl, row_base ?_ hbase, HF.out.2⟩
            have h := HF.out.1
            rw [← HFIN.out] at h
            exact h
        · refine wpOp_run rfl rfl (wp_value (d := 34) (v := .slice (some ⟨(W.alloc (.cells #[] 38)).heap.size, 0, none⟩) 1 1) (w' := (W.alloc (.cells #[] 38)).alloc (.cells #[.string key, .string p] 38)) rfl (by go_simp) ?_)
          simp only [Act.put, List.setIfInBounds_toArray, List.set_cons_zero, List.set_cons_succ]
          have HS0 := HA.new key p
          clear HA
          generalize (W.alloc (.cells #[] 38)).heap.size = B at *
          refine wpAny_one (i := 4) (by kernel_rfl) ?_
          refine wpOp_run rfl rfl (wp_append_rowX (.tmp 26) (.tmp 29) 33 (d := 30) rfl rfl w.heap.size 38 i0 (.agg #[.string ⟨#[]⟩, .string ⟨#[]⟩]) 2 32 Tryz.underlying33 hi hz0 hz1 hz2 rfl (by decide) _ 0 [] rfl HS0.row none 0 0 (cellsM (L.take 0)) rfl HNL.out.1 (HNB.out _ HS0.below) (fun _ => ⟨rfl, rfl⟩) HNL.out.2.1 (by unfold maxLen; omega) (by omega) HS0.below.size ?_)
          intro v1 W1 hown1 hgr1 ho1
          simp only [Act.put, List.setIfInBounds_toArray, List.set_cons_zero, List.set_cons_succ]
          rw [Nat.zero_add, List.nil_append] at hown1
          have HS := HS0.grown hown1 hgr1 ho1
          clear hown1 hgr1 ho1
          clear HS0
          refine wpAny_one (i := 9) (by kernel_rfl) ?_
          refine wpOp_run rfl rfl (wp_append_rowX (.tmp 30) (.tmp 34) 33 (d := 35) rfl rfl w.heap.size 38 i0 (.agg #[.string ⟨#[]⟩, .string ⟨#[]⟩]) 2 32 Tryz.underlying33 hi hz0 hz1 hz2 rfl (by decide) _ 0 (cellsM (L.take 0)) rfl HS.row (some ⟨B, 0, none⟩) 1 1 [Value.string key, Value.string p] rfl rfl (fun ad had => by cases had; exact World.news_of_block HS.blk) (fun h => by cases h) (by intro u hu; simp at hu; rcases hu with rfl | rfl <;> rfl) (by unfold maxLen; omega) (by omega) HS.below.size ?_)
          intro v2 W2 hown2 hgr2 _
          simp only [Act.put, List.setIfInBounds_toArray, List.set_cons_zero, List.set_cons_succ]
          have HR2 := HS.row1.grown hown2 hgr2
          clear hown2 hgr2 HS
          refine wpAny_one (i := 13) (by kernel_rfl) ?_
          refine wpOp_run rfl rfl (wp_append_rowX (.tmp 35) (.tmp 38) 33 (d := 39) rfl rfl w.heap.size 38 i0 (.agg #[.string ⟨#[]⟩, .string ⟨#[]⟩]) 2 32 Tryz.underlying33 hi hz0 hz1 hz2 rfl (by decide) _ (0 + 1) (cellsM (L.take 0) ++ [Value.string key, Value.string p]) rfl HR2.row none (0) (0) (cellsM (L.drop 0)) rfl HNL.out.2.2.1 (HNF.out _ HR2.below) (fun _ => ⟨rfl, rfl⟩) HNL.out.2.2.2 (by unfold maxLen; omega) (by omega) HR2.below.size ?_)
          intro v3 W3 hown3 hgr3 _
          simp only [Act.put, List.setIfInBounds_toArray, List.set_cons_zero, List.set_cons_succ]
          have HR3 := HR2.grown hown3 hgr3
          clear hown3 hgr3 HR2
          refine wpAny_takeD (i := 14) (d := 6) (v := v3) rfl rfl (by kernel_rfl) (by kernel_rfl) (by kernel_rfl) (fun _ _ _ h => h) rfl (fun W => by go_simp) ?_
          simp only [Act.put, List.setIfInBounds_toArray, List.set_cons_zero, List.set_cons_succ]
          refine wpAny_done (by kernel_rfl) ?_ _
          have HF := Lib.hid (And.intro HR3.row HR3.below)
          clear HR3
          go_wp2_with fail
          all_goals
            go_ret
            refine ⟨_, rfl, row_base ?_ hbase, HF.out.2⟩
            have h := HF.out.1
            rw [← HFIN.out] at h
            exact h
      · refine wpOp_run rfl rfl (wp_value (d := 34) (v := .slice (some ⟨W.heap.size, 0, none⟩) 1 1) (w' := W.alloc (.cells #[.string key, .string p] 38)) rfl (by go_simp) ?_)
        simp only [Act.put, List.setIfInBounds_toArray, List.set_cons_zero, List.set_cons_succ]
        have HB := AddB.new key p HD
        refine wpAny_one (i := 0) (by kernel_rfl) ?_
        refine wpOp_run rfl rfl (wp_value (d := 26) (v := .slice (some ⟨(W.alloc (.cells #[.string key, .string p] 38)).heap.size, 0, none⟩) 0 0) (w' := (W.alloc (.cells #[.string key, .string p] 38)).alloc (.cells #[] 38)) rfl (by go_simp) ?_)
        simp only [Act.put, List.setIfInBounds_toArray, List.set_cons_zero, List.set_cons_succ]
        have HS0 := HB.lit
        clear HB
        refine wpAny_one (i := 4) (by kernel_rfl) ?_
        refine wpOp_run rfl rfl (wp_append_rowX (.tmp 26) (.tmp 29) 33 (d := 30) rfl rfl w.heap.size 38 i0 (.agg #[.string ⟨#[]⟩, .string ⟨#[]⟩]) 2 32 Tryz.underlying33 hi hz0 hz1 hz2 rfl (by decide) _ 0 [] rfl HS0.row none 0 0 (cellsM (L.take 0)) rfl HNL.out.1 (HNB.out _ HS0.below) (fun _ => ⟨rfl, rfl⟩) HNL.out.2.1 (by unfold maxLen; omega) (by omega) HS0.below.size ?_)
        intro v1 W1 hown1 hgr1 ho1
        simp only [Act.put, List.setIfInBounds_toArray, List.set_cons_zero, List.set_cons_succ]
        rw [Nat.zero_add, List.nil_append] at hown1
        have HS := HS0.grown hown1 hgr1 ho1
        clear hown1 hgr1 ho1
        clear HS0
        generalize W.heap.size = B at *
        refine wpAny_one (i := 9) (by kernel_rfl) ?_
        refine wpOp_run rfl rfl (wp_append_rowX (.tmp 30) (.tmp 34) 33 (d := 35) rfl rfl w.heap.size 38 i0 (.agg #[.string ⟨#[]⟩, .string ⟨#[]⟩]) 2 32 Tryz.underlying33 hi hz0 hz1 hz2 rfl (by decide) _ 0 (cellsM (L.take 0)) rfl HS.row (some ⟨B, 0, none⟩) 1 1 [Value.string key, Value.string p] rfl rfl (fun ad had => by cases had; exact World.news_of_block HS.blk) (fun h => by cases h) (by intro u hu; simp at hu; rcases hu with rfl | rfl <;> rfl) (by unfold maxLen; omega) (by omega) HS.below.size ?_)
        intro v2 W2 hown2 hgr2 _
        simp only [Act.put, List.setIfInBounds_toArray, List.set_cons_zero, List.set_cons_succ]
        have HR2 := HS.row1.grown hown2 hgr2
        clear hown2 hgr2 HS
        refine wpAny_one (i := 13) (by kernel_rfl) ?_
        refine wpOp_run rfl rfl (wp_append_rowX (.tmp 35) (.tmp 38) 33 (d := 39) rfl rfl w.heap.size 38 i0 (.agg #[.string ⟨#[]⟩, .string ⟨#[]⟩]) 2 32 Tryz.underlying33 hi hz0 hz1 hz2 rfl (by decide) _ (0 + 1) (cellsM (L.take 0) ++ [Value.string key, Value.string p]) rfl HR2.row none (0) (0) (cellsM (L.drop 0)) rfl HNL.out.2.2.1 (HNF.out _ HR2.below) (fun _ => ⟨rfl, rfl⟩) HNL.out.2.2.2 (by unfold maxLen; omega) (by omega) HR2.below.size ?_)
        intro v3 W3 hown3 hgr3 _
        simp only [Act.put, List.setIfInBounds_toArray, List.set_cons_zero, List.set_cons_succ]
        have HR3 := HR2.grown hown3 hgr3
        clear hown3 hgr3 HR2
        refine wpAny_takeD (i := 14) (d := 6) (v := v3) rfl rfl (by kernel_rfl) (by kernel_rfl) (by kernel_rfl) (fun _ _ _ h => h) rfl (fun W => by go_simp) ?_
        simp only [Act.put, List.setIfInBounds_toArray, List.set_cons_zero, List.set_cons_succ]
        refine wpAny_done (by kernel_rfl) ?_ _
        have HF := Lib.hid (And.intro HR3.row HR3.below)
        clear HR3
        go_wp2_with fail
        all_goals
          go_ret
          refine ⟨_, rfl, row_base ?_ hbase, HF.out.2⟩
          have h := HF.out.1
          rw [← HFIN.out] at h
          exact h
  · have HNB := Lib.hid (show ∀ W, Below w.heap.size w W → ∀ ad : Addr, some (⟨g, 0, none⟩ : Addr) = some ad → ∀ j u, (cellsM (L.take M))[j]? = some u → W.cell? (ad.add j) = some u from fun W hW ad had j u hu => by
      cases had
      have hu2 : (cellsM L)[j]? = some u := by
        have hsplit : cellsM L = cellsM (L.take M) ++ cellsM (L.drop M) := by rw [← cellsM_app, List.take_append_drop]
        rw [hsplit, List.getElem?_append_left (List.getElem?_eq_some_iff.1 hu).1]; exact hu
      have h1 := HROW.out.cells (g := g) rfl j u hu2
      rw [Addr.add_lit, Nat.zero_add] at h1 ⊢
      exact (hW.cell (p := ⟨g, j, none⟩) hg).trans h1)
    have HNF := Lib.hid (show ∀ W, Below w.heap.size w W → ∀ ad : Addr, (if cap = M then some (⟨g, 0, none⟩ : Addr) else some ⟨g, M * 2, none⟩) = some ad → ∀ j u, (cellsM (L.drop M))[j]? = some u → W.cell? (ad.add j) = some u from fun W hW ad had j u hu => by
      split at had
      · have h1 := (List.getElem?_eq_some_iff.1 hu).1
        rw [HNL.out.2.2.1] at h1
        have h2 : N - M = 0 := by omega
        rw [h2] at h1; omega
      · cases had
        have hu2 : (cellsM L)[M * 2 + j]? = some u := by
          have hsplit : cellsM L = cellsM (L.take M) ++ cellsM (L.drop M) := by rw [← cellsM_app, List.take_append_drop]
          rw [hsplit, List.getElem?_append_right (by rw [HNL.out.1]; omega), HNL.out.1, Nat.add_sub_cancel_left]; exact hu
        have h1 := HROW.out.cells (g := g) rfl _ u hu2
        rw [Addr.add_lit, Nat.zero_add] at h1
        rw [Addr.add_lit]
        exact (hW.cell (p := ⟨g, M * 2 + j, none⟩) hg).trans h1)
    go_enter Tryz.func68, Tryz.ntmps68
    go_wp2_with fail
    go_loop [7] (fun iv => ∃ k : Nat, k ≤ M ∧ iv = .int .i64 (k : Int)) (fun iv => N - (intOf iv).toNat)
    case atStart => exact ⟨0, Nat.zero_le _, rfl⟩
    case round =>
      obtain ⟨k, hk, rfl⟩ := hrel
      by_cases hlt : k < M
      · obtain ⟨x, hx⟩ : ∃ x, L[k]? = some x := ⟨L[k]'(by rw [← HN.out]; omega), List.getElem?_eq_getElem _⟩
        have hlx := posM_lt key L k x (by rw [← HM.out]; exact hlt) hx
        obtain ⟨x1, x2⟩ := x
        have c0 := HROW.out.cells (g := g) rfl (k * 2) (.string x1) (cellsM_get L k (x1, x2) hx).1
        rw [Addr.add_lit, Nat.zero_add] at c0
        have hkN : k < N := by omega
        have hbl : Op.bytesLess x1.toList key.toList = true := by rw [bytesLess_eq, Lib.toList_data, Lib.toList_data]; exact decide_eq_true hlx
        clear hx
        go_wp2_with fail
        go_round
        case rel => exact ⟨k + 1, by omega, by go_num⟩
        case measure => simp [intOf]; omega
      · obtain rfl : k = M := by omega
        by_cases hkN : k < N
        · obtain ⟨x, hx⟩ : ∃ x, L[k]? = some x := ⟨L[k]'(by rw [← HN.out]; omega), List.getElem?_eq_getElem _⟩
          have hlx := posM_at key L x (by rw [← HM.out]; exact hx)
          obtain ⟨x1, x2⟩ := x
          have c0 := HROW.out.cells (g := g) rfl (k * 2) (.string x1) (cellsM_get L k (x1, x2) hx).1
          rw [Addr.add_lit, Nat.zero_add] at c0
          have hbl : Op.bytesLess x1.toList key.toList = false := by rw [bytesLess_eq, Lib.toList_data, Lib.toList_data]; exact decide_eq_false hlx
          clear hx
          have hk0 : (0 : Int) ≤ (k : Int) := by omega
          have hk1 : (k : Int) ≤ (N : Int) := by omega
          have hk2 : (k : Int) ≤ (cap : Int) := by omega
          have hk3 : (N : Int) ≤ (cap : Int) := by omega
          go_wp2_with fail
          refine wp_region_any (by kernel_rfl) ?_
          have HD : Below w.heap.size w w.drew := (Below.refl w.heap.size w).drew
          change wpAny _ _ _ _ 15 _ _ w.drew
          generalize w.drew = W at *
          refine wpAny_takeD (i := 1) (d := 27) (v := .slice (some ⟨g, 0, none⟩) N cap) rfl rfl (by kernel_rfl) (by kernel_rfl) (by kernel_rfl) (fun _ _ _ h => h) rfl (fun W => by go_simp) ?_
          simp only [Act.put, List.setIfInBounds_toArray, List.set_cons_zero, List.set_cons_succ]
          refine wpAny_takeD (i := 2) (d := 28) (v := .int .i64 (k : Int)) rfl rfl (by kernel_rfl) (by kernel_rfl) (by kernel_rfl) (fun _ _ _ h => h) rfl (fun W => by go_simp) ?_
          simp only [Act.put, List.setIfInBounds_toArray, List.set_cons_zero, List.set_cons_succ]
          refine wpAny_takeD (i := 3) (d := 29) (v := .slice (some ⟨g, 0, none⟩) k cap) rfl rfl (by kernel_rfl) (by kernel_rfl) (by kernel_rfl) (fun _ _ _ h => h) rfl (fun W => by go_simp) ?_
          simp only [Act.put, List.setIfInBounds_toArray, List.set_cons_zero, List.set_cons_succ]
          refine wpAny_takeD (i := 5) (d := 31) (v := .string key) rfl rfl (by kernel_rfl) (by kernel_rfl) (by kernel_rfl) (fun _ _ _ h => h) rfl (fun W => by go_simp) ?_
          simp only [Act.put, List.setIfInBounds_toArray, List.set_cons_zero, List.set_cons_succ]
          refine wpAny_takeD (i := 6) (d := 32) (v := .string p) rfl rfl (by kernel_rfl) (by kernel_rfl) (by kernel_rfl) (fun _ _ _ h => h) rfl (fun W => by go_simp) ?_
          simp only [Act.put, List.setIfInBounds_toArray, List.set_cons_zero, List.set_cons_succ]
          refine wpAny_takeD (i := 7) (d := 33) (v := .agg #[.string key, .string p]) rfl rfl (by kernel_rfl) (by kernel_rfl) (by kernel_rfl) (fun _ _ _ h => h) rfl (fun W => by go_simp) ?_
          simp only [Act.put, List.setIfInBounds_toArray, List.set_cons_zero, List.set_cons_succ]
          refine wpAny_takeD (i := 10) (d := 36) (v := .slice (some ⟨g, 0, none⟩) N cap) rfl rfl (by kernel_rfl) (by kernel_rfl) (by kernel_rfl) (fun _ _ _ h => h) rfl (fun W => by go_simp) ?_
          simp only [Act.put, List.setIfInBounds_toArray, List.set_cons_zero, List.set_cons_succ]
          refine wpAny_takeD (i := 11) (d := 37) (v := .int .i64 (k : Int)) rfl rfl (by kernel_rfl) (by kernel_rfl) (by kernel_rfl) (fun _ _ _ h => h) rfl (fun W => by go_simp) ?_
          simp only [Act.put, List.setIfInBounds_toArray, List.set_cons_zero, List.set_cons_succ]
          refine wpAny_takeD (i := 12) (d := 38) (v := .slice (if cap = k then some ⟨g, 0, none⟩ else some ⟨g, k * 2, none⟩) (N - k) (cap - k)) rfl rfl (by kernel_rfl) (by kernel_rfl) (by kernel_rfl) (fun _ _ _ h => h) rfl (fun W => by go_simp) ?_
          simp only [Act.put, List.setIfInBounds_toArray, List.set_cons_zero, List.set_cons_succ]
          refine wpAny_two (i := 0) (j := 8) (by kernel_rfl) ?_ ?_
          · refine wpOp_run rfl rfl (wp_value (d := 26) (v := .slice (some ⟨W.heap.size, 0, none⟩) 0 0) (w' := W.alloc (.cells #[] 38)) rfl (by go_simp) ?_)
            simp only [Act.put, List.setIfInBounds_toArray, List.set_cons_zero, List.set_cons_succ]
            have HA := AddR.lit HD
            refine wpAny_two (i := 4) (j := 8) (by kernel_rfl) ?_ ?_
            · refine wpOp_run rfl rfl (wp_append_rowX (.tmp 26) (.tmp 29) 33 (d := 30) rfl rfl w.heap.size 38 i0 (.agg #[.string ⟨#[]⟩, .string ⟨#[]⟩]) 2 32 Tryz.underlying33 hi hz0 hz1 hz2 rfl (by decide) _ 0 [] rfl HA.row (some ⟨g, 0, none⟩) k cap (cellsM (L.take k)) rfl HNL.out.1 (HNB.out _ HA.below) (fun h => by cases h) HNL.out.2.1 (by unfold maxLen; omega) (by omega) HA.below.size ?_)
              intro v1 W1 hown1 hgr1 ho1
              simp only [Act.put, List.setIfInBounds_toArray, List.set_cons_zero, List.set_cons_succ]
              rw [Nat.zero_add, List.nil_append] at hown1
              have HC := HA.grown hown1 hgr1
              clear hown1 hgr1 ho1
              refine wpAny_one (i := 8) (by kernel_rfl) ?_
              refine wpOp_run rfl rfl (wp_value (d := 34) (v := .slice (some ⟨W1.heap.size, 0, none⟩) 1 1) (w' := W1.alloc (.cells #[.string key, .string p] 38)) rfl (by go_simp) ?_)
              simp only [Act.put, List.setIfInBounds_toArray, List.set_cons_zero, List.set_cons_succ]
              have HS := HC.new key p
              generalize W1.heap.size = B at *
              generalize World.alloc W1 _ = W9 at *
              clear HC
              refine wpAny_one (i := 9) (by kernel_rfl) ?_
              refine wpOp_run rfl rfl (wp_append_rowX (.tmp 30) (.tmp 34) 33 (d := 35) rfl rfl w.heap.size 38 i0 (.agg #[.string ⟨#[]⟩, .string ⟨#[]⟩]) 2 32 Tryz.underlying33 hi hz0 hz1 hz2 rfl (by decide) _ k (cellsM (L.take k)) rfl HS.row (some ⟨B, 0, none⟩) 1 1 [Value.string key, Value.string p] rfl rfl (fun ad had => by cases had; exact World.news_of_block HS.blk) (fun h => by cases h) (by intro u hu; simp at hu; rcases hu with rfl | rfl <;> rfl) (by unfold maxLen; omega) (by omega) HS.below.size ?_)
              intro v2 W2 hown2 hgr2 _
              simp only [Act.put, List.setIfInBounds_toArray, List.set_cons_zero, List.set_cons_succ]
              have HR2 := HS.row1.grown hown2 hgr2
              clear hown2 hgr2 HS
              refine wpAny_one (i := 13) (by kernel_rfl) ?_
              refine wpOp_run rfl rfl (wp_append_rowX (.tmp 35) (.tmp 38) 33 (d := 39) rfl rfl w.heap.size 38 i0 (.agg #[.string ⟨#[]⟩, .string ⟨#[]⟩]) 2 32 Tryz.underlying33 hi hz0 hz1 hz2 rfl (by decide) _ (k + 1) (cellsM (L.take k) ++ [Value.string key, Value.string p]) rfl HR2.row (if cap = k then some ⟨g, 0, none⟩ else some ⟨g, k * 2, none⟩) (N - k) (cap - k) (cellsM (L.drop k)) rfl HNL.out.2.2.1 (HNF.out _ HR2.below) (fun h => by split at h <;> cases h) HNL.out.2.2.2 (by unfold maxLen; omega) (by omega) HR2.below.size ?_)
              intro v3 W3 hown3 hgr3 _
              simp only [Act.put, List.setIfInBounds_toArray, List.set_cons_zero, List.set_cons_succ]
              have HR3 := HR2.grown hown3 hgr3
              clear hown3 hgr3 HR2
              refine wpAny_takeD (i := 14) (d := 6) (v := v3) rfl rfl (by kernel_rfl) (by kernel_rfl) (by kernel_rfl) (fun _ _ _ h => h) rfl (fun W => by go_simp) ?_
              simp only [Act.put, List.setIfInBounds_toArray, List.set_cons_zero, List.set_cons_succ]
              refine wpAny_done (by kernel_rfl) ?_ _
              have HF := Lib.hid (And.intro HR3.row HR3.below)
              clear HR3
              go_wp2_with fail
              all_goals
                go_ret
                refine ⟨_, rfl, row_base ?_ hbase, HF.out.2⟩
                have h := HF.out.1
                rw [← HFIN.out] at h
                rw [show k + 1 + (N - k) = N + 1 by omega] at h; exact h
            · refine wpOp_run rfl rfl (wp_value (d := 34) (v := .slice (some ⟨(W.alloc (.cells #[] 38)).heap.size, 0, none⟩) 1 1) (w' := (W.alloc (.cells #[] 38)).alloc (.cells #[.string key, .string p] 38)) rfl (by go_simp) ?_)
              simp only [Act.put, List.setIfInBounds_toArray, List.set_cons_zero, List.set_cons_succ]
              have HS0 := HA.new key p
              clear HA
              generalize (W.alloc (.cells #[] 38)).heap.size = B at *
              refine wpAny_one (i := 4) (by kernel_rfl) ?_
              refine wpOp_run rfl rfl (wp_append_rowX (.tmp 26) (.tmp 29) 33 (d := 30) rfl rfl w.heap.size 38 i0 (.agg #[.string ⟨#[]⟩, .string ⟨#[]⟩]) 2 32 Tryz.underlying33 hi hz0 hz1 hz2 rfl (by decide) _ 0 [] rfl HS0.row (some ⟨g, 0, none⟩) k cap (cellsM (L.take k)) rfl HNL.out.1 (HNB.out _ HS0.below) (fun h => by cases h) HNL.out.2.1 (by unfold maxLen; omega) (by omega) HS0.below.size ?_)
              intro v1 W1 hown1 hgr1 ho1
              simp only [Act.put, List.setIfInBounds_toArray, List.set_cons_zero, List.set_cons_succ]
              rw [Nat.zero_add, List.nil_append] at hown1
              have HS := HS0.grown hown1 hgr1 ho1
              clear hown1 hgr1 ho1
              clear HS0
              refine wpAny_one (i := 9) (by kernel_rfl) ?_
              refine wpOp_run rfl rfl (wp_append_rowX (.tmp 30) (.tmp 34) 33 (d := 35) rfl rfl w.heap.size 38 i0 (.agg #[.string ⟨#[]⟩, .string ⟨#[]⟩]) 2 32 Tryz.underlying33 hi hz0 hz1 hz2 rfl (by decide) _ k (cellsM (L.take k)) rfl HS.row (some ⟨B, 0, none⟩) 1 1 [Value.string key, Value.string p] rfl rfl (fun ad had => by cases had; exact World.news_of_block HS.blk) (fun h => by cases h) (by intro u hu; simp at hu; rcases hu with rfl | rfl <;> rfl) (by unfold maxLen; omega) (by omega) HS.below.size ?_)
              intro v2 W2 hown2 hgr2 _
              simp only [Act.put, List.setIfInBounds_toArray, List.set_cons_zero, List.set_cons_succ]
              have HR2 := HS.row1.grown hown2 hgr2
              clear hown2 hgr2 HS
              refine wpAny_one (i := 13) (by kernel_rfl) ?_
              refine wpOp_run rfl rfl (wp_append_rowX (.tmp 35) (.tmp 38) 33 (d := 39) rfl rfl w.heap.size 38 i0 (.agg #[.string ⟨#[]⟩, .string ⟨#[]⟩]) 2 32 Tryz.underlying33 hi hz0 hz1 hz2 rfl (by decide) _ (k + 1) (cellsM (L.take k) ++ [Value.string key, Value.string p]) rfl HR2.row (if cap = k then some ⟨g, 0, none⟩ else some ⟨g, k * 2, none⟩) (N - k) (cap - k) (cellsM (L.drop k)) rfl HNL.out.2.2.1 (HNF.out _ HR2.below) (fun h => by split at h <;> cases h) HNL.out.2.2.2 (by unfold maxLen; omega) (by omega) HR2.below.size ?_)
              intro v3 W3 hown3 hgr3 _
              simp only [Act.put, List.setIfInBounds_toArray, List.set_cons_zero, List.set_cons_succ]
              have HR3 := HR2.grown hown3 hgr3
              clear hown3 hgr3 HR2
              refine wpAny_takeD (i := 14) (d := 6) (v := v3) rfl rfl (by kernel_rfl) (by kernel_rfl) (by kernel_rfl) (fun _ _ _ h => h) rfl (fun W => by go_simp) ?_
              simp only [Act.put, List.setIfInBounds_toArray, List.set_cons_zero, List.set_cons_succ]
              refine wpAny_done (by kernel_rfl) ?_ _
              have HF := Lib.hid (And.intro HR3.row HR3.below)
              clear HR3
              go_wp2_with fail
              all_goals
                go_ret
                refine ⟨_, rfl, row_base ?_ hbase, HF.out.2⟩
                have h := HF.out.1
                rw [← HFIN.out] at h
                rw [show k + 1 + (N - k) = N + 1 by omega] at h; exact h
          · refine wpOp_run rfl rfl (wp_value (d := 34) (v := .slice (some ⟨W.heap.size, 0, none⟩) 1 1) (w' := W.alloc (.cells #[.string key, .string p] 38)) rfl (by go_simp) ?_)
            simp only [Act.put, List.setIfInBounds_toArray, List.set_cons_zero, List.set_cons_succ]
            have HB := AddB.new key p HD
            refine wpAny_one (i := 0) (by kernel_rfl) ?_
            refine wpOp_run rfl rfl (wp_value (d := 26) (v := .slice (some ⟨(W.alloc (.cells #[.string key, .string p] 38)).heap.size, 0, none⟩) 0 0) (w' := (W.alloc (.cells #[.string key, .string p] 38)).alloc (.cells #[] 38)) rfl (by go_simp) ?_)
            simp only [Act.put, List.setIfInBounds_toArray, List.set_cons_zero, List.set_cons_succ]
            have HS0 := HB.lit
            clear HB
            refine wpAny_one (i := 4) (by kernel_rfl) ?_
            refine wpOp_run rfl rfl (wp_append_rowX (.tmp 26) (.tmp 29) 33 (d := 30) rfl rfl w.heap.size 38 i0 (.agg #[.string ⟨#[]⟩, .string ⟨#[]⟩]) 2 32 Tryz.underlying33 hi hz0 hz1 hz2 rfl (by decide) _ 0 [] rfl HS0.row (some ⟨g, 0, none⟩) k cap (cellsM (L.take k)) rfl HNL.out.1 (HNB.out _ HS0.below) (fun h => by cases h) HNL.out.2.1 (by unfold maxLen; omega) (by omega) HS0.below.size ?_)
            intro v1 W1 hown1 hgr1 ho1
            simp only [Act.put, List.setIfInBounds_toArray, List.set_cons_zero, List.set_cons_succ]
            rw [Nat.zero_add, List.nil_append] at hown1
            have HS := HS0.grown hown1 hgr1 ho1
            clear hown1 hgr1 ho1
            clear HS0
            generalize W.heap.size = B at *
            refine wpAny_one (i := 9) (by kernel_rfl) ?_
            refine wpOp_run rfl rfl (wp_append_rowX (.tmp 30) (.tmp 34) 33 (d := 35) rfl rfl w.heap.size 38 i0 (.agg #[.string ⟨#[]⟩, .string ⟨#[]⟩]) 2 32 Tryz.underlying33 hi hz0 hz1 hz2 rfl (by decide) _ k (cellsM (L.take k)) rfl HS.row (some ⟨B, 0, none⟩) 1 1 [Value.string key, Value.string p] rfl rfl (fun ad had => by cases had; exact World.news_of_block HS.blk) (fun h => by cases h) (by intro u hu; simp at hu; rcases hu with rfl | rfl <;> rfl) (by unfold maxLen; omega) (by omega) HS.below.size ?_)
            intro v2 W2 hown2 hgr2 _
            simp only [Act.put, List.setIfInBounds_toArray, List.set_cons_zero, List.set_cons_succ]
            have HR2 := HS.row1.grown hown2 hgr2
            clear hown2 hgr2 HS
            refine wpAny_one (i := 13) (by kernel_rfl) ?_
            refine wpOp_run rfl rfl (wp_append_rowX (.tmp 35) (.tmp 38) 33 (d := 39) rfl rfl w.heap.size 38 i0 (.agg #[.string ⟨#[]⟩, .string ⟨#[]⟩]) 2 32 Tryz.underlying33 hi hz0 hz1 hz2 rfl (by decide) _ (k + 1) (cellsM (L.take k) ++ [Value.string key, Value.string p]) rfl HR2.row (if cap = k then some ⟨g, 0, none⟩ else some ⟨g, k * 2, none⟩) (N - k) (cap - k) (cellsM (L.drop k)) rfl HNL.out.2.2.1 (HNF.out _ HR2.below) (fun h => by split at h <;> cases h) HNL.out.2.2.2 (by unfold maxLen; omega) (by omega) HR2.below.size ?_)
            intro v3 W3 hown3 hgr3 _
            simp only [Act.put, List.setIfInBounds_toArray, List.set_cons_zero, List.set_cons_succ]
            have HR3 := HR2.grown hown3 hgr3
            clear hown3 hgr3 HR2
            refine wpAny_takeD (i := 14) (d := 6) (v := v3) rfl rfl (by kernel_rfl) (by kernel_rfl) (by kernel_rfl) (fun _ _ _ h => h) rfl (fun W => by go_simp) ?_
            simp only [Act.put, List.setIfInBounds_toArray, List.set_cons_zero, List.set_cons_succ]
            refine wpAny_done (by kernel_rfl) ?_ _
            have HF := Lib.hid (And.intro HR3.row HR3.below)
            clear HR3
            go_wp2_with fail
            all_goals
              go_ret
              refine ⟨_, rfl, row_base ?_ hbase, HF.out.2⟩
              have h := HF.out.1
              rw [← HFIN.out] at h
              rw [show k + 1 + (N - k) = N + 1 by omega] at h; exact h
        · have hkk : ¬ k < N := hkN
          have hk0 : (0 : Int) ≤ (k : Int) := by omega
          have hk1 : (k : Int) ≤ (N : Int) := by omega
          have hk2 : (k : Int) ≤ (cap : Int) := by omega
          have hk3 : (N : Int) ≤ (cap : Int) := by omega
          go_wp2_with fail
          refine wp_region_any (by kernel_rfl) ?_
          have HD : Below w.heap.size w w.drew := (Below.refl w.heap.size w).drew
          change wpAny _ _ _ _ 15 _ _ w.drew
          generalize w.drew = W at *
          refine wpAny_takeD (i := 1) (d := 27) (v := .slice (some ⟨g, 0, none⟩) N cap) rfl rfl (by kernel_rfl) (by kernel_rfl) (by kernel_rfl) (fun _ _ _ h => h) rfl (fun W => by go_simp) ?_
          simp only [Act.put, List.setIfInBounds_toArray, List.set_cons_zero, List.set_cons_succ]
          refine wpAny_takeD (i := 2) (d := 28) (v := .int .i64 (k : Int)) rfl rfl (by kernel_rfl) (by kernel_rfl) (by kernel_rfl) (fun _ _ _ h => h) rfl (fun W => by go_simp) ?_
          simp only [Act.put, List.setIfInBounds_toArray, List.set_cons_zero, List.set_cons_succ]
          refine wpAny_takeD (i := 3) (d := 29) (v := .slice (some ⟨g, 0, none⟩) k cap) rfl rfl (by kernel_rfl) (by kernel_rfl) (by kernel_rfl) (fun _ _ _ h => h) rfl (fun W => by go_simp) ?_
          simp only [Act.put, List.setIfInBounds_toArray, List.set_cons_zero, List.set_cons_succ]
          refine wpAny_takeD (i := 5) (d := 31) (v := .string key) rfl rfl (by kernel_rfl) (by kernel_rfl) (by kernel_rfl) (fun _ _ _ h => h) rfl (fun W => by go_simp) ?_
          simp only [Act.put, List.setIfInBounds_toArray, List.set_cons_zero, List.set_cons_succ]
          refine wpAny_takeD (i := 6) (d := 32) (v := .string p) rfl rfl (by kernel_rfl) (by kernel_rfl) (by kernel_rfl) (fun _ _ _ h => h) rfl (fun W => by go_simp) ?_
          simp only [Act.put, List.setIfInBounds_toArray, List.set_cons_zero, List.set_cons_succ]
          refine wpAny_takeD (i := 7) (d := 33) (v := .agg #[.string key, .string p]) rfl rfl (by kernel_rfl) (by kernel_rfl) (by kernel_rfl) (fun _ _ _ h => h) rfl (fun W => by go_simp) ?_
          simp only [Act.put, List.setIfInBounds_toArray, List.set_cons_zero, List.set_cons_succ]
          refine wpAny_takeD (i := 10) (d := 36) (v := .slice (some ⟨g, 0, none⟩) N cap) rfl rfl (by kernel_rfl) (by kernel_rfl) (by kernel_rfl) (fun _ _ _ h => h) rfl (fun W => by go_simp) ?_
          simp only [Act.put, List.setIfInBounds_toArray, List.set_cons_zero, List.set_cons_succ]
          refine wpAny_takeD (i := 11) (d := 37) (v := .int .i64 (k : Int)) rfl rfl (by kernel_rfl) (by kernel_rfl) (by kernel_rfl) (fun _ _ _ h => h) rfl (fun W => by go_simp) ?_
          simp only [Act.put, List.setIfInBounds_toArray, List.set_cons_zero, List.set_cons_succ]
          refine wpAny_takeD (i := 12) (d := 38) (v := .slice (if cap = k then some ⟨g, 0, none⟩ else some ⟨g, k * 2, none⟩) (N - k) (cap - k)) rfl rfl (by kernel_rfl) (by kernel_rfl) (by kernel_rfl) (fun _ _ _ h => h) rfl (fun W => by go_simp) ?_
          simp only [Act.put, List.setIfInBounds_toArray, List.set_cons_zero, List.set_cons_succ]
          refine wpAny_two (i := 0) (j := 8) (by kernel_rfl) ?_ ?_
          · refine wpOp_run rfl rfl (wp_value (d := 26) (v := .slice (some ⟨W.heap.size, 0, none⟩) 0 0) (w' := W.alloc (.cells #[] 38)) rfl (by go_simp) ?_)
            simp only [Act.put, List.setIfInBounds_toArray, List.set_cons_zero, List.set_cons_succ]
            have HA := AddR.lit HD
            refine wpAny_two (i := 4) (j := 8) (by kernel_rfl) ?_ ?_
            · refine wpOp_run rfl rfl (wp_append_rowX (.tmp 26) (.tmp 29) 33 (d := 30) rfl rfl w.heap.size 38 i0 (.agg #[.string ⟨#[]⟩, .string ⟨#[]⟩]) 2 32 Tryz.underlying33 hi hz0 hz1 hz2 rfl (by decide) _ 0 [] rfl HA.row (some ⟨g, 0, none⟩) k cap (cellsM (L.take k)) rfl HNL.out.1 (HNB.out _ HA.below) (fun h => by cases h) HNL.out.2.1 (by unfold maxLen; omega) (by omega) HA.below.size ?_)
              intro v1 W1 hown1 hgr1 ho1
              simp only [Act.put, List.setIfInBounds_toArray, List.set_cons_zero, List.set_cons_succ]
              rw [Nat.zero_add, List.nil_append] at hown1
              have HC := HA.grown hown1 hgr1
              clear hown1 hgr1 ho1
              refine wpAny_one (i := 8) (by kernel_rfl) ?_
              refine wpOp_run rfl rfl (wp_value (d := 34) (v := .slice (some ⟨W1.heap.size, 0, none⟩) 1 1) (w' := W1.alloc (.cells #[.string key, .string p] 38)) rfl (by go_simp) ?_)
              simp only [Act.put, List.setIfInBounds_toArray, List.set_cons_zero, List.set_cons_succ]
              have HS := HC.new key p
              generalize W1.heap.size = B at *
              generalize World.alloc W1 _ = W9 at *
              clear HC
              refine wpAny_one (i := 9) (by kernel_rfl) ?_
              refine wpOp_run rfl rfl (wp_append_rowX (.tmp 30) (.tmp 34) 33 (d := 35) rfl rfl w.heap.size 38 i0 (.agg #[.string ⟨#[]⟩, .string ⟨#[]⟩]) 2 32 Tryz.underlying33 hi hz0 hz1 hz2 rfl (by decide) _ k (cellsM (L.take k)) rfl HS.row (some ⟨B, 0, none⟩) 1 1 [Value.string key, Value.string p] rfl rfl (fun ad had => by cases had; exact World.news_of_block HS.blk) (fun h => by cases h) (by intro u hu; simp at hu; rcases hu with rfl | rfl <;> rfl) (by unfold maxLen; omega) (by omega) HS.below.size ?_)
              intro v2 W2 hown2 hgr2 _
              simp only [Act.put, List.setIfInBounds_toArray, List.set_cons_zero, List.set_cons_succ]
              have HR2 := HS.row1.grown hown2 hgr2
              clear hown2 hgr2 HS
              refine wpAny_one (i := 13) (by kernel_rfl) ?_
              refine wpOp_run rfl rfl (wp_append_rowX (.tmp 35) (.tmp 38) 33 (d := 39) rfl rfl w.heap.size 38 i0 (.agg #[.string ⟨#[]⟩, .string ⟨#[]⟩]) 2 32 Tryz.underlying33 hi hz0 hz1 hz2 rfl (by decide) _ (k + 1) (cellsM (L.take k) ++ [Value.string key, Value.string p]) rfl HR2.row (if cap = k then some ⟨g, 0, none⟩ else some ⟨g, k * 2, none⟩) (N - k) (cap - k) (cellsM (L.drop k)) rfl HNL.out.2.2.1 (HNF.out _ HR2.below) (fun h => by split at h <;> cases h) HNL.out.2.2.2 (by unfold maxLen; omega) (by omega) HR2.below.size ?_)
              intro v3 W3 hown3 hgr3 _
              simp only [Act.put, List.setIfInBounds_toArray, List.set_cons_zero, List.set_cons_succ]
              have HR3 := HR2.grown hown3 hgr3
              clear hown3 hgr3 HR2
              refine wpAny_takeD (i := 14) (d := 6) (v := v3) rfl rfl (by kernel_rfl) (by kernel_rfl) (by kernel_rfl) (fun _ _ _ h => h) rfl (fun W => by go_simp) ?_
              simp only [Act.put, List.setIfInBounds_toArray, List.set_cons_zero, List.set_cons_succ]
              refine wpAny_done (by kernel_rfl) ?_ _
              have HF := Lib.hid (And.intro HR3.row HR3.below)
              clear HR3
              go_wp2_with fail
              all_goals
                go_ret
                refine ⟨_, rfl, row_base ?_ hbase, HF.out.2⟩
                have h := HF.out.1
                rw [← HFIN.out] at h
                rw [show k + 1 + (N - k) = N + 1 by omega] at h; exact h
            · refine wpOp_run rfl rfl (wp_value (d := 34) (v := .slice (some ⟨(W.alloc (.cells #[] 38)).heap.size, 0, none⟩) 1 1) (w' := (W.alloc (.cells #[] 38)).alloc (.cells #[.string key, .string p] 38)) rfl (by go_simp) ?_)
              simp only [Act.put, List.setIfInBounds_toArray, List.set_cons_zero, List.set_cons_succ]
              have HS0 := HA.new key p
              clear HA
              generalize (W.alloc (.cells #[] 38)).heap.size = B at *
              refine wpAny_one (i := 4) (by kernel_rfl) ?_
              refine wpOp_run rfl rfl (wp_append_rowX (.tmp 26) (.tmp 29) 33 (d := 30) rfl rfl w.heap.size 38 i0 (.agg #[.string ⟨#[]⟩, .string ⟨#[]⟩]) 2 32 Tryz.underlying33 hi hz0 hz1 hz2 rfl (by decide) _ 0 [] rfl HS0.row (some ⟨g, 0, none⟩) k cap (cellsM (L.take k)) rfl HNL.out.1 (HNB.out _ HS0.below) (fun h => by cases h) HNL.out.2.1 (by unfold maxLen; omega) (by omega) HS0.below.size ?_)
              intro v1 W1 hown1 hgr1 ho1
              simp only [Act.put, List.setIfInBounds_toArray, List.set_cons_zero, List.set_cons_succ]
              rw [Nat.zero_add, List.nil_append] at hown1
              have HS := HS0.grown hown1 hgr1 ho1
              clear hown1 hgr1 ho1
              clear HS0
              refine wpAny_one (i := 9) (by kernel_rfl) ?_
              refine wpOp_run rfl rfl (wp_append_rowX (.tmp 30) (.tmp 34) 33 (d := 35) rfl rfl w.heap.size 38 i0 (.agg #[.string ⟨#[]⟩, .string ⟨#[]⟩]) 2 32 Tryz.underlying33 hi hz0 hz1 hz2 rfl (by decide) _ k (cellsM (L.take k)) rfl HS.row (some ⟨B, 0, none⟩) 1 1 [Value.string key, Value.string p] rfl rfl (fun ad had => by cases had; exact World.news_of_block HS.blk) (fun h => by cases h) (by intro u hu; simp at hu; rcases hu with rfl | rfl <;> rfl) (by unfold maxLen; omega) (by omega) HS.below.size ?_)
              intro v2 W2 hown2 hgr2 _
              simp only [Act.put, List.setIfInBounds_toArray, List.set_cons_zero, List.set_cons_succ]
              have HR2 := HS.row1.grown hown2 hgr2
              clear hown2 hgr2 HS
              refine wpAny_one (i := 13) (by kernel_rfl) ?_
              refine wpOp_run rfl rfl (wp_append_rowX (.tmp 35) (.tmp 38) 33 (d := 39) rfl rfl w.heap.size 38 i0 (.agg #[.string ⟨#[]⟩, .string ⟨#[]⟩]) 2 32 Tryz.underlying33 hi hz0 hz1 hz2 rfl (by decide) _ (k + 1) (cellsM (L.take k) ++ [Value.string key, Value.string p]) rfl HR2.row (if cap = k then some ⟨g, 0, none⟩ else some ⟨g, k * 2, none⟩) (N - k) (cap - k) (cellsM (L.drop k)) rfl HNL.out.2.2.1 (HNF.out _ HR2.below) (fun h => by split at h <;> cases h) HNL.out.2.2.2 (by unfold maxLen; omega) (by omega) HR2.below.size ?_)
              intro v3 W3 hown3 hgr3 _
              simp only [Act.put, List.setIfInBounds_toArray, List.set_cons_zero, List.set_cons_succ]
              have HR3 := HR2.grown hown3 hgr3
              clear hown3 hgr3 HR2
              refine wpAny_takeD (i := 14) (d := 6) (v := v3) rfl rfl (by kernel_rfl) (by kernel_rfl) (by kernel_rfl) (fun _ _ _ h => h) rfl (fun W => by go_simp) ?_
              simp only [Act.put, List.setIfInBounds_toArray, List.set_cons_zero, List.set_cons_succ]
              refine wpAny_done (by kernel_rfl) ?_ _
              have HF := Lib.hid (And.intro HR3.row HR3.below)
              clear HR3
              go_wp2_with fail
              all_goals
                go_ret
                refine ⟨_, rfl, row_base ?_ hbase, HF.out.2⟩
                have h := HF.out.1
                rw [← HFIN.out] at h
                rw [show k + 1 + (N - k) = N + 1 by omega] at h; exact h
          · refine wpOp_run rfl rfl (wp_value (d := 34) (v := .slice (some ⟨W.heap.size, 0, none⟩) 1 1) (w' := W.alloc (.cells #[.string key, .string p] 38)) rfl (by go_simp) ?_)
            simp only [Act.put, List.setIfInBounds_toArray, List.set_cons_zero, List.set_cons_succ]
            have HB := AddB.new key p HD
            refine wpAny_one (i := 0) (by kernel_rfl) ?_
            refine wpOp_run rfl rfl (wp_value (d := 26) (v := .slice (some ⟨(W.alloc (.cells #[.string key, .string p] 38)).heap.size, 0, none⟩) 0 0) (w' := (W.alloc (.cells #[.string key, .string p] 38)).alloc (.cells #[] 38)) rfl (by go_simp) ?_)
            simp only [Act.put, List.setIfInBounds_toArray, List.set_cons_zero, List.set_cons_succ]
            have HS0 := HB.lit
            clear HB
            refine wpAny_one (i := 4) (by kernel_rfl) ?_
            refine wpOp_run rfl rfl (wp_append_rowX (.tmp 26) (.tmp 29) 33 (d := 30) rfl rfl w.heap.size 38 i0 (.agg #[.string ⟨#[]⟩, .string ⟨#[]⟩]) 2 32 Tryz.underlying33 hi hz0 hz1 hz2 rfl (by decide) _ 0 [] rfl HS0.row (some ⟨g, 0, none⟩) k cap (cellsM (L.take k)) rfl HNL.out.1 (HNB.out _ HS0.below) (fun h => by cases h) HNL.out.2.1 (by unfold maxLen; omega) (by omega) HS0.below.size ?_)
            intro v1 W1 hown1 hgr1 ho1
            simp only [Act.put, List.setIfInBounds_toArray, List.set_cons_zero, List.set_cons_succ]
            rw [Nat.zero_add, List.nil_append] at hown1
            have HS := HS0.grown hown1 hgr1 ho1
            clear hown1 hgr1 ho1
            clear HS0
            generalize W.heap.size = B at *
            refine wpAny_one (i := 9) (by kernel_rfl) ?_
            refine wpOp_run rfl rfl (wp_append_rowX (.tmp 30) (.tmp 34) 33 (d := 35) rfl rfl w.heap.size 38 i0 (.agg #[.string ⟨#[]⟩, .string ⟨#[]⟩]) 2 32 Tryz.underlying33 hi hz0 hz1 hz2 rfl (by decide) _ k (cellsM (L.take k)) rfl HS.row (some ⟨B, 0, none⟩) 1 1 [Value.string key, Value.string p] rfl rfl (fun ad had => by cases had; exact World.news_of_block HS.blk) (fun h => by cases h) (by intro u hu; simp at hu; rcases hu with rfl | rfl <;> rfl) (by unfold maxLen; omega) (by omega) HS.below.size ?_)
            intro v2 W2 hown2 hgr2 _
            simp only [Act.put, List.setIfInBounds_toArray, List.set_cons_zero, List.set_cons_succ]
            have HR2 := HS.row1.grown hown2 hgr2
            clear hown2 hgr2 HS
            refine wpAny_one (i := 13) (by kernel_rfl) ?_
            refine wpOp_run rfl rfl (wp_append_rowX (.tmp 35) (.tmp 38) 33 (d := 39) rfl rfl w.heap.size 38 i0 (.agg #[.string ⟨#[]⟩, .string ⟨#[]⟩]) 2 32 Tryz.underlying33 hi hz0 hz1 hz2 rfl (by decide) _ (k + 1) (cellsM (L.take k) ++ [Value.string key, Value.string p]) rfl HR2.row (if cap = k then some ⟨g, 0, none⟩ else some ⟨g, k * 2, none⟩) (N - k) (cap - k) (cellsM (L.drop k)) rfl HNL.out.2.2.1 (HNF.out _ HR2.below) (fun h => by split at h <;> cases h) HNL.out.2.2.2 (by unfold maxLen; omega) (by omega) HR2.below.size ?_)
            intro v3 W3 hown3 hgr3 _
            simp only [Act.put, List.setIfInBounds_toArray, List.set_cons_zero, List.set_cons_succ]
            have HR3 := HR2.grown hown3 hgr3
            clear hown3 hgr3 HR2
            refine wpAny_takeD (i := 14) (d := 6) (v := v3) rfl rfl (by kernel_rfl) (by kernel_rfl) (by kernel_rfl) (fun _ _ _ h => h) rfl (fun W => by go_simp) ?_
            simp only [Act.put, List.setIfInBounds_toArray, List.set_cons_zero, List.set_cons_succ]
            refine wpAny_done (by kernel_rfl) ?_ _
            have HF := Lib.hid (And.intro HR3.row HR3.below)
            clear HR3
            go_wp2_with fail
            all_goals
              go_ret
              refine ⟨_, rfl, row_base ?_ hbase, HF.out.2⟩
              have h := HF.out.1
              rw [← HFIN.out] at h
              rw [show k + 1 + (N - k) = N + 1 by omega] at h; exact h

open Go.RowKit NV
open Go.Lib (decDigits)

/-- A list of outcomes with one more, unless it is impossible. -/
def addF (k p : ByteArray) (L : List (ByteArray × ByteArray)) : List (ByteArray × ByteArray) := if (p.toList == [48]) = true then L else addM k p L
theorem addM_len (k p : ByteArray) : ∀ L, (addM k p L).length = L.length + 1
  | [] => rfl
  | x :: L => by unfold addM; split <;> simp [addM_len k p L]
theorem addM_last {k p : ByteArray} : ∀ {L : List (ByteArray × ByteArray)}, (∀ x ∈ L, x.1.data.toList < k.data.toList) → addM k p L = L ++ [(k, p)]
  | [], _ => rfl
  | x :: L, h => by
    unfold addM
    rw [if_pos (h x (List.mem_cons_self ..)), addM_last (fun y hy => h y (List.mem_cons_of_mem _ hy))]; rfl
theorem addF_last {k p : ByteArray} {L : List (ByteArray × ByteArray)} (h : ∀ x ∈ L, x.1.data.toList < k.data.toList) : addF k p L = L ++ fltM [(k, p)] := by
  unfold addF
  cases hz : (p.toList == [48]) with
  | true => rw [if_pos rfl, fltM_no hz, List.append_nil]
  | false => rw [if_neg (by simp), fltM_yes hz, addM_last h]

theorem rAdd_any {v : Value} {key p : ByteArray} {L : List (ByteArray × ByteArray)} {base : Nat} (hL : L.length ≤ 1000) (w : World) (hbase : base ≤ w.heap.size) (hrow : w.ownsRow base 38 2 v L.length (cellsM L)) :
    Calls Tryz.prog 68 #[v, .string key, .string p] w fun e w' => ∃ v', e = .returned v' ∧ w'.ownsRow base 38 2 v' (addF key p L).length (cellsM (addF key p L)) ∧ Below w.heap.size w w' := by
  unfold addF
  cases hz : (p.toList == [48]) with
  | true => rw [if_pos rfl]; exact (rAdd_zero hz w).mono fun e w' ⟨h1, h2⟩ => ⟨_, h1, h2 ▸ hrow, h2 ▸ Below.refl _ _⟩
  | false => rw [if_neg (by simp), addM_len]; exact rAdd_ok hz hL w hbase hrow

set_option maxHeartbeats 3200000 in
set_option maxRecDepth 100000 in
theorem rLate_err {s : ByteArray} {n c : Int} (hs : s.size ≤ 1000000) (hc : (prE s ≠ 0 ∧ c = ((prE s : Nat) : Int)) ∨ (prE s = 0 ∧ (n < 0 ∨ 256 < n) ∧ c = 2)) (w : World) :
    Calls Tryz.prog 14 #[.string s, .int .i64 n] w fun e w' => e = .returned (.tuple #[.string ⟨#[]⟩, .int .i64 c]) ∧ Below w.heap.size w w' := by
  have HP := Lib.hid (rProbability_any hs w)
  rcases hc with ⟨h1, rfl⟩ | ⟨h1, h2, rfl⟩
  · have hne := errne h1
    generalize prE s = c at *
    clear h1
    go_enter Tryz.func14, Tryz.ntmps14
    go_wp2_with fail
    refine HP.out.mono ?_
    rintro e w1 ⟨rfl, hb⟩
    have HB := Lib.hid hb
    clear hb HP
    go_wp2_with fail
    go_ret2
    exact ⟨rfl, HB.out⟩
  · rw [h1] at HP
    clear h1
    rcases h2 with h2 | h2
    · go_enter Tryz.func14, Tryz.ntmps14
      go_wp2_with fail
      refine HP.out.mono ?_
      rintro e w1 ⟨rfl, hb⟩
      have HB := Lib.hid hb
      clear hb HP
      go_wp2_with fail
      go_ret2
      exact ⟨rfl, HB.out⟩
    · have h0 : ¬ n < 0 := by omega
      go_enter Tryz.func14, Tryz.ntmps14
      go_wp2_with fail
      refine HP.out.mono ?_
      rintro e w1 ⟨rfl, hb⟩
      have HB := Lib.hid hb
      clear hb HP
      go_wp2_with fail
      go_ret2
      exact ⟨rfl, HB.out⟩

set_option maxHeartbeats 3200000 in
set_option maxRecDepth 100000 in
theorem rLaw_err {s : ByteArray} {n c : Int} (hs : s.size ≤ 1000000) (hc : (prE s ≠ 0 ∧ c = ((prE s : Nat) : Int)) ∨ (prE s = 0 ∧ (n < 0 ∨ 256 < n) ∧ c = 2)) (w : World) :
    Calls Tryz.prog 16 #[.string s, .int .i64 n] w fun e w' => e = .returned (.tuple #[.slice none 0 0, .int .i64 c]) ∧ Below w.heap.size w w' := by
  have HP := Lib.hid (rProbability_any hs w)
  rcases hc with ⟨h1, rfl⟩ | ⟨h1, h2, rfl⟩
  · have hne := errne h1
    generalize prE s = c at *
    clear h1
    go_enter Tryz.func16, Tryz.ntmps16
    go_wp2_with fail
    refine HP.out.mono ?_
    rintro e w1 ⟨rfl, hb⟩
    have HB := Lib.hid hb
    clear hb HP
    go_wp2_with fail
    go_ret2
    exact ⟨rfl, HB.out⟩
  · rw [h1] at HP
    clear h1
    rcases h2 with h2 | h2
    · go_enter Tryz.func16, Tryz.ntmps16
      go_wp2_with fail
      refine HP.out.mono ?_
      rintro e w1 ⟨rfl, hb⟩
      have HB := Lib.hid hb
      clear hb HP
      go_wp2_with fail
      go_ret2
      exact ⟨rfl, HB.out⟩
    · have h0 : ¬ n < 0 := by omega
      go_enter Tryz.func16, Tryz.ntmps16
      go_wp2_with fail
      refine HP.out.mono ?_
      rintro e w1 ⟨rfl, hb⟩
      have HB := Lib.hid hb
      clear hb HP
      go_wp2_with fail
      go_ret2
      exact ⟨rfl, HB.out⟩

set_option maxHeartbeats 3200000 in
set_option maxRecDepth 100000 in
theorem rLate_ok {q : Rat} (op : QOk q) (hp : probE q = 0) {n : Nat} (hn : n ≤ 256) (w : World) :
    Calls Tryz.prog 14 #[.string (qstr q), .int .i64 (n : Int)] w fun e w' => e = .returned (.tuple #[.string (qstr (cQ (cLate q n) n)), .int .i64 0]) ∧ Below w.heap.size w w' := by
  obtain ⟨g1, g2⟩ := counts_le (probE_ok hp).2.1 n
  have gl : cLate q n ≤ 2 ^ n := Nat.le_trans g2 (Nat.sub_le _ _)
  have hpp := rProbability_q op w
  rw [hp] at hpp
  have HP := Lib.hid hpp
  have HO := Lib.hid (fun W => rones_ok op hp hn W)
  have HT := Lib.hid (fun W => rTwo_ok n hn W)
  have HS := Lib.hid (fun (W : World) (x : Value) (hx : INum W x (cLate q n)) => rShare_ok hn gl W hx)
  have HE := Lib.hid (show 2 ^ n - (2 ^ n - cLate q n) = cLate q n by omega)
  have HL := Lib.hid (And.intro (lnb (a := 2 ^ n) n (by omega) (Nat.le_refl _)) (show 2 ^ n - cLate q n ≤ 2 ^ n from Nat.sub_le _ _))
  generalize qstr (cQ (cLate q n) n) = sl at *
  generalize qstr q = s at *
  clear hpp g1 g2 gl op hp
  go_enter Tryz.func14, Tryz.ntmps14
  go_wp2_with fail
  refine HP.out.mono ?_
  rintro e w1 ⟨rfl, hb⟩
  have HB := Lib.hid hb
  clear hb HP
  go_wp2_with fail
  refine (HO.out _).mono ?_
  rintro e w2 ⟨x, y, rfl, hx, hy, hb⟩
  obtain ⟨a1, k1, rfl⟩ := islice_any hx
  obtain ⟨a2, k2, rfl⟩ := islice_any hy
  replace HB := Lib.hid (HB.out.trans (hb.mono HB.out.size))
  have HX := Lib.hid hy
  clear hx hy hb HO
  go_wp2_with fail
  refine (HT.out _).mono ?_
  rintro e w3 ⟨v, rfl, hv, hb⟩
  obtain ⟨a3, k3, rfl⟩ := islice_any hv
  replace HB := Lib.hid (HB.out.trans (hb.mono HB.out.size))
  replace HX := Lib.hid (And.intro (HX.out.below hb) hv)
  clear hv hb HT
  go_wp2_with fail
  refine (iminus_any HX.out.2 HX.out.1 (Nat.le_trans HL.out.1 (by omega)) HL.out.2).mono ?_
  rintro e w4 ⟨v, rfl, hv, hb⟩
  rw [HE.out] at hv
  obtain ⟨a4, k4, rfl⟩ := islice_any hv
  replace HB := Lib.hid (HB.out.trans (hb.mono HB.out.size))
  replace HX := Lib.hid hv
  clear hv hb
  go_wp2_with fail
  refine (HS.out _ _ HX.out).mono ?_
  rintro e w5 ⟨rfl, hb⟩
  replace HB := Lib.hid (HB.out.trans (hb.mono HB.out.size))
  clear hb HX
  go_wp2_with fail
  go_ret2
  exact ⟨rfl, HB.out⟩

set_option maxHeartbeats 6400000 in
set_option maxRecDepth 100000 in
theorem rLaw_ok {q : Rat} (op : QOk q) (hp : probE q = 0) {n : Nat} (hn : n ≤ 256) (w : World) :
    Calls Tryz.prog 16 #[.string (qstr q), .int .i64 (n : Int)] w fun e w' => ∃ v, e = .returned (.tuple #[v, .int .i64 0]) ∧ w'.ownsRow w.heap.size 38 2 v (fltM (lawM q n)).length (cellsM (fltM (lawM q n))) ∧ Below w.heap.size w w' := by
  obtain ⟨g1, g2⟩ := counts_le (probE_ok hp).2.1 n
  have gl : cLate q n ≤ 2 ^ n := Nat.le_trans g2 (Nat.sub_le _ _)
  have gz : cZero q n ≤ 2 ^ n := Nat.le_trans (Nat.sub_le _ _) (Nat.sub_le _ _)
  have hpp := rProbability_q op w
  rw [hp] at hpp
  have HP := Lib.hid hpp
  have HO := Lib.hid (fun W => rones_ok op hp hn W)
  have HT := Lib.hid (fun W => rTwo_ok n hn W)
  have HS1 := Lib.hid (fun (W : World) (x : Value) (hx : INum W x (cZero q n)) => rShare_ok hn gz W hx)
  have HS2 := Lib.hid (fun (W : World) (x : Value) (hx : INum W x (cOne q n)) => rShare_ok hn g1 W hx)
  have HS3 := Lib.hid (fun (W : World) (x : Value) (hx : INum W x (cLate q n)) => rShare_ok hn gl W hx)
  have HE := Lib.hid (show 2 ^ n - (2 ^ n - cLate q n) = cLate q n ∧ 2 ^ n - cLate q n - cOne q n = cZero q n from ⟨by omega, by unfold cZero; omega⟩)
  have HL := Lib.hid (And.intro (lnb (a := 2 ^ n) n (by omega) (Nat.le_refl _)) (And.intro (lnb (a := 2 ^ n - cLate q n) n (by omega) (Nat.sub_le _ _)) (show 2 ^ n - cLate q n ≤ 2 ^ n ∧ cOne q n ≤ 2 ^ n - cLate q n from ⟨Nat.sub_le _ _, by omega⟩)))
  have e0 : ∀ x ∈ ([] : List (ByteArray × ByteArray)), x.1.data.toList < (⟨#[48]⟩ : ByteArray).data.toList := fun x hx => by cases hx
  have HA1 := Lib.hid (show addF ⟨#[48]⟩ (qstr (cQ (cZero q n) n)) [] = fltM [(⟨#[48]⟩, qstr (cQ (cZero q n) n))] by rw [addF_last e0]; rfl)
  have hk1 : ∀ x ∈ fltM [(⟨#[48]⟩, qstr (cQ (cZero q n) n))], x.1.data.toList < (⟨#[49]⟩ : ByteArray).data.toList := fun x hx => by
    have := (List.mem_filter.1 (show x ∈ List.filter _ _ from hx)).1
    rw [List.mem_singleton] at this
    rw [this]; exact (by decide : ([48] : List UInt8) < [49])
  have HA2 := Lib.hid (show addF ⟨#[49]⟩ (qstr (cQ (cOne q n) n)) (fltM [(⟨#[48]⟩, qstr (cQ (cZero q n) n))]) = fltM [(⟨#[48]⟩, qstr (cQ (cZero q n) n)), (⟨#[49]⟩, qstr (cQ (cOne q n) n))] by rw [addF_last hk1, ← fltM_app]; rfl)
  have hk2 : ∀ x ∈ fltM [(⟨#[48]⟩, qstr (cQ (cZero q n) n)), (⟨#[49]⟩, qstr (cQ (cOne q n) n))], x.1.data.toList < sLate.data.toList := fun x hx => by
    have := (List.mem_filter.1 (show x ∈ List.filter _ _ from hx)).1
    rcases List.mem_cons.1 this with h | h
    · rw [h]; exact (by decide : ([48] : List UInt8) < [108, 97, 116, 101])
    · rw [List.mem_singleton] at h
      rw [h]; exact (by decide : ([49] : List UInt8) < [108, 97, 116, 101])
  have HA3 := Lib.hid (show addF sLate (qstr (cQ (cLate q n) n)) (fltM [(⟨#[48]⟩, qstr (cQ (cZero q n) n)), (⟨#[49]⟩, qstr (cQ (cOne q n) n))]) = fltM (lawM q n) by rw [addF_last hk2, ← fltM_app]; rfl)
  have HN := Lib.hid (And.intro (show (fltM [(⟨#[48]⟩, qstr (cQ (cZero q n) n))]).length ≤ 1000 from Nat.le_trans (fltM_len _) (by simp)) (show (fltM [(⟨#[48]⟩, qstr (cQ (cZero q n) n)), (⟨#[49]⟩, qstr (cQ (cOne q n) n))]).length ≤ 1000 from Nat.le_trans (fltM_len _) (by simp)))
  rw [← HA3.out]
  rw [← HA2.out] at HA3 HN ⊢
  rw [← HA1.out] at HA3 HN HA2 ⊢
  generalize qstr (cQ (cLate q n) n) = sl at *
  generalize qstr (cQ (cOne q n) n) = so at *
  generalize qstr (cQ (cZero q n) n) = sz at *
  generalize qstr q = s at *
  clear hpp g1 g2 gl gz op hp e0 hk1 hk2 HA1 HA2 HA3
  go_enter Tryz.func16, Tryz.ntmps16
  go_wp2_with fail
  refine HP.out.mono ?_
  rintro e w1 ⟨rfl, hb⟩
  have HB := Lib.hid hb
  clear hb HP
  go_wp2_with fail
  refine (HO.out _).mono ?_
  rintro e w2 ⟨x, y, rfl, hx, hy, hb⟩
  obtain ⟨a1, k1, rfl⟩ := islice_any hx
  obtain ⟨a2, k2, rfl⟩ := islice_any hy
  replace HB := Lib.hid (HB.out.trans (hb.mono HB.out.size))
  have HX := Lib.hid (And.intro hx hy)
  clear hx hy hb HO
  go_wp2_with fail
  refine (iminus_any HX.out.2 HX.out.1 (Nat.le_trans HL.out.2.1 (by omega)) HL.out.2.2.2).mono ?_
  rintro e w3 ⟨v, rfl, hv, hb⟩
  rw [HE.out.2] at hv
  obtain ⟨a3, k3, rfl⟩ := islice_any hv
  replace HB := Lib.hid (HB.out.trans (hb.mono HB.out.size))
  replace HX := Lib.hid (And.intro (HX.out.1.below hb) (And.intro (HX.out.2.below hb) hv))
  clear hv hb
  go_wp2_with fail
  refine (HS1.out _ _ HX.out.2.2).mono ?_
  rintro e w4 ⟨rfl, hb⟩
  replace HB := Lib.hid (HB.out.trans (hb.mono HB.out.size))
  replace HX := Lib.hid (And.intro (HX.out.1.below hb) (HX.out.2.1.below hb))
  clear hb HS1
  go_wp2_with fail
  refine (rAdd_any (base := w.heap.size) (L := []) (by simp) _ HB.out.size (World.ownsRow_nil _ _ _ _)).mono ?_
  rintro e w5 ⟨v, rfl, hrow, hb⟩
  replace HB := Lib.hid (HB.out.trans (hb.mono HB.out.size))
  replace HX := Lib.hid (And.intro (HX.out.1.below hb) (HX.out.2.below hb))
  have HR := Lib.hid hrow
  clear hb hrow
  go_wp2_with fail
  refine (HS2.out _ _ HX.out.1).mono ?_
  rintro e w6 ⟨rfl, hb⟩
  replace HB := Lib.hid (HB.out.trans (hb.mono HB.out.size))
  replace HR := Lib.hid (row_below2 HR.out hb)
  replace HX := Lib.hid (HX.out.2.below hb)
  clear hb HS2
  go_wp2_with fail
  refine (rAdd_any HN.out.1 _ HB.out.size HR.out).mono ?_
  rintro e w7 ⟨v, rfl, hrow, hb⟩
  replace HB := Lib.hid (HB.out.trans (hb.mono HB.out.size))
  replace HX := Lib.hid (HX.out.below hb)
  replace HR := Lib.hid hrow
  clear hb hrow
  go_wp2_with fail
  refine (HT.out _).mono ?_
  rintro e w8 ⟨v2, rfl, hv, hb⟩
  obtain ⟨a8, k8, rfl⟩ := islice_any hv
  replace HB := Lib.hid (HB.out.trans (hb.mono HB.out.size))
  replace HR := Lib.hid (row_below2 HR.out hb)
  replace HX := Lib.hid (And.intro (HX.out.below hb) hv)
  clear hv hb HT
  go_wp2_with fail
  refine (iminus_any HX.out.2 HX.out.1 (Nat.le_trans HL.out.1 (by omega)) HL.out.2.2.1).mono ?_
  rintro e w9 ⟨v3, rfl, hv, hb⟩
  rw [HE.out.1] at hv
  obtain ⟨a9, k9, rfl⟩ := islice_any hv
  replace HB := Lib.hid (HB.out.trans (hb.mono HB.out.size))
  replace HR := Lib.hid (row_below2 HR.out hb)
  replace HX := Lib.hid hv
  clear hv hb
  go_wp2_with fail
  refine (HS3.out _ _ HX.out).mono ?_
  rintro e w10 ⟨rfl, hb⟩
  replace HB := Lib.hid (HB.out.trans (hb.mono HB.out.size))
  replace HR := Lib.hid (row_below2 HR.out hb)
  clear hb HX
  go_wp2_with fail
  refine (rAdd_any HN.out.2 _ HB.out.size HR.out).mono ?_
  rintro e w11 ⟨v4, rfl, hrow, hb⟩
  replace HB := Lib.hid (HB.out.trans (hb.mono HB.out.size))
  replace HR := Lib.hid hrow
  clear hb hrow
  go_wp2_with fail
  go_ret2
  exact ⟨_, rfl, HR.out, HB.out⟩

end Go.Proofs.YteojekiocecdnaaGreatDoor
