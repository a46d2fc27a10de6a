/-
  Rows with room; the contracts of slices.Clone, size, small, leading and foresee. The contracts of leading and its closure. The contract of foresee. The contract of apply. The contract of CommonDivisor.
-/
import Derived.Test.YtjpepjooefkbkaaGreatDoorGD
import Derived.Test.YtjpepjooefkbkaaGreatDoorGC
import Derived.Test.YtjpepjooefkbkaaGreatDoorGA
import Derived.Laws.AppendOwn
import Derived.Lib.SliceRun
import Derived.Deep.QuietTactic
import Derived.BigQuiet
import Derived.Deep.WholeRow
import Derived.Deep.Cut
import Derived.Laws.StructEq
import Derived.Deep.CutRange
namespace Go.Proofs.YtjpepjooefkbkaaGreatDoor
open Go.RowKit NV
def Hold (w : World) (g N cap : Nat) (f : Nat → Nat) : Prop :=
 ∃ cur, w.heap[g]? = some (.cells cur 118 (0, 0)) ∧ cur.size = cap ∧ N ≤ cap ∧ cap ≤ maxLen ∧ ∀ j, j < N → cur[j]? = some (.int .u64 ((f j : Nat) : Int))
theorem Hold.cell {w : World} {g N cap : Nat} {f : Nat → Nat} (h : Hold w g N cap f) {j : Nat} (hj : j < N) : w.cell? ⟨g, j, none⟩ = some (.int .u64 ((f j : Nat) : Int)) := by
 obtain ⟨cur, h1, h2, h3, h4, h5⟩ := h
 rw [cell_of_row w g j cur _ _ h1]
 exact h5 j hj
theorem Hold.free {w : World} {g N cap : Nat} {f : Nat → Nat} (h : Hold w g N cap f) (j : Nat) : w.frozen? ⟨g, j, none⟩ = false := by
 obtain ⟨cur, h1, _⟩ := h
 exact frozen_of_row w g j cur _ h1
theorem Hold.lt {w : World} {g N cap : Nat} {f : Nat → Nat} (h : Hold w g N cap f) : g < w.heap.size := by
 obtain ⟨cur, h1, _⟩ := h
 exact (Array.getElem?_eq_some_iff.1 h1).1
theorem Hold.room {w : World} {g N cap : Nat} {f : Nat → Nat} (h : Hold w g N cap f) : N ≤ cap ∧ cap ≤ maxLen := by
 obtain ⟨cur, _, _, h3, h4, _⟩ := h
 exact ⟨h3, h4⟩
theorem Hold.congr {w : World} {g N cap : Nat} {f f' : Nat → Nat} (h : Hold w g N cap f) (e : ∀ j, j < N → f j = f' j) : Hold w g N cap f' := by
 obtain ⟨cur, h1, h2, h3, h4, h5⟩ := h
 exact ⟨cur, h1, h2, h3, h4, fun j hj => by rw [h5 j hj, e j hj]⟩
theorem Hold.less {w : World} {g N M cap : Nat} {f : Nat → Nat} (h : Hold w g N cap f) (hM : M ≤ N) : Hold w g M cap f := by
 obtain ⟨cur, h1, h2, h3, h4, h5⟩ := h
 exact ⟨cur, h1, h2, Nat.le_trans hM h3, h4, fun j hj => h5 j (Nat.lt_of_lt_of_le hj hM)⟩
theorem Hold.store {w : World} {g N cap : Nat} {f : Nat → Nat} (h : Hold w g N cap f) (i x : Nat) : Hold (w.setCell ⟨g, i, none⟩ (.int .u64 ((x : Nat) : Int))) g N cap (upd f i x) := by
 obtain ⟨cur, h1, h2, h3, h4, h5⟩ := h
 refine ⟨cur.setIfInBounds i (.int .u64 ((x : Nat) : Int)), heap_setCell_same w g i cur _ _ h1, by simpa using h2, h3, h4, fun j hj => ?_⟩
 rw [Array.getElem?_setIfInBounds]
 by_cases e : i = j
 ·subst e
  rw [if_pos rfl, if_pos (by omega), upd_same]
 ·rw [if_neg e, upd_other (fun h => e h.symm)]
  exact h5 j hj
theorem Hold.other {w : World} {g N cap : Nat} {f : Nat → Nat} (h : Hold w g N cap f) {a : Addr} (ha : g ≠ a.block) (u : Value) : Hold (w.setCell a u) g N cap f := by
 obtain ⟨cur, h1, h2⟩ := h
 exact ⟨cur, (heap_setCell_other w a g u ha).trans h1, h2⟩
theorem Hold.below {w w' : World} {g N cap : Nat} {f : Nat → Nat} (h : Hold w g N cap f) {b : Nat} (hb : Below b w w') (hg : g < b) : Hold w' g N cap f := by
 obtain ⟨cur, h1, h2⟩ := h
 exact ⟨cur, (hb.block g hg).trans h1, h2⟩
theorem Hold.num {w : World} {g n cap : Nat} (h : Hold w g (ln n) cap (dg n)) : Num w (.slice (some ⟨g, 0, none⟩) (ln n) cap) n :=
 ⟨_, cap, rfl, .inr ⟨g, rfl, h.lt, h.room.1, fun _ hj => h.cell hj⟩⟩
theorem Hold.owns {w : World} {g N cap base : Nat} {f : Nat → Nat} (h : Hold w g N cap f) (hb : base ≤ g) : w.ownsRow base 118 1 (.slice (some ⟨g, 0, none⟩) N cap) N ((List.range N).map (fun j => Value.int .u64 ((f j : Nat) : Int))) := by
 obtain ⟨cur, h1, h2, h3, h4, h5⟩ := h
 refine ⟨by simp, .inr ⟨g, cap, cur, rfl, hb, h1, h3, h4, by omega, ?_⟩⟩
 apply List.ext_getElem?
 intro j
 by_cases hj : j < N
 ·rw [List.getElem?_take, if_pos (by omega)]
  simp only [Array.getElem?_toList, List.getElem?_map, List.getElem?_range hj, Option.map_some]
  exact h5 j hj
 ·rw [List.getElem?_take, if_neg (by omega)]
  simp [hj]
theorem Hold.of_owns {w : World} {base N : Nat} {v : Value} {f : Nat → Nat} (h : w.ownsRow base 118 1 v N ((List.range N).map (fun j => Value.int .u64 ((f j : Nat) : Int)))) (h0 : v ≠ .slice none 0 0) :
  ∃ g cap, v = .slice (some ⟨g, 0, none⟩) N cap ∧ base ≤ g ∧ Hold w g N cap f := by
 rcases h.2 with ⟨h', _⟩ | ⟨g, cap, cur, h', hb, hg, hnc, hcm, hcs, htake⟩
 ·exact absurd h' h0
 ·refine ⟨g, cap, h', hb, cur, hg, by omega, hnc, hcm, fun j hj => ?_⟩
  have e : (cur.toList.take (N * 1))[j]? = some (.int .u64 ((f j : Nat) : Int)) := by
   rw [htake]; simp [hj]
  rw [List.getElem?_take, if_pos (by omega)] at e
  simpa using e
theorem Own.hold {w : World} {base n : Nat} {v : Value} (h : Own w base v n) : ∃ g cap, v = .slice (some ⟨g, 0, none⟩) (ln n) cap ∧ base ≤ g ∧ Hold w g (ln n) cap (dg n) :=
 Hold.of_owns h.2 (by obtain ⟨⟨g, c, rfl⟩, _⟩ := h; simp)
set_option maxHeartbeats 2000000 in
set_option maxRecDepth 100000 in
theorem clone_any {w : World} {b c n : Nat} (hx : Num w (.slice (some ⟨b, 0, none⟩) (ln n) c) n) (hn : ln n ≤ 1000000) :
  Calls Tryz.prog 125 #[.slice (some ⟨b, 0, none⟩) (ln n) c] w fun e w' => ∃ g cap, e = .returned (.slice (some ⟨g, 0, none⟩) (ln n) cap) ∧ w.heap.size ≤ g ∧ Hold w' g (ln n) cap (dg n) ∧ Below w.heap.size w w' := by
 obtain ⟨i0, hi, hz0, hz1, hz2⟩ := info_parts info72
 have HX := Lib.hid hx
 have q49 : ∀ (w : World) (a : Option Addr) (n c n' c' : Nat), (binOp .eql 108 (.slice a n c) (.slice none n' c')).run Tryz.prog w = .ok (.bool a.isNone) w := fun w a n c n' c' => Lib.run_eql_slice_nil w _ _ a n c n' c' Tryz.underlying108
 clear hx
 go_enter Tryz.func125, Tryz.ntmps125
 go_wp2_with (at_builtin; refine wpList_append_own _ rfl _ _ 108 rfl w.heap.size 118 i0 (.int .u64 0) 1 8 Tryz.underlying108 hi hz0 hz1 hz2 rfl (by decide) _ _ _ rfl (World.ownsRow_made w #[] 0 (Nat.le_refl _) (Nat.zero_le _) rfl) ⟨b, 0, none⟩ (ln n) c ((List.range (ln n)).map (fun j => Value.int .u64 ((dg n j : Nat) : Int))) rfl ?qc1 ?qc2 ?qc3 ?qc4 ?qc5 ?qc6 ?_)
 case qc1 => simp
 case qc2 =>
  intro j u hj
  have hjn : j < ln n := by
   have := (List.getElem?_eq_some_iff.1 hj).1
   simpa using this
  rw [Addr.add_lit]
  refine Lib.cell?_alloc_some _ ?_
  rw [Nat.zero_add, HX.out.cell hjn]
  rw [← hj]
  simp [hjn]
 case qc3 => intro u hu; obtain ⟨x, _, rfl⟩ := List.mem_map.1 hu; rfl
 case qc4 => unfold maxLen; omega
 case qc5 => omega
 case qc6 => simp
 intro v' w1 hown hgrow hnil
 have hv : v' ≠ .slice none 0 0 := hnil
 obtain ⟨g, cap, rfl, hg, hh⟩ := Hold.of_owns (by simpa using hown) hv
 have HF := Lib.hid (And.intro hh (((Below.refl _ w).alloc (Nat.le_refl _) _).grown hgrow (by simp) (by intro k hk; simp [Value.ownBlock] at hk; omega)))
 clear hown hgrow hnil hv hh
 go_wp2
 go_ret
 exact ⟨g, cap, rfl, hg, HF.out.1, HF.out.2⟩
def mag (n : Int) : Int := if n < 0 then -n else n
theorem mag_neg {n : Int} (h : n < 0) : mag n = -n := if_pos h
theorem mag_pos {n : Int} (h : 0 ≤ n) : mag n = n := if_neg (by omega)
set_option maxHeartbeats 400000 in
theorem size_any (n m : Int) (h : mag n = m) (h1 : -4000000000000000000 ≤ n) (h2 : n ≤ 4000000000000000000) (w : World) :
  Calls Tryz.prog 156 #[.int .i64 n] w fun e w' => e = .returned (.int .i64 m) ∧ Below w.heap.size w w' := by
 have G1 := Lib.hid (show n < -n → m = -n from fun hh => by rw [← h, mag_neg (by omega)])
 have G2 := Lib.hid (show -n ≤ n → m = n from fun hh => by rw [← h, mag_pos (by omega)])
 clear h
 go_enter Tryz.func156, Tryz.ntmps156
 go_wp2_with fail
 refine (greatest_int64 _ _ m G1.out G2.out _ w.heap.size (cell_one_new _ _ _ 0 _ rfl)).mono ?_
 rintro e w' ⟨rfl, rfl⟩
 go_wp2_with fail
 go_ret
 exact ⟨rfl, (Below.refl _ _).alloc (Nat.le_refl _) _⟩
theorem small_val {a : Nat} (h : ln a ≤ 2) : dg a 1 * 1000000000 + dg a 0 = a ∧ a < 1000000000000000000 := by
 have h1 := lt_pow_ln a
 have h2 : B ^ ln a ≤ B ^ 2 := Nat.pow_le_pow_right B_pos h
 have h3 : B ^ 2 = 1000000000000000000 := by rw [B_eq]
 have e0 : dg a 0 = a % 1000000000 := by rw [dg, Nat.pow_zero, Nat.div_one, B_eq]
 have e1 : dg a 1 = a / 1000000000 % 1000000000 := by rw [dg, Nat.pow_one, B_eq]
 rw [e0, e1]
 omega
set_option maxHeartbeats 400000 in
theorem nsmall_any {w : World} {x : Value} {a : Nat} (hx : Num w x a) (ha : ln a ≤ 2) :
  Calls Tryz.prog 130 #[x] w fun e w' => e = .returned (.int .u64 (a : Int)) ∧ w = w' := by
 obtain ⟨xa, xc, rfl⟩ := slice_any hx
 have H1 := Lib.hid (at_any hx 1 (by omega))
 have H0 := Lib.hid (at_any hx 0 (by omega))
 obtain ⟨h1, h2⟩ := small_val ha
 have b0 := dg_lt a 0
 have b1 := dg_lt a 1
 have HE := Lib.hid (show ((dg a 1 : Nat) : Int) * 1000000000 + ((dg a 0 : Nat) : Int) = (a : Int) by omega)
 clear hx h1 h2
 go_enter Tryz.func130, Tryz.ntmps130
 go_wp2_with fail
 refine H1.out.mono ?_
 rintro e w' ⟨rfl, rfl⟩
 go_wp2_with fail
 refine H0.out.mono ?_
 rintro e w' ⟨rfl, rfl⟩
 go_wp2_with fail
 go_ret
 exact ⟨ret_int HE.out, rfl⟩
open Go.RowKit NV
theorem at_quiet {w : World} {v : Value} {n : Nat} (h : Num w v n) (k : Nat) (hk : k < 4611686018427387904) (i : Int) (hi : i = (k : Int)) (m : Nat) :
  Calls Tryz.prog 134 #[v, .int .i64 i] (w.drewN m) fun e w'' => e = .returned (.int .u64 ((dg n k : Nat) : Int)) ∧ ∃ q, w'' = w.drewN q := by
 subst hi
 exact (at_any (h.below (below_drewN (Below.refl _ _) m)) k hk).mono (by rintro e w' ⟨rfl, rfl⟩; exact ⟨rfl, m, rfl⟩)
set_option maxHeartbeats 1600000 in
set_option maxRecDepth 100000 in
theorem part_any {w : World} {z : Value} {a n sh rs bn bs br : Nat} (hz : Num w z a) (hn : 3 ≤ n) (hn2 : n ≤ 1000000) (hs : 0 < sh) (hr : 0 < rs) (hsr : sh * rs = 1000000000) (ha : a < B ^ n) (hlt : a / (B ^ (n - 3) * rs) < 1000000000000000000)
  (cn : w.cell? ⟨bn, 0, none⟩ = some (.int .i64 (n : Int))) (cs : w.cell? ⟨bs, 0, none⟩ = some (.int .u64 (sh : Int))) (cr : w.cell? ⟨br, 0, none⟩ = some (.int .u64 (rs : Int))) :
  Calls Tryz.prog 157 #[z, .pointer (some ⟨bn, 0, none⟩), .pointer (some ⟨bs, 0, none⟩), .pointer (some ⟨br, 0, none⟩)] w fun e w' => e = .returned (.int .i64 ((a / (B ^ (n - 3) * rs) : Nat) : Int)) ∧ ∃ q, w' = w.drewN q := by
 have hp := lead_parts (lead_div hn ha hsr hr) hlt
 obtain ⟨p1, p2, p3, p4, p5⟩ := hp
 obtain ⟨V, hV⟩ : ∃ V, V = a / (B ^ (n - 3) * rs) := ⟨_, rfl⟩
 rw [← hV] at p5 hlt ⊢
 have hz1 := dg_lt a (n - 1)
 have hz2 := dg_lt a (n - 2)
 have hz3 := dg_lt a (n - 3)
 have HZ := Lib.hid hz
 have H5 := Lib.hid p5
 have hrs : (0 : Int) < (rs : Int) := by omega
 have hsh : (0 : Int) < (sh : Int) := by omega
 have hsb : (sh : Int) ≤ 1000000000 := by
  have : sh * 1 ≤ sh * rs := Nat.mul_le_mul_left _ hr
  omega
 obtain ⟨za, zc, rfl⟩ := slice_any hz
 clear hz hV p5 hsr ha
 go_enter Tryz.func157, Tryz.ntmps157
 go_wp2_with fail
 go_quiet (first
  | exact at_quiet HZ.out (n - 1) (by omega) _ (by omega) _
  | exact at_quiet HZ.out (n - 2) (by omega) _ (by omega) _
  | exact at_quiet HZ.out (n - 3) (by omega) _ (by omega) _)
 go_wp2_with fail
 go_ret
 exact ⟨ret_int H5.out, nq, rfl⟩
def Cl (w : World) (b : Nat) (t : TypeId) (v : Value) : Prop := w.heap[b]? = some (.cells #[v] t (0, 0))
theorem Cl.cell {w : World} {b : Nat} {t : TypeId} {v : Value} (h : Cl w b t v) : w.cell? ⟨b, 0, none⟩ = some v := by rw [Lib.cell_of_heap h]; rfl
theorem Cl.free {w : World} {b : Nat} {t : TypeId} {v : Value} (h : Cl w b t v) : w.frozen? ⟨b, 0, none⟩ = false := Lib.frozen_of_heap h 0
theorem Cl.lt {w : World} {b : Nat} {t : TypeId} {v : Value} (h : Cl w b t v) : b < w.heap.size := (Array.getElem?_eq_some_iff.1 h).1
theorem Cl.below {w w' : World} {b B : Nat} {t : TypeId} {v : Value} (h : Cl w b t v) (hb : Below B w w') (hB : b < B) : Cl w' b t v := (hb.block b hB).trans h
theorem Cl.store {w : World} {b : Nat} {t : TypeId} {v : Value} (h : Cl w b t v) (u : Value) : Cl (w.setCell ⟨b, 0, none⟩ u) b t u := heap_setCell_same w b 0 _ _ u h
theorem Cl.other {w : World} {b : Nat} {t : TypeId} {v : Value} (h : Cl w b t v) {a : Addr} (ha : b ≠ a.block) (u : Value) : Cl (w.setCell a u) b t v := (heap_setCell_other w a b u ha).trans h
def cellInt (w : World) (b : Nat) : Int := intOf ((w.cell? ⟨b, 0, none⟩).getD .nilIface)
theorem Cl.int {w : World} {b : Nat} {t : TypeId} {k : IntKind} {n : Int} (h : Cl w b t (.int k n)) : cellInt w b = n := by
 rw [cellInt, h.cell]; rfl
set_option maxHeartbeats 1600000 in
set_option maxRecDepth 100000 in
theorem leading_any {w : World} {x y : Value} {a b : Nat} (hx : Num w x a) (hy : Num w y b) (hba : b ≤ a) (ha : 3 ≤ ln a) (ha2 : ln a ≤ 1000000) :
  Calls Tryz.prog 127 #[x, y] w fun e w' => ∃ S a0 b0 : Nat, e = .returned (.tuple #[.int .i64 (a0 : Int), .int .i64 (b0 : Int)]) ∧ 0 < S ∧ a0 = a / S ∧ b0 = b / S ∧ a0 < 1000000000000000000 ∧ Below w.heap.size w w' := by
 have hmf : ∀ (fn : Fn) (first cap : Array Value) (w : World), (Instr.makeFunc fn first cap).run Tryz.prog w = .ok (.func fn first cap) w := fun _ _ _ _ => rfl
 obtain ⟨n, hn⟩ : ∃ n, n = ln a := ⟨_, rfl⟩
 obtain ⟨xb, xc, rfl, hxb, _⟩ := slice_form hx (by omega)
 obtain ⟨ya, yc, rfl⟩ := slice_any hy
 have hmn : ∃ m, ln a = m + 1 := ⟨ln a - 1, by omega⟩
 have htop : 1 ≤ dg a (n - 1) := by
  obtain ⟨m, hm⟩ := hmn
  have := dg_top hm
  rw [hn, hm]
  show 1 ≤ dg a m
  omega
 have htl := dg_lt a (n - 1)
 have hapow : a < B ^ n := by rw [hn]; exact lt_pow_ln a
 have hbpow : b < B ^ n := Nat.lt_of_le_of_lt hba hapow
 have hxn : n ≤ ln a := by omega
 have hn3 : 3 ≤ n := by omega
 have hn6 : n ≤ 1000000 := by omega
 have HX := Lib.hid hx
 have HY := Lib.hid hy
 have HAP := Lib.hid hapow
 have HBP := Lib.hid hbpow
 have HBA := Lib.hid hba
 have hn1 : (n : Int) - 1 = ((n - 1 : Nat) : Int) := by omega
 have hidx : ((n - 1 : Nat) : Int) < (n : Int) := by omega
 have HN := Lib.hid hn
 rw [← hn]
 clear hx hy hn hmn hapow hbpow hba ha ha2
 go_enter Tryz.func127, Tryz.ntmps127
 go_wp2_with fail
 have hw : Below w.heap.size w (((w.alloc (Obj.cells #[Value.int IntKind.i64 (n : Int)] 3)).alloc (Obj.cells #[Value.int IntKind.u64 1] 118)).alloc (Obj.cells #[Value.int IntKind.u64 1000000000] 118)) := (((Below.refl _ _).alloc (Nat.le_refl _) _).alloc (by simp) _).alloc (by simp; omega) _
 have k3 : Cl (((w.alloc (Obj.cells #[Value.int IntKind.i64 (n : Int)] 3)).alloc (Obj.cells #[Value.int IntKind.u64 1] 118)).alloc (Obj.cells #[Value.int IntKind.u64 1000000000] 118)) (w.heap.size + 1 + 1) 118 (.int .u64 1000000000) := by
  have := heap_alloc_new ((w.alloc (Obj.cells #[Value.int IntKind.i64 (n : Int)] 3)).alloc (Obj.cells #[Value.int IntKind.u64 1] 118)) (Obj.cells #[Value.int IntKind.u64 1000000000] 118)
  simpa [Cl] using this
 have k2 : Cl (((w.alloc (Obj.cells #[Value.int IntKind.i64 (n : Int)] 3)).alloc (Obj.cells #[Value.int IntKind.u64 1] 118)).alloc (Obj.cells #[Value.int IntKind.u64 1000000000] 118)) (w.heap.size + 1) 118 (.int .u64 1) := by
  have := heap_alloc_new (w.alloc (Obj.cells #[Value.int IntKind.i64 (n : Int)] 3)) (Obj.cells #[Value.int IntKind.u64 1] 118)
  refine (Lib.alloc_old _ _ _ (by simp)).trans ?_
  simpa using this
 have k1 : Cl (((w.alloc (Obj.cells #[Value.int IntKind.i64 (n : Int)] 3)).alloc (Obj.cells #[Value.int IntKind.u64 1] 118)).alloc (Obj.cells #[Value.int IntKind.u64 1000000000] 118)) w.heap.size 3 (.int .i64 (n : Int)) := by
  refine (Lib.alloc_old _ _ _ (by simp; omega)).trans ((Lib.alloc_old _ _ _ (by simp)).trans ?_)
  exact heap_alloc_new w _
 obtain ⟨bs, hbs⟩ : ∃ bs, bs = w.heap.size + 1 := ⟨_, rfl⟩
 rw [← hbs] at k2 k3 ⊢
 generalize ((w.alloc (Obj.cells #[Value.int IntKind.i64 (n : Int)] 3)).alloc (Obj.cells #[Value.int IntKind.u64 1] 118)).alloc (Obj.cells #[Value.int IntKind.u64 1000000000] 118) = w1 at hw k1 k2 k3 ⊢
 have hbn : w.heap.size < bs := by omega
 have ne1 : bs + 1 ≠ bs := by omega
 have ne2 : w.heap.size ≠ bs := by omega
 have ne3 : w.heap.size ≠ bs + 1 := by omega
 have HST := Lib.hid (And.intro k1 (And.intro k2 (And.intro k3 hw)))
 clear hbs k1 k2 k3 hw
 go_loopw [] (fun wr => ∃ sh rs : Nat, Cl wr w.heap.size 3 (.int .i64 (n : Int)) ∧ Cl wr bs 118 (.int .u64 (sh : Int)) ∧ Cl wr (bs + 1) 118 (.int .u64 (rs : Int)) ∧ Hid (sh * rs = 1000000000 ∧ (∃ k, k ≤ 8 ∧ sh = 10 ^ k ∧ rs = 10 ^ (9 - k)) ∧ dg a (n - 1) * sh < 1000000000) ∧ Below w.heap.size w wr) (fun wr => 1000000000 - (cellInt wr bs).toNat)
 case atStart => exact ⟨1, 1000000000, HST.out.1, HST.out.2.1, HST.out.2.2.1, Lib.hid ⟨by omega, ⟨0, by omega, by simp, by simp⟩, by omega⟩, HST.out.2.2.2⟩
 case round =>
  obtain ⟨sh, rs, k1, k2, k3, hh, hbr⟩ := hrel
  clear HST
  obtain ⟨h1, h2, h3⟩ := hh.out
  have hs0 : 0 < sh := by obtain ⟨k, _, e, _⟩ := h2; rw [e]; exact Nat.pow_pos (by omega)
  have hr0 : 0 < rs := by obtain ⟨k, _, _, e⟩ := h2; rw [e]; exact Nat.pow_pos (by omega)
  have hsm : sh * 1 ≤ sh * rs := Nat.mul_le_mul_left _ hr0
  have hrm : 1 * rs ≤ sh * rs := Nat.mul_le_mul_right _ hs0
  have hsb : (sh : Int) ≤ 1000000000 := by omega
  have hrb : (rs : Int) ≤ 1000000000 := by omega
  have hs0' : (0 : Int) < (sh : Int) := by omega
  have hr0' : (0 : Int) < (rs : Int) := by omega
  have hpe : ((dg a (n - 1) : Nat) : Int) * (sh : Int) = ((dg a (n - 1) * sh : Nat) : Int) := by simp
  have hpl : ((dg a (n - 1) : Nat) : Int) * (sh : Int) < 1000000000 := by rw [hpe]; omega
  have hp0 : 0 ≤ ((dg a (n - 1) : Nat) : Int) * (sh : Int) := by rw [hpe]; omega
  have c0 := (HX.out.below hbr).cell (j := n - 1) (by omega)
  have c1 := k1.cell
  have c2 := k2.cell
  have c3 := k3.cell
  have hq := fun q => below_drewN (Below.refl wr.heap.size wr) q
  have HQ := Lib.hid hq
  clear hq
  by_cases hc : dg a (n - 1) * sh < 100000000
  ·have hst := lead_step htop h1 h2 hc
   have hpc : ((dg a (n - 1) : Nat) : Int) * (sh : Int) < 100000000 := by rw [hpe]; omega
   have hsh8 : (sh : Int) < 100000000 := by have := hst.2.2.2; omega
   have HS := Lib.hid hst
   have K1 := Lib.hid k1
   have K2 := Lib.hid k2
   have K3 := Lib.hid k3
   have HBR := Lib.hid hbr
   have HM := Lib.hid k2.int
   clear hst h1 h2 h3 hh hpe hc hsm hrm k1 k2 k3 hbr
   go_wp2_with fail
   go_quiet (fail)
   have k1 := K1.out.below (HQ.out nq) K1.out.lt
   have k2 := K2.out.below (HQ.out nq) K2.out.lt
   have k3 := K3.out.below (HQ.out nq) K3.out.lt
   have hbr := below_drewN HBR.out nq
   clear c0 c1 c2 c3 K1 K2 K3 HBR HQ
   generalize wr.drewN nq = w2 at k1 k2 k3 hbr ⊢
   have c2 := k2.cell
   have f2 := k2.free
   have s1 := k1.other (a := ⟨bs, 0, none⟩) ne2 (.int .u64 ((sh : Int) * 10))
   have s2 := k2.store (.int .u64 ((sh : Int) * 10))
   have s3 := k3.other (a := ⟨bs, 0, none⟩) ne1 (.int .u64 ((sh : Int) * 10))
   have hb2 := hbr.setCell (p := ⟨bs, 0, none⟩) (show w.heap.size ≤ bs by omega) (.int .u64 ((sh : Int) * 10))
   have c3 := s3.cell
   have f3 := s3.free
   have t1 := s1.other (a := ⟨bs + 1, 0, none⟩) ne3 (.int .u64 ((rs : Int) / 10))
   have t2 := s2.other (a := ⟨bs + 1, 0, none⟩) ne1.symm (.int .u64 ((rs : Int) / 10))
   have t3 := s3.store (.int .u64 ((rs : Int) / 10))
   have hb3 := hb2.setCell (p := ⟨bs + 1, 0, none⟩) (show w.heap.size ≤ bs + 1 by omega) (.int .u64 ((rs : Int) / 10))
   have T := Lib.hid (And.intro t1 (And.intro t2 (And.intro t3 hb3)))
   clear k1 k2 k3 s1 s2 s3 t1 t2 t3 hb2 hb3 hbr
   go_wp2_with fail
   go_roundw
   case rel => exact ⟨sh * 10, rs / 10, T.out.1, by have := T.out.2.1; rwa [show ((sh * 10 : Nat) : Int) = (sh : Int) * 10 by simp], by have := T.out.2.2.1; rwa [show ((rs / 10 : Nat) : Int) = (rs : Int) / 10 by simp], Lib.hid ⟨HS.out.1, HS.out.2.1, HS.out.2.2.1⟩, T.out.2.2.2⟩
   case measure =>
    rw [HM.out, T.out.2.1.int]
    omega
  ·have hpc0 : 100000000 ≤ dg a (n - 1) * sh := by omega
   have hal := lead_lt hn3 HAP.out h1 hr0 h3
   have hbl : b / (B ^ (n - 3) * rs) < 1000000000000000000 := Nat.lt_of_le_of_lt (Nat.div_le_div_right HBA.out) hal
   have HAL := Lib.hid hal
   have HH := Lib.hid (show 0 < B ^ (n - 3) * rs from Nat.mul_pos (pow_pos _) hr0)
   have hA : ∀ q, Calls Tryz.prog 157 #[.slice (some ⟨xb, 0, none⟩) n xc, .pointer (some ⟨w.heap.size, 0, none⟩), .pointer (some ⟨bs, 0, none⟩), .pointer (some ⟨bs + 1, 0, none⟩)] (wr.drewN q) fun e w' => e = .returned (.int .i64 ((a / (B ^ (n - 3) * rs) : Nat) : Int)) ∧ ∃ q', w' = (wr.drewN q).drewN q' := fun q =>
    part_any (n := n) (by have := HX.out.below (hbr.trans (below_drewN (Below.refl _ _) q)); rwa [← HN.out] at this) hn3 hn6 hs0 hr0 h1 HAP.out hal (k1.below (HQ.out q) k1.lt).cell (k2.below (HQ.out q) k2.lt).cell (k3.below (HQ.out q) k3.lt).cell
   have hB : ∀ q, Calls Tryz.prog 157 #[.slice ya (ln b) yc, .pointer (some ⟨w.heap.size, 0, none⟩), .pointer (some ⟨bs, 0, none⟩), .pointer (some ⟨bs + 1, 0, none⟩)] (wr.drewN q) fun e w' => e = .returned (.int .i64 ((b / (B ^ (n - 3) * rs) : Nat) : Int)) ∧ ∃ q', w' = (wr.drewN q).drewN q' := fun q =>
    part_any (n := n) (HY.out.below (hbr.trans (below_drewN (Below.refl _ _) q))) hn3 hn6 hs0 hr0 h1 HBP.out hbl (k1.below (HQ.out q) k1.lt).cell (k2.below (HQ.out q) k2.lt).cell (k3.below (HQ.out q) k3.lt).cell
   have HA := Lib.hid hA
   have HB := Lib.hid hB
   have HBR := Lib.hid hbr
   have hpc : 100000000 ≤ ((dg a (n - 1) : Nat) : Int) * (sh : Int) := by rw [hpe]; omega
   have hpb : decide (((dg a (n - 1) : Nat) : Int) * (sh : Int) < 100000000) = false := decide_eq_false (by omega)
   clear hA hB hal hbl h1 h2 h3 hh hpe hc hsm hrm k1 k2 k3 hbr hpc0 hpc
   go_wp2_with fail
   go_quiet (fail)
   go_wp2_with fail
   refine (HA.out nq).mono ?_
   rintro e w2 ⟨rfl, q2, rfl⟩
   go_wp2_with fail
   refine (HB.out (nq + q2)).mono ?_
   rintro e w3 ⟨rfl, q3, rfl⟩
   go_wp2_with fail
   go_ret2
   exact ⟨_, _, _, rfl, HH.out, rfl, rfl, HAL.out, below_drewN HBR.out _⟩
open Go.RowKit NV
def Mt (w : World) (b : Nat) (p q r s : Int) : Prop := w.heap[b]? = some (.cells #[.int .i64 p, .int .i64 q, .int .i64 r, .int .i64 s] 158 (0, 0))
theorem Mt.c0 {w : World} {b : Nat} {p q r s : Int} (h : Mt w b p q r s) : w.cell? ⟨b, 0, none⟩ = some (.int .i64 p) := by rw [Lib.cell_of_heap h]; rfl
theorem Mt.c1 {w : World} {b : Nat} {p q r s : Int} (h : Mt w b p q r s) : w.cell? ⟨b, 1, none⟩ = some (.int .i64 q) := by rw [Lib.cell_of_heap h]; rfl
theorem Mt.c2 {w : World} {b : Nat} {p q r s : Int} (h : Mt w b p q r s) : w.cell? ⟨b, 2, none⟩ = some (.int .i64 r) := by rw [Lib.cell_of_heap h]; rfl
theorem Mt.c3 {w : World} {b : Nat} {p q r s : Int} (h : Mt w b p q r s) : w.cell? ⟨b, 3, none⟩ = some (.int .i64 s) := by rw [Lib.cell_of_heap h]; rfl
theorem Mt.free {w : World} {b : Nat} {p q r s : Int} (h : Mt w b p q r s) (j : Nat) : w.frozen? ⟨b, j, none⟩ = false := Lib.frozen_of_heap h j
theorem Mt.lt {w : World} {b : Nat} {p q r s : Int} (h : Mt w b p q r s) : b < w.heap.size := (Array.getElem?_eq_some_iff.1 h).1
theorem Mt.below {w w' : World} {b B : Nat} {p q r s : Int} (h : Mt w b p q r s) (hb : Below B w w') (hB : b < B) : Mt w' b p q r s := (hb.block b hB).trans h
def st4 (w : World) (b : Nat) (p q r s : Int) : World := (((w.setCell ⟨b, 0, none⟩ (.int .i64 p)).setCell ⟨b, 1, none⟩ (.int .i64 q)).setCell ⟨b, 2, none⟩ (.int .i64 r)).setCell ⟨b, 3, none⟩ (.int .i64 s)
theorem Mt.st {w : World} {b : Nat} {p q r s : Int} (h : Mt w b p q r s) (p' q' r' s' : Int) : Mt (st4 w b p' q' r' s') b p' q' r' s' :=
 heap_setCell_same _ b 3 _ _ _ (heap_setCell_same _ b 2 _ _ _ (heap_setCell_same _ b 1 _ _ _ (heap_setCell_same w b 0 _ _ _ h)))
theorem Mt.stOther {w : World} {b g : Nat} {p q r s : Int} (h : Mt w g p q r s) (hg : g ≠ b) (p' q' r' s' : Int) : Mt (st4 w b p' q' r' s') g p q r s :=
 (heap_setCell_other _ ⟨b, 3, none⟩ g _ hg).trans ((heap_setCell_other _ ⟨b, 2, none⟩ g _ hg).trans ((heap_setCell_other _ ⟨b, 1, none⟩ g _ hg).trans ((heap_setCell_other w ⟨b, 0, none⟩ g _ hg).trans h)))
theorem below_st4 {B : Nat} {w w' : World} (h : Below B w w') {b : Nat} (hb : B ≤ b) (p q r s : Int) : Below B w (st4 w' b p q r s) :=
 (((h.setCell (p := ⟨b, 0, none⟩) hb _).setCell (p := ⟨b, 1, none⟩) hb _).setCell (p := ⟨b, 2, none⟩) hb _).setCell (p := ⟨b, 3, none⟩) hb _
theorem info_mt : (Tryz.prog.info? 158).map (·.size) = some 4 := by kernel_rfl
theorem Mt.load {w : World} {b : Nat} {p q r s : Int} (h : Mt w b p q r s) : (loadVar 158 ⟨b, 0, none⟩).run Tryz.prog w = .ok (.agg #[.int .i64 p, .int .i64 q, .int .i64 r, .int .i64 s]) w :=
 run_loadVar_row _ _ 158 158 _ (0, 0) _ h Tryz.underlying158 rfl info_mt
theorem Mt.result {w : World} {b : Nat} {p q r s : Int} {tmps : Array Value} (h : Mt w b p q r s) (ht : tmps.getD 4 undef = .pointer (some ⟨b, 0, none⟩)) : (results Tryz.f126 tmps).run Tryz.prog w = .ok (.agg #[.int .i64 p, .int .i64 q, .int .i64 r, .int .i64 s]) w := by
 have hl := h.load
 have ht' : tmps[4]?.getD undef = .pointer (some ⟨b, 0, none⟩) := by rw [← ht]; simp
 simp [results, ht', asAddr, hl]
theorem held_step {wr W w' : World} {b j : Nat} {v : Value} (h : W.cell? ⟨b, j, none⟩ = some v ∧ Below wr.heap.size wr W) (h3 : Below W.heap.size W w') (hlt : b < wr.heap.size) : w'.cell? ⟨b, j, none⟩ = some v ∧ Below wr.heap.size wr w' :=
 ⟨(h3.cell (p := ⟨b, j, none⟩) (Nat.lt_of_lt_of_le hlt h.2.size)).trans h.1, h.2.trans (h3.mono h.2.size)⟩
structure Hs (w : World) (b : Nat) (s : Int) where
 val : World
 holds : val.cell? ⟨b, 3, none⟩ = some (.int .i64 s) ∧ Below w.heap.size w val
theorem size_held {w : World} {b : Nat} {s : Int} (n m : Int) (h : mag n = m) (h1 : -4000000000000000000 ≤ n) (h2 : n ≤ 4000000000000000000) (hb : b < w.heap.size) (x : Hs w b s) :
  Calls Tryz.prog 156 #[.int .i64 n] x.val fun e w'' => e = .returned (.int .i64 m) ∧ ∃ y : Hs w b s, w'' = y.val :=
 (size_any n m h h1 h2 x.val).mono (by rintro e w' ⟨rfl, hb'⟩; exact ⟨rfl, ⟨w', held_step x.holds hb' hb⟩, rfl⟩)
set_option maxHeartbeats 3200000 in
set_option maxRecDepth 100000 in
theorem foresee_any {w : World} {a0 b0 : Nat} (hab : b0 ≤ a0) (ha : a0 < 1000000000000000000) :
  Calls Tryz.prog 126 #[.int .i64 (a0 : Int), .int .i64 (b0 : Int)] w fun e w' => ∃ (p q r s : Int) (a b : Nat) (sg : Int) (P Q R T : Nat), e = .returned (.agg #[.int .i64 p, .int .i64 q, .int .i64 r, .int .i64 s]) ∧ Lh a0 b0 a b sg P Q R T ∧ p = sg * P ∧ q = -sg * Q ∧ r = -sg * R ∧ s = sg * T ∧ Below w.heap.size w w' := by
 go_enter Tryz.func126, Tryz.ntmps126
 go_wp2_with fail
 have hw : Below w.heap.size w ((w.alloc (Obj.cells #[Value.int IntKind.i64 0, Value.int IntKind.i64 0, Value.int IntKind.i64 0, Value.int IntKind.i64 0] 158)).alloc (Obj.cells #[Value.int IntKind.i64 1, Value.int IntKind.i64 0, Value.int IntKind.i64 0, Value.int IntKind.i64 1] 158)) := ((Below.refl _ _).alloc (Nat.le_refl _) _).alloc (by simp) _
 have k1 : Mt ((w.alloc (Obj.cells #[Value.int IntKind.i64 0, Value.int IntKind.i64 0, Value.int IntKind.i64 0, Value.int IntKind.i64 0] 158)).alloc (Obj.cells #[Value.int IntKind.i64 1, Value.int IntKind.i64 0, Value.int IntKind.i64 0, Value.int IntKind.i64 1] 158)) w.heap.size 0 0 0 0 :=
  (Lib.alloc_old _ _ _ (by simp)).trans (heap_alloc_new w _)
 have k2 : Mt ((w.alloc (Obj.cells #[Value.int IntKind.i64 0, Value.int IntKind.i64 0, Value.int IntKind.i64 0, Value.int IntKind.i64 0] 158)).alloc (Obj.cells #[Value.int IntKind.i64 1, Value.int IntKind.i64 0, Value.int IntKind.i64 0, Value.int IntKind.i64 1] 158)) (w.heap.size + 1) 1 0 0 1 := by
  have := heap_alloc_new (w.alloc (Obj.cells #[Value.int IntKind.i64 0, Value.int IntKind.i64 0, Value.int IntKind.i64 0, Value.int IntKind.i64 0] 158)) (Obj.cells #[Value.int IntKind.i64 1, Value.int IntKind.i64 0, Value.int IntKind.i64 0, Value.int IntKind.i64 1] 158)
  simpa [Mt] using this
 obtain ⟨bm, hbm⟩ : ∃ bm, bm = w.heap.size + 1 := ⟨_, rfl⟩
 rw [← hbm] at k2 ⊢
 generalize (w.alloc (Obj.cells #[Value.int IntKind.i64 0, Value.int IntKind.i64 0, Value.int IntKind.i64 0, Value.int IntKind.i64 0] 158)).alloc (Obj.cells #[Value.int IntKind.i64 1, Value.int IntKind.i64 0, Value.int IntKind.i64 0, Value.int IntKind.i64 1] 158) = w1 at hw k1 k2 ⊢
 have hlt : w.heap.size < bm := by omega
 have hne : bm ≠ w.heap.size := by omega
 have HST := Lib.hid (And.intro k1 (And.intro k2 hw))
 clear hbm k1 k2 hw
 go_loopw [0, 1] (fun s0 s1 wr => ∃ (A D : Nat) (sg : Int) (P Q R T : Nat) (p q r s : Int), s0 = .int .i64 (A : Int) ∧ s1 = .int .i64 (D : Int) ∧ Hid (Lh a0 b0 A D sg P Q R T ∧ p = sg * P ∧ q = -sg * Q ∧ r = -sg * R ∧ s = sg * T) ∧ Mt wr w.heap.size 0 0 0 0 ∧ Mt wr bm p q r s ∧ Below w.heap.size w wr) (fun _ s1 _ => (intOf s1).toNat)
 case atStart => exact ⟨a0, b0, 1, 1, 0, 0, 1, 1, 0, 0, 1, rfl, rfl, Lib.hid ⟨Lh.start a0 b0, by simp, by simp, by simp, by simp⟩, HST.out.1, HST.out.2.1, HST.out.2.2⟩
 case round =>
  obtain ⟨A, D, sg, P, Q, R, T, p, q, r, s, rfl, rfl, hh, k1, k2, hbr⟩ := hrel
  clear HST
  have e0 := k2.c0
  have e1 := k2.c1
  have e2 := k2.c2
  have e3 := k2.c3
  have HBR := Lib.hid hbr
  have K1 := Lib.hid k1
  have K2 := Lib.hid k2
  by_cases hD : D = 0
  ·subst hD
   have f0 := k1.free 0
   have f1 := k1.free 1
   have f2 := k1.free 2
   have f3 := k1.free 3
   have g0 := k1.c0
   have g1 := k1.c1
   have g2 := k1.c2
   have g3 := k1.c3
   clear k1 k2 hbr
   go_wp2_with fail
   refine bodyPost_ret ((K1.out.st p q r s).result rfl) rfl ⟨p, q, r, s, A, 0, sg, P, Q, R, T, rfl, hh.out.1, hh.out.2.1, hh.out.2.2.1, hh.out.2.2.2.1, hh.out.2.2.2.2, below_st4 HBR.out (Nat.le_refl _) p q r s⟩
  ·obtain ⟨hL, hp, hq, hr, hs⟩ := hh.out
   have hDp : 0 < D := by omega
   obtain ⟨qt, hqt⟩ : ∃ qt, qt = A / D := ⟨_, rfl⟩
   obtain ⟨rt, hrt⟩ : ∃ rt, rt = A % D := ⟨_, rfl⟩
   obtain ⟨N, hN⟩ : ∃ N, N = Q + qt * T := ⟨_, rfl⟩
   obtain ⟨M, hM⟩ : ∃ M, M = P + qt * R := ⟨_, rfl⟩
   have hNa : N ≤ a0 := by rw [hN, hqt]; exact hL.next_lt hDp
   have hAa := hL.a_le
   have hrD : rt < D := by rw [hrt]; exact Nat.mod_lt _ hDp
   have hDA := hL.le hab
   have hqA : qt ≤ A := by rw [hqt]; exact Nat.div_le_self _ _
   have hTb := hL.tb
   have hDb : D ≤ a0 := by omega
   have hdv : (A : Int) / (D : Int) = (qt : Int) := by rw [hqt]; simp
   have hmd : (A : Int) % (D : Int) = (rt : Int) := by rw [hrt]; simp
   obtain ⟨v, hv, hv1, hv2⟩ : ∃ v : Int, (qt : Int) * s = v ∧ -1000000000000000000 ≤ v ∧ v ≤ 1000000000000000000 := by
    refine ⟨_, rfl, ?_⟩
    have e : ((qt * T : Nat) : Int) = (qt : Int) * T := by simp
    have hqT : qt * T ≤ N := by omega
    rcases hL.sgn with h | h
    ·rw [hs, h, Int.one_mul, ← e]; omega
    ·rw [hs, h, show (qt : Int) * (-1 * (T : Int)) = -((qt : Int) * T) by rw [Int.neg_one_mul, Int.mul_neg], ← e]; omega
   obtain ⟨nx, hnx, hnx2⟩ : ∃ nx : Int, q - v = nx ∧ nx = -sg * N := by
    refine ⟨_, rfl, ?_⟩
    rw [← hv, hq, hs, hN, Int.natCast_add, Int.natCast_mul, Int.mul_add]
    have : (qt : Int) * (sg * T) = sg * ((qt : Int) * T) := by ac_rfl
    rw [this, Int.neg_mul, Int.neg_mul]; omega
   have hmg : mag nx = N ∧ -1000000000000000000 ≤ nx ∧ nx ≤ 1000000000000000000 := by
    rcases hL.sgn with h | h
    ·rw [hnx2, h]
     refine ⟨?_, by omega, by omega⟩
     unfold mag; split <;> omega
    ·rw [hnx2, h]
     refine ⟨?_, by omega, by omega⟩
     unfold mag; split <;> omega
   have hms : mag s = T ∧ -1000000000 ≤ s ∧ s ≤ 1000000000 := by
    rcases hL.sgn with h | h
    ·rw [hs, h]
     refine ⟨?_, by omega, by omega⟩
     unfold mag; split <;> omega
    ·rw [hs, h]
     refine ⟨?_, by omega, by omega⟩
     unfold mag; split <;> omega
   obtain ⟨hg1, hg2, hg3⟩ := hmg
   obtain ⟨hg4, hg5, hg6⟩ := hms
   have hqb : -1000000000 ≤ q ∧ q ≤ 1000000000 := by
    have hQT := hL.qt
    rcases hL.sgn with h | h
    ·rw [hq, h]; omega
    ·rw [hq, h]; omega
   obtain ⟨hq1, hq2⟩ := hqb
   have hD1 : (0 : Int) < (D : Int) := by omega
   have HG1 := Lib.hid hg1
   have HG4 := Lib.hid hg4
   have HH := hh
   have HN := Lib.hid hN
   have HM := Lib.hid hM
   have HQT := Lib.hid hqt
   have HRT := Lib.hid hrt
   have HNX := Lib.hid hnx2
   have HDA := Lib.hid hDA
   have HQ := fun k => below_drewN (Below.refl wr.heap.size wr) k
   have HQH := Lib.hid HQ
   clear HQ k1 k2 hbr hL hp hq hr hs hN hM hqt hrt hnx2 hg1 hg4 hh hDA
   go_wp2_with fail
   go_quiet (fail)
   have k1 := K1.out.below (HQH.out nq) K1.out.lt
   have k2 := K2.out.below (HQH.out nq) K2.out.lt
   have hbr := below_drewN HBR.out nq
   clear e0 e1 e2 e3 K1 K2 HBR HQH
   generalize wr.drewN nq = w2 at k1 k2 hbr ⊢
   have e0 := k2.c0
   have e1 := k2.c1
   have e2 := k2.c2
   have e3 := k2.c3
   go_wp2_with fail
   have hbm := k2.lt
   have hb0 := Below.refl w2.heap.size w2
   rw [hmd]
   have hnes : Nonempty (Hs w2 bm s) := ⟨⟨w2, ⟨e3, hb0⟩⟩⟩
   have hx3 : ∀ x : Hs w2 bm s, x.val.cell? ⟨bm, 3, none⟩ = some (.int .i64 s) := fun x => x.holds.1
   refine wp_region_quiet (C := fun W => ∃ x : Hs w2 bm s, W = x.val) (by kernel_rfl) (by kernel_rfl) ⟨⟨w2.drew, ⟨by simpa using e3, hb0.drew⟩⟩, rfl⟩ ?_
   change wpQuiet _ _ _ _ (_ :: _) _
   by_cases hc1 : rt < N
   ·have hc1' : (rt : Int) < (N : Int) := by omega
    repeat (go_big_quiet_step (first
     | exact size_held nx N HG1.out (by omega) (by omega) hbm _
     | exact size_held s T HG4.out (by omega) (by omega) hbm _))
    refine wpQuiet_nil ?_
    rintro w3 ⟨x3, rfl⟩
    have m1 := k1.below x3.holds.2 k1.lt
    have m2 := k2.below x3.holds.2 k2.lt
    have HB3 := Lib.hid (hbr.trans (x3.holds.2.mono hbr.size))
    generalize x3.val = w3 at m1 m2 HB3 ⊢
    have f0 := m1.free 0
    have f1 := m1.free 1
    have f2 := m1.free 2
    have f3 := m1.free 3
    have g0 := m1.c0
    have g1 := m1.c1
    have g2 := m1.c2
    have g3 := m1.c3
    have i0 := m2.c0
    have i1 := m2.c1
    have i2 := m2.c2
    have i3 := m2.c3
    have M1 := Lib.hid m1
    clear e0 e1 e2 e3 hx3 m1 m2 k1 k2 hbr
    go_wp2_with fail
    refine bodyPost_ret ((M1.out.st p q r s).result rfl) rfl ⟨p, q, r, s, A, D, sg, P, Q, R, T, rfl, HH.out.1, HH.out.2.1, HH.out.2.2.1, HH.out.2.2.2.1, HH.out.2.2.2.2, below_st4 HB3.out (Nat.le_refl _) p q r s⟩
   ·have hc1' : decide ((rt : Int) < (N : Int)) = false := decide_eq_false (by omega)
    by_cases hc2 : D < N + T + rt
    ·have hc2' : (D : Int) - (rt : Int) < (N : Int) + (T : Int) := by omega
     repeat (go_big_quiet_step (first
      | exact size_held nx N HG1.out (by omega) (by omega) hbm _
      | exact size_held s T HG4.out (by omega) (by omega) hbm _))
     refine wpQuiet_nil ?_
     rintro w3 ⟨x3, rfl⟩
     have m1 := k1.below x3.holds.2 k1.lt
     have m2 := k2.below x3.holds.2 k2.lt
     have HB3 := Lib.hid (hbr.trans (x3.holds.2.mono hbr.size))
     generalize x3.val = w3 at m1 m2 HB3 ⊢
     have f0 := m1.free 0
     have f1 := m1.free 1
     have f2 := m1.free 2
     have f3 := m1.free 3
     have g0 := m1.c0
     have g1 := m1.c1
     have g2 := m1.c2
     have g3 := m1.c3
     have i0 := m2.c0
     have i1 := m2.c1
     have i2 := m2.c2
     have i3 := m2.c3
     have M1 := Lib.hid m1
     clear e0 e1 e2 e3 hx3 m1 m2 k1 k2 hbr
     go_wp2_with fail
     refine bodyPost_ret ((M1.out.st p q r s).result rfl) rfl ⟨p, q, r, s, A, D, sg, P, Q, R, T, rfl, HH.out.1, HH.out.2.1, HH.out.2.2.1, HH.out.2.2.2.1, HH.out.2.2.2.2, below_st4 HB3.out (Nat.le_refl _) p q r s⟩
    ·have hc2' : decide ((D : Int) - (rt : Int) < (N : Int) + (T : Int)) = false := decide_eq_false (by omega)
     repeat (go_big_quiet_step (first
      | exact size_held nx N HG1.out (by omega) (by omega) hbm _
      | exact size_held s T HG4.out (by omega) (by omega) hbm _))
     refine wpQuiet_nil ?_
     rintro w3 ⟨x3, rfl⟩
     have HST := Lib.hid (HH.out.1.step hab ha hDp (by have := HN.out; rw [HQT.out] at this; rw [← this, ← HRT.out]; omega) (by have := HN.out; rw [HQT.out] at this; rw [← this, ← HRT.out]; omega))
     rw [← HQT.out, ← HN.out, ← HM.out, ← HRT.out] at HST
     have hMN := HST.out.rt
     have hN9 := HST.out.tb
     have hRT := HH.out.1.rt
     have hqR : qt * R ≤ M := by have := HM.out; omega
     obtain ⟨v2, hv3, hv4, hv5⟩ : ∃ v2 : Int, (qt : Int) * r = v2 ∧ -1000000000 ≤ v2 ∧ v2 ≤ 1000000000 := by
      refine ⟨_, rfl, ?_⟩
      have e : ((qt * R : Nat) : Int) = (qt : Int) * R := by simp
      rcases HH.out.1.sgn with h | h
      ·rw [HH.out.2.2.2.1, h, show (qt : Int) * (-1 * (R : Int)) = -((qt : Int) * R) by rw [Int.neg_one_mul, Int.mul_neg], ← e]; omega
      ·rw [HH.out.2.2.2.1, h, show (qt : Int) * (- -1 * (R : Int)) = (qt : Int) * R by rw [Int.neg_neg, Int.one_mul], ← e]; omega
     obtain ⟨nr, hnr, hnr2⟩ : ∃ nr : Int, p - v2 = nr ∧ nr = sg * M := by
      refine ⟨_, rfl, ?_⟩
      rw [← hv3, HH.out.2.1, HH.out.2.2.2.1, HM.out, Int.natCast_add, Int.natCast_mul, Int.mul_add]
      have : (qt : Int) * (-sg * R) = -(sg * ((qt : Int) * R)) := by rw [Int.neg_mul, Int.mul_neg]; congr 1; ac_rfl
      rw [this]; omega
     have hnb : -1000000000 ≤ nr ∧ nr ≤ 1000000000 := by
      rcases HH.out.1.sgn with h | h
      ·rw [hnr2, h]; omega
      ·rw [hnr2, h]; omega
     obtain ⟨hnb1, hnb2⟩ := hnb
     have HNR := Lib.hid hnr2
     have m1 := k1.below x3.holds.2 k1.lt
     have m2 := k2.below x3.holds.2 k2.lt
     have HB3 := Lib.hid (hbr.trans (x3.holds.2.mono hbr.size))
     generalize x3.val = w3 at m1 m2 HB3 ⊢
     have f0 := m2.free 0
     have f1 := m2.free 1
     have f2 := m2.free 2
     have f3 := m2.free 3
     have i0 := m2.c0
     have i1 := m2.c1
     have i2 := m2.c2
     have i3 := m2.c3
     have M1 := Lib.hid m1
     have M2 := Lib.hid m2
     clear e0 e1 e2 e3 hx3 m1 m2 k1 k2 hbr hnr2
     go_wp2_with fail
     go_roundw
     case rel => exact ⟨D, rt, -sg, R, T, M, N, r, s, nr, nx, rfl, by rw [← hmd], Lib.hid ⟨HST.out, HH.out.2.2.2.1, by rw [Int.neg_neg]; exact HH.out.2.2.2.2, by rw [Int.neg_neg]; exact HNR.out, HNX.out⟩, M1.out.stOther (Ne.symm hne) r s nr nx, M2.out.st r s nr nx, below_st4 HB3.out (Nat.le_of_lt hlt) r s nr nx⟩
     case measure => simp [intOf]; omega
open Go.RowKit NV
def mx (X x k : Nat) : Nat → Nat := fun j => if j < k then dg X j else dg x j
theorem mx_zero (X x : Nat) : mx X x 0 = dg x := by funext j; simp [mx]
theorem mx_at (X x k : Nat) : mx X x k k = dg x k := by rw [mx, if_neg (by omega)]
theorem mx_step {X x k v : Nat} (h : v = dg X k) : upd (mx X x k) k v = mx X x (k + 1) := by
 funext j
 unfold upd mx
 by_cases e : j = k
 ·subst e; rw [if_pos rfl, if_pos (by omega), h]
 ·rw [if_neg e]
  by_cases hj : j < k
  ·rw [if_pos hj, if_pos (by omega)]
  ·rw [if_neg hj, if_neg (by omega)]
def Sm (p q : Int) : Prop := (0 ≤ p ∧ p ≤ 1000000000 ∧ q ≤ 0 ∧ -1000000000 ≤ q) ∨ (0 ≤ q ∧ q ≤ 1000000000 ∧ p ≤ 0 ∧ -1000000000 ≤ p)
theorem place {p q : Int} {x y X : Nat} (hs : Sm p q) (h : (X : Int) = p * x + q * y) (k : Nat) :
  (-1000000000000000000 ≤ p * ((dg x k : Nat) : Int) ∧ p * ((dg x k : Nat) : Int) ≤ 1000000000000000000) ∧ (-1000000000000000000 ≤ q * ((dg y k : Nat) : Int) ∧ q * ((dg y k : Nat) : Int) ≤ 1000000000000000000) ∧
  (-1000000000000000000 ≤ p * ((dg x k : Nat) : Int) + q * ((dg y k : Nat) : Int) ∧ p * ((dg x k : Nat) : Int) + q * ((dg y k : Nat) : Int) ≤ 1000000000000000000) ∧ (-1000000000 ≤ lc p q x y k ∧ lc p q x y k ≤ 1000000000) ∧
  (p * ((dg x k : Nat) : Int) + q * ((dg y k : Nat) : Int) + lc p q x y k + 2000000000000000000) % 1000000000 = ((dg X k : Nat) : Int) ∧ (p * ((dg x k : Nat) : Int) + q * ((dg y k : Nat) : Int) + lc p q x y k + 2000000000000000000) / 1000000000 = lc p q x y (k + 1) + 2000000000 := by
 obtain ⟨h1, h2, h3⟩ := pq_bound x y k hs
 have h4 := lc_bound x y k hs
 have h5 := lc_limb h k
 have h6 := lc_succ p q x y k
 refine ⟨h1, h2, h3, h4, ?_, ?_⟩
 ·rw [h5]; omega
 ·rw [h6]; omega
set_option maxHeartbeats 3200000 in
set_option maxRecDepth 100000 in
theorem apply_any {w : World} {gx gy cx cy x y X Y base : Nat} {p q r s : Int} (hX : Hold w gx (ln x) cx (dg x)) (hY : Hold w gy (ln y) cy (dg y)) (hg : gx < gy) (hyx : ln y ≤ ln x) (hln : ln x ≤ 1000000)
  (s1 : Sm p q) (s2 : Sm r s) (eX : (X : Int) = p * x + q * y) (eY : (Y : Int) = r * x + s * y) (lX : X < B ^ ln x) (lY : Y < B ^ ln x) (hb : base ≤ gx) :
  Calls Tryz.prog 128 #[.agg #[.int .i64 p, .int .i64 q, .int .i64 r, .int .i64 s], .slice (some ⟨gx, 0, none⟩) (ln x) cx, .slice (some ⟨gy, 0, none⟩) (ln y) cy] w fun e w' =>
   ∃ g c, e = .returned (.tuple #[.slice (some ⟨gx, 0, none⟩) (ln X) cx, .slice (some ⟨g, 0, none⟩) (ln Y) c]) ∧ Hold w' gx (ln X) cx (dg X) ∧ Hold w' g (ln Y) c (dg Y) ∧ gx < g ∧ Below base w w' := by
 obtain ⟨i0, hi, hz0, hz1, hz2⟩ := info_parts info72
 obtain ⟨L, hL⟩ : ∃ L, L = ln x := ⟨_, rfl⟩
 have hXL := ln_le lX
 have hYL := ln_le lY
 rw [← hL] at hX hyx hln lX lY hXL hYL ⊢
 have hgy := hY.lt
 have hgxw := hX.lt
 have hcx := hX.room.1
 have hcm := hX.room.2
 have HX := Lib.hid hX
 have HY := Lib.hid hY
 have hyL := hyx
 have HXX := Lib.hid lX
 have HYY := Lib.hid lY
 have HEX := Lib.hid eX
 have HEY := Lib.hid eY
 clear hX hY hL lX lY eX eY
 go_enter Tryz.func128, Tryz.ntmps128
 go_wp2_with fail
 have hbw : Below w.heap.size w (w.alloc (Obj.cells #[Value.int IntKind.i64 p, Value.int IntKind.i64 q, Value.int IntKind.i64 r, Value.int IntKind.i64 s] 158)) := (Below.refl _ _).alloc (Nat.le_refl _) _
 have hm1 : Mt (w.alloc (Obj.cells #[Value.int IntKind.i64 p, Value.int IntKind.i64 q, Value.int IntKind.i64 r, Value.int IntKind.i64 s] 158)) w.heap.size p q r s := heap_alloc_new w _
 generalize w.alloc (Obj.cells #[Value.int IntKind.i64 p, Value.int IntKind.i64 q, Value.int IntKind.i64 r, Value.int IntKind.i64 s] 158) = w1 at hbw hm1 ⊢
 have HST := Lib.hid (And.intro (HX.out.below hbw hgxw) (And.intro (HY.out.below hbw hgy) (And.intro hm1 (hbw.mono (show base ≤ w.heap.size by omega)))))
 obtain ⟨bm, hbm⟩ : ∃ bm, bm = w.heap.size := ⟨_, rfl⟩
 rw [← hbm] at HST ⊢
 have hbm1 : gy < bm := by omega
 clear hbw hm1 hbm HX HY
 go_loopw [2] (fun s2 wr => ∃ k g c : Nat, s2 = .slice (some ⟨g, 0, none⟩) k c ∧ ln y ≤ k ∧ k ≤ L ∧ Hold wr g k c (dg y) ∧ gx < g ∧ g ≠ bm ∧ Hold wr gx L cx (dg x) ∧ Mt wr bm p q r s ∧ Below base w wr) (fun s2 _ => L - lenOf s2)
 case atStart => exact ⟨ln y, gy, cy, rfl, Nat.le_refl _, hyL, HST.out.2.1, hg, by omega, HST.out.1, HST.out.2.2.1, HST.out.2.2.2⟩
 case round =>
  obtain ⟨k, g, c, rfl, hk1, hk2, hy1, hgg, hgm, hx1, hm1, hbr⟩ := hrel
  clear HST
  have hgw := hy1.lt
  have hmw := hm1.lt
  have hxw := hx1.lt
  by_cases hkL : k < L
  ·have HNEWS := Lib.hid (cell_one_new wr (.int .u64 0) 118 0 (.int .u64 0) rfl)
   have hbe : Below wr.heap.size wr (wr.alloc (.cells #[.int .u64 0] 118)) := (Below.refl _ _).alloc (Nat.le_refl _) _
   have hyA := hy1.below hbe hgw
   have hxA := hx1.below hbe hxw
   have hmA := hm1.below hbe hmw
   have hbA := hbr.trans (hbe.mono (show base ≤ wr.heap.size by omega))
   have hown := hyA.owns (base := gx + 1) hgg
   have hbase : gx + 1 ≤ (wr.alloc (.cells #[.int .u64 0] 118)).heap.size := by simp; omega
   have HA := Lib.hid (And.intro hxA (And.intro hmA hbA))
   have HS := Lib.hid (show (wr.alloc (.cells #[.int .u64 0] 118)).heap.size = wr.heap.size + 1 by simp)
   clear hy1 hx1 hm1 hbr hyA hxA hmA hbA hbe
   go_wp2_with (at_builtin; refine wpList_append_own _ rfl _ _ 108 rfl (gx + 1) 118 i0 (.int .u64 0) 1 8 Tryz.underlying108 hi hz0 hz1 hz2 rfl (by decide) _ k _ rfl hown ⟨wr.heap.size, 0, none⟩ 1 1 [.int .u64 0] rfl rfl (by
     intro j u hj
     obtain rfl : j = 0 := by
      have := (List.getElem?_eq_some_iff.1 hj).1
      simpa using this
     simp at hj
     subst hj
     exact HNEWS.out) (by intro u hu; simp at hu; subst hu; rfl) (by unfold maxLen; omega) (by omega) hbase ?_)
   intro v' w3 hown3 hgrow3 hnil3
   have hv : v' ≠ .slice none 0 0 := hnil3
   obtain ⟨g3, c3, rfl, hg3, hh3⟩ := Hold.of_owns (f := dg y) (N := k + 1) (by
    have e : (List.range k).map (fun j => Value.int .u64 ((dg y j : Nat) : Int)) ++ [Value.int .u64 0] = (List.range (k + 1)).map (fun j => Value.int .u64 ((dg y j : Nat) : Int)) := by
     rw [List.range_succ, List.map_append, List.map_singleton, dg_past hk1]; rfl
    rw [← e]; exact hown3) hv
   have hgne : ∀ b, b < wr.heap.size → b ≠ g → w3.heap[b]? = (wr.alloc (.cells #[.int .u64 0] 118)).heap[b]? := fun b h1 h2 =>
    hgrow3.block b (by rw [HS.out]; omega) (by simp [Value.ownBlock]; exact h2)
   have hx3 : Hold w3 gx L cx (dg x) := by
    obtain ⟨cur, e1, e2⟩ := HA.out.1
    exact ⟨cur, (hgne gx hxw (by omega)).trans e1, e2⟩
   have hm3 : Mt w3 bm p q r s := (hgne bm hmw (fun e => hgm e.symm)).trans HA.out.2.1
   have hb3 : Below base w w3 := HA.out.2.2.grown hgrow3 (by rw [HS.out]; omega) (by intro b hb'; simp [Value.ownBlock] at hb'; omega)
   have hg3m : g3 ≠ bm := by
    intro e
    rw [e] at hh3
    obtain ⟨cur, e1, _⟩ := hh3
    have e2 : w3.heap[bm]? = some (.cells #[.int .i64 p, .int .i64 q, .int .i64 r, .int .i64 s] 158 (0, 0)) := hm3
    rw [e1] at e2
    simp at e2
   have HF := Lib.hid (And.intro hh3 (And.intro hx3 (And.intro hm3 hb3)))
   clear hown3 hgrow3 hnil3 hv hh3 hgne hx3 hm3 hb3 hown
   go_wp2_with fail
   go_roundw
   case rel => exact ⟨k + 1, g3, c3, rfl, by omega, by omega, HF.out.1, by omega, hg3m, HF.out.2.1, HF.out.2.2.1, HF.out.2.2.2⟩
   case measure => simp [lenOf]; omega
  ·obtain rfl : k = L := by omega
   have hgc := hy1.room
   have HY1 := Lib.hid hy1
   have HX1 := Lib.hid hx1
   have HM1 := Lib.hid hm1
   have HB1 := Lib.hid hbr
   clear hy1 hx1 hm1 hbr
   go_wp2_with fail
   go_loopw [8, 9, 25] (fun s8 s9 s25 wq => ∃ i : Nat, i ≤ k ∧ s25 = .int .i64 (i : Int) ∧ s8 = .int .i64 (lc p q x y i) ∧ s9 = .int .i64 (lc r s x y i) ∧ Hold wq gx k cx (mx X x i) ∧ Hold wq g k c (mx Y y i) ∧ Mt wq bm p q r s ∧ Below base w wq) (fun _ _ s25 _ => k - (intOf s25).toNat)
   case atStart => exact ⟨0, Nat.zero_le _, rfl, by rw [lc_zero], by rw [lc_zero], by rw [mx_zero]; exact HX1.out, by rw [mx_zero]; exact HY1.out, HM1.out, HB1.out⟩
   case round =>
    obtain ⟨i, hik, rfl, rfl, rfl, hx, hy, hm, hbq⟩ := hrel
    clear HX1 HY1 HM1 HB1
    by_cases hlt : i < k
    ·have c1 := hx.cell hlt
     rw [mx_at] at c1
     have c2 := hy.cell hlt
     rw [mx_at] at c2
     have d1 := dg_lt x i
     have d2 := dg_lt y i
     obtain ⟨⟨a1, a2⟩, ⟨a3, a4⟩, ⟨a5, a6⟩, ⟨a7, a8⟩, a9, a10⟩ := place s1 HEX.out i
     obtain ⟨⟨b1, b2⟩, ⟨b3, b4⟩, ⟨b5, b6⟩, ⟨b7, b8⟩, b9, b10⟩ := place s2 HEY.out i
     have A9 := Lib.hid a9
     have A10 := Lib.hid a10
     have B9 := Lib.hid b9
     have B10 := Lib.hid b10
     have hilt : (i : Int) < (k : Int) := by omega
     have tell : ∀ q', Hold (wr.drewN q') gx k cx (mx X x i) ∧ Hold (wr.drewN q') g k c (mx Y y i) ∧ Mt (wr.drewN q') bm p q r s ∧ Below base w (wr.drewN q') := fun q' =>
      have h := below_drewN (Below.refl wr.heap.size wr) q'
      ⟨hx.below h hx.lt, hy.below h hy.lt, hm.below h hm.lt, below_drewN hbq q'⟩
     have TELL := Lib.hid tell
     clear tell a9 a10 b9 b10 hx hy hm hbq
     go_wp2_with fail
     go_quiet (fail)
     obtain ⟨hx, hy, hm, hbq⟩ := TELL.out nq
     clear TELL c1 c2
     generalize wr.drewN nq = w2 at hx hy hm hbq ⊢
     have e0 := hm.c0
     have e1 := hm.c1
     have e2 := hm.c2
     have e3 := hm.c3
     have c1 := hx.cell hlt
     rw [mx_at] at c1
     have f1 := hx.free i
     have hx2 := hx.store i (dg X i)
     rw [mx_step rfl] at hx2
     have hy2 := hy.other (a := ⟨gx, i, none⟩) (show g ≠ gx by omega) (.int .u64 ((dg X i : Nat) : Int))
     have hm2 : Mt (w2.setCell ⟨gx, i, none⟩ (.int .u64 ((dg X i : Nat) : Int))) bm p q r s := (heap_setCell_other w2 ⟨gx, i, none⟩ bm _ (show bm ≠ gx by omega)).trans hm
     have hb2 := hbq.setCell (p := ⟨gx, i, none⟩) (show base ≤ gx by omega) (.int .u64 ((dg X i : Nat) : Int))
     have c2 := hy2.cell hlt
     rw [mx_at] at c2
     have f2 := hy2.free i
     have hx3 := hx2.other (a := ⟨g, i, none⟩) (show gx ≠ g by omega) (.int .u64 ((dg Y i : Nat) : Int))
     have hy3 := hy2.store i (dg Y i)
     rw [mx_step rfl] at hy3
     have hm3 : Mt ((w2.setCell ⟨gx, i, none⟩ (.int .u64 ((dg X i : Nat) : Int))).setCell ⟨g, i, none⟩ (.int .u64 ((dg Y i : Nat) : Int))) bm p q r s := (heap_setCell_other _ ⟨g, i, none⟩ bm _ (Ne.symm hgm)).trans hm2
     have hb3 := hb2.setCell (p := ⟨g, i, none⟩) (show base ≤ g by omega) (.int .u64 ((dg Y i : Nat) : Int))
     have HF := Lib.hid (And.intro hx3 (And.intro hy3 (And.intro hm3 hb3)))
     clear hx hy hm hbq hx2 hy2 hm2 hb2 hx3 hy3 hm3 hb3
     have a9 := A9.out
     have a10 := A10.out
     have b9 := B9.out
     have b10 := B10.out
     go_wp2_with fail
     go_roundw
     case rel => exact ⟨i + 1, by omega, by go_num, rfl, rfl, HF.out.1, HF.out.2.1, HF.out.2.2.1, HF.out.2.2.2⟩
     case measure => simp [intOf]; omega
    ·obtain rfl : i = k := by omega
     have hxf := hx.congr (f' := dg X) (fun j hj => by rw [mx, if_pos hj])
     have hyf := hy.congr (f' := dg Y) (fun j hj => by rw [mx, if_pos hj])
     have HTX := Lib.hid (trim_any (n := X) (by omega) hcx HXX.out (fun j hj => hxf.cell hj))
     have HTY := Lib.hid (trim_any (n := Y) (by omega) hgc.1 HYY.out (fun j hj => hyf.cell hj))
     have HF := Lib.hid (And.intro (hxf.less hXL) (And.intro (hyf.less hYL) hbq))
     clear hxf hyf hx hy hm hbq
     go_wp2_with fail
     refine HTX.out.mono ?_
     rintro e w5 ⟨rfl, rfl⟩
     go_wp2_with fail
     refine HTY.out.mono ?_
     rintro e w5 ⟨rfl, rfl⟩
     go_wp2_with fail
     go_ret2
     exact ⟨_, _, rfl, HF.out.1, HF.out.2.1, hgg, HF.out.2.2⟩
open Go.RowKit NV
set_option maxHeartbeats 1600000 in
set_option maxRecDepth 100000 in
theorem eq_mt_d (D : Nat) (a b c d a' b' c' d' : Int) (w : World) : (Op.equalIn (D + 1 + 1) 158 (.agg #[.int .i64 a, .int .i64 b, .int .i64 c, .int .i64 d]) (.agg #[.int .i64 a', .int .i64 b', .int .i64 c', .int .i64 d'])).run Tryz.prog w = .ok (a == a' && b == b' && c == c' && d == d') w := by
 have hu := Tryz.underlying158
 have hu2 := Tryz.underlying2
 have hz := Tryz.sizeOf2
 have ha := Tryz.isAgg2
 have e : ∀ (x y : Int) (w : World), (Op.equalIn (D + 1) 2 (.int .i64 x) (.int .i64 y)).run Tryz.prog w = .ok (x == y) w := fun x y w => run_equalIn_int w D 2 .i64 .i64 x y hu2
 rw [Op.equalIn]
 simp only [Sem.run_bind, run_underlying hu, Result.andThen_ok, hz]
 have hp : ∀ (xs : Array Value) (i : Nat) (u : Value) (w : World), xs[i]? = some u → (part 2 xs i).run Tryz.prog w = .ok u w := by
  intro xs i u w hi
  simp [part, ha, hz, hi]
 rw [Std.Legacy.Range.forIn_eq_forIn_range']
 have hr : List.range' [:4].start [:4].size [:4].step = [0, 1, 2, 3] := by decide
 rw [hr]
 simp only [List.forIn_cons, List.forIn_nil, Sem.run_bind, Nat.mul_one]
 rw [hp _ 0 (.int .i64 a) w rfl, Result.andThen_ok, hp _ 0 (.int .i64 a') w rfl, Result.andThen_ok, e, Result.andThen_ok]
 cases a == a'
 ·simp
 simp only [Bool.not_true, Bool.false_eq_true, if_false, Sem.run_pure, Result.andThen_ok, Sem.run_bind]
 rw [hp _ 1 (.int .i64 b) w rfl, Result.andThen_ok, hp _ 1 (.int .i64 b') w rfl, Result.andThen_ok, e, Result.andThen_ok]
 cases b == b'
 ·simp
 simp only [Bool.not_true, Bool.false_eq_true, if_false, Sem.run_pure, Result.andThen_ok, Sem.run_bind]
 rw [hp _ 2 (.int .i64 c) w rfl, Result.andThen_ok, hp _ 2 (.int .i64 c') w rfl, Result.andThen_ok, e, Result.andThen_ok]
 cases c == c'
 ·simp
 simp only [Bool.not_true, Bool.false_eq_true, if_false, Sem.run_pure, Result.andThen_ok, Sem.run_bind]
 rw [hp _ 3 (.int .i64 d) w rfl, Result.andThen_ok, hp _ 3 (.int .i64 d') w rfl, Result.andThen_ok, e, Result.andThen_ok]
 cases d == d'
 ·simp
 simp
theorem eq_mt (a b c d a' b' c' d' : Int) (w : World) : (Op.equalIn 10000 158 (.agg #[.int .i64 a, .int .i64 b, .int .i64 c, .int .i64 d]) (.agg #[.int .i64 a', .int .i64 b', .int .i64 c', .int .i64 d'])).run Tryz.prog w = .ok (a == a' && b == b' && c == c' && d == d') w := eq_mt_d 9998 a b c d a' b' c' d' w
theorem sm_of {a0 b0 a b : Nat} {sg : Int} {P Q R T : Nat} (h : Lh a0 b0 a b sg P Q R T) : Sm (sg * P) (-sg * Q) ∧ Sm (-sg * R) (sg * T) := by
 have h1 := h.tb
 have h2 := h.qt
 have h3 := h.rt
 have h4 : P ≤ 1000000000 := by rcases h.pq with ⟨e, _⟩ | ⟨e, _⟩ <;> omega
 unfold Sm
 rcases h.sgn with e | e
 ·rw [e]; constructor <;> omega
 ·rw [e]; constructor <;> omega
def worth (w : World) (g : Nat) : Nat → Nat
 | 0 => 0
 | k + 1 => worth w g k + B ^ k * (intOf ((w.cell? ⟨g, k, none⟩).getD .nilIface)).toNat
def valOf (w : World) : Value → Nat
 | .slice (some a) n _ => worth w a.block n
 | _ => 0
theorem worth_num {w : World} {g n : Nat} : ∀ k, (∀ j, j < k → w.cell? ⟨g, j, none⟩ = some (.int .u64 ((dg n j : Nat) : Int))) → worth w g k = n % B ^ k
 | 0, _ => by simp [worth, Nat.mod_one]
 | k + 1, h => by
  rw [worth, worth_num k (fun j hj => h j (by omega)), h k (by omega), mod_succ]
  simp [intOf]
theorem Num.val {w : World} {v : Value} {n : Nat} (h : Num w v n) : valOf w v = n := by
 obtain ⟨a, c, rfl, ⟨h0, rfl, rfl⟩ | ⟨b, rfl, _, _, h4⟩⟩ := h
 ·rw [h0]; rfl
 ·show worth w b (ln n) = n
  rw [worth_num _ h4, Nat.mod_eq_of_lt (lt_pow_ln n)]
def Gs2 (w wr : World) (a b : Nat) (s0 s1 : Value) (X Y : Nat) : Prop :=
 Num wr s0 X ∧ Num wr s1 Y ∧ Y ≤ X ∧ ln X ≤ 1000000 ∧ Hid (Nat.gcd X Y = Nat.gcd a b) ∧ Below w.heap.size w wr ∧
  (2 < ln Y → ∃ gx cx gy cy, s0 = .slice (some ⟨gx, 0, none⟩) (ln X) cx ∧ s1 = .slice (some ⟨gy, 0, none⟩) (ln Y) cy ∧ Hold wr gx (ln X) cx (dg X) ∧ Hold wr gy (ln Y) cy (dg Y) ∧ gx < gy ∧ w.heap.size ≤ gx)
set_option maxHeartbeats 3200000 in
set_option maxRecDepth 100000 in
theorem gcd_any {w : World} {x y : Value} {a b : Nat} (hx : Num w x a) (hy : Num w y b) (ha : ln a ≤ 1000000) (hb : ln b ≤ 1000000) :
  Calls Tryz.prog 98 #[x, y] w fun e w' => ∃ v, e = .returned v ∧ Num w' v (Nat.gcd a b) ∧ Below w.heap.size w w' := by
 have HC := Lib.hid (ncmp_any hx hy (by omega) (by omega))
 have HX := Lib.hid hx
 have HY := Lib.hid hy
 obtain ⟨xa, xc, rfl⟩ := slice_any hx
 obtain ⟨ya, yc, rfl⟩ := slice_any hy
 clear hx hy
 go_enter Tryz.func98, Tryz.ntmps98
 go_wp2_with fail
 refine HC.out.mono ?_
 rintro e w1 ⟨rfl, hb1⟩
 have HB1 := Lib.hid hb1
 clear hb1
 go_upto_if 15 with fail
 go_cut [0, 1] from 16 to 17 (fun s0 s1 wx => ∃ X Y, Num wx s0 X ∧ Num wx s1 Y ∧ Y ≤ X ∧ ln X ≤ 1000000 ∧ Hid (Nat.gcd X Y = Nat.gcd a b) ∧ Below w.heap.size w wx)
 case first =>
  by_cases hab : a < b
  ·have hlow := cmpN_low hab
   have hlb : b ≥ a := Nat.le_of_lt hab
   go_wp2_with fail
   go_meet
   exact ⟨b, a, HY.out.below HB1.out, HX.out.below HB1.out, hlb, hb, Lib.hid (Nat.gcd_comm b a), HB1.out⟩
  ·have hhigh := cmpN_high (show b ≤ a by omega)
   go_wp2_with fail
   go_meet
   exact ⟨a, b, HX.out.below HB1.out, HY.out.below HB1.out, by omega, ha, Lib.hid rfl, HB1.out⟩
 case rest =>
 obtain ⟨X, Y, hX, hY, hYX, hlX, hG, hbc⟩ := hcut
 clear HX HY HC HB1
 have HX := Lib.hid hX
 have HY := Lib.hid hY
 have HBC := Lib.hid hbc
 have hlYX := ln_mono hYX
 obtain ⟨sa, sc, rfl⟩ := slice_any hX
 obtain ⟨ta, tc, rfl⟩ := slice_any hY
 clear hX hY hbc
 go_upto_if 20 with fail
 go_cut [0, 1] from 20 to 24 (fun s0 s1 wx => Gs2 w wx a b s0 s1 X Y)
 case first =>
  by_cases h2 : 2 < ln Y
  ·obtain ⟨gx, cx, hfx, hgx, _⟩ := slice_form HX.out (by omega)
   obtain ⟨gy, cy, hfy, hgy, _⟩ := slice_form HY.out (by omega)
   simp only [Value.slice.injEq] at hfx hfy
   obtain ⟨rfl, _, rfl⟩ := hfx
   obtain ⟨rfl, _, rfl⟩ := hfy
   have HCX := Lib.hid (clone_any HX.out hlX)
   go_wp2_with fail
   refine HCX.out.mono ?_
   rintro e w2 ⟨g1, c1, rfl, hg1, hh1, hb1⟩
   have HCY := Lib.hid (clone_any (HY.out.below hb1) (by omega))
   have HH1 := Lib.hid hh1
   have HB1 := Lib.hid hb1
   have hs1 := hb1.size
   have hl1 := hh1.lt
   have hs0 := HBC.out.size
   clear hh1 hb1 HCX
   go_wp2_with fail
   refine HCY.out.mono ?_
   rintro e w3 ⟨g2, c2, rfl, hg2, hh2, hb2⟩
   have hx2 := HH1.out.below hb2 hl1
   have hb3 := HBC.out.trans ((HB1.out.mono hs0).trans (hb2.mono (by omega)))
   have HF := Lib.hid (show Gs2 w w3 a b (.slice (some ⟨g1, 0, none⟩) (ln X) c1) (.slice (some ⟨g2, 0, none⟩) (ln Y) c2) X Y from ⟨hx2.num, hh2.num, hYX, hlX, hG, hb3, fun _ => ⟨g1, c1, g2, c2, rfl, rfl, hx2, hh2, by omega, by omega⟩⟩)
   clear hh2 hb2 hx2 hb3 HCY
   go_wp2_with fail
   go_meet
   exact HF.out
  ·go_wp2_with fail
   go_meet
   exact ⟨HX.out, HY.out, hYX, hlX, hG, HBC.out, fun h => absurd h h2⟩
 case rest =>
 have HST := Lib.hid hcut
 clear hcut HX HY HBC
 go_wp2_with fail
 go_loopw [0, 1] (fun s0 s1 wr => ∃ X Y, Gs2 w wr a b s0 s1 X Y) (fun s0 s1 wr => valOf wr s0 + valOf wr s1)
 case atStart => exact ⟨X, Y, HST.out⟩
 case round =>
  clear HST hYX hlX hG hlYX
  obtain ⟨X, Y, hX, hY, hYX, hlX, hG, hbr, hown⟩ := hrel
  have hlYX := ln_mono hYX
  by_cases h2 : 2 < ln Y
  ·obtain ⟨gx, cx, gy, cy, rfl, rfl, hhx, hhy, hgg, hgb⟩ := hown h2
   have hY0 : 0 < Y := by
    by_cases e : Y = 0
    ·rw [e, ln_zero] at h2; omega
    ·omega
   have HLE := Lib.hid (leading_any hX hY hYX (by omega) hlX)
   have HX := Lib.hid hX
   have HY := Lib.hid hY
   have HHX := Lib.hid hhx
   have HHY := Lib.hid hhy
   have HBR := Lib.hid hbr
   have hgyl := hhy.lt
   have hsr := hbr.size
   have HVX := Lib.hid hX.val
   have HVY := Lib.hid hY.val
   clear hX hY hbr hhx hhy hown
   go_wp2_with fail
   refine HLE.out.mono ?_
   rintro e w2 ⟨S, a0, b0, rfl, hS, ea, eb, ha0, hb2⟩
   have hba0 : b0 ≤ a0 := by rw [ea, eb]; exact Nat.div_le_div_right hYX
   have HFO := Lib.hid (foresee_any (w := w2) hba0 ha0)
   have HEA := Lib.hid ea
   have HEB := Lib.hid eb
   have HB2 := Lib.hid hb2
   have hs2 := hb2.size
   clear hb2 ea eb HLE
   go_wp2_with fail
   refine HFO.out.mono ?_
   rintro e w3 ⟨p, q, r, s, A, D, sg, P, Q, R, T, rfl, hL, hp, hq, hr, hs, hb3⟩
   have HB3 := Lib.hid hb3
   have HL := Lib.hid (And.intro hL (And.intro hp (And.intro hq (And.intro hr hs))))
   have hs3 := hb3.size
   have heq := eq_mt p q r s 1 0 0 1
   have hb4 : Below w3.heap.size w3 (w3.alloc (Obj.cells #[Value.int .i64 p, Value.int .i64 q, Value.int .i64 r, Value.int .i64 s] 158)) := (Below.refl _ _).alloc (Nat.le_refl _) _
   have hb5 := (HB2.out.trans (HB3.out.mono hs2)).trans (hb4.mono (Nat.le_trans hs2 hs3))
   have hb6 := HBR.out.trans (hb5.mono hsr)
   have hx5 := HHX.out.below hb5 (by omega)
   have hy5 := HHY.out.below hb5 hgyl
   have hs5 := hb5.size
   clear hL hp hq hr hs hb3 HFO hb4
   by_cases hI : (p == 1 && q == 0 && r == 0 && s == 1) = true
   ·have HDV := Lib.hid (divide_many (n := ln Y - 2) hx5.num hy5.num hlX (by omega) hYX)
    have H5 := Lib.hid (And.intro hy5 hb6)
    clear hx5 hy5 hb5 hb6
    go_wp2_with fail
    refine HDV.out.mono ?_
    rintro e w6 ⟨qv, rv, rfl, _, hrr, hb7⟩
    obtain ⟨gr, cr, rfl, hgr, hhr⟩ := hrr.hold
    have hy7 := H5.out.1.below hb7 H5.out.1.lt
    have hb8 := H5.out.2.trans (hb7.mono H5.out.2.size)
    have hmod : X % Y < Y := Nat.mod_lt _ hY0
    have hnewv : valOf w6 (.slice (some ⟨gy, 0, none⟩) (ln Y) cy) = Y ∧ valOf w6 (.slice (some ⟨gr, 0, none⟩) (ln (X % Y)) cr) = X % Y := ⟨hy7.num.val, hhr.num.val⟩
    have HF := Lib.hid (And.intro hnewv (show Gs2 w w6 a b (.slice (some ⟨gy, 0, none⟩) (ln Y) cy) (.slice (some ⟨gr, 0, none⟩) (ln (X % Y)) cr) Y (X % Y) from ⟨hy7.num, hhr.num, Nat.le_of_lt hmod, by omega, Lib.hid (by rw [← hG.out, Nat.gcd_comm X Y, Nat.gcd_rec Y X, Nat.gcd_comm]), hb8, fun _ => ⟨gy, cy, gr, cr, rfl, rfl, hy7, hhr, by omega, by omega⟩⟩))
    have HM := Lib.hid (show Y + X % Y < X + Y by omega)
    clear hrr hhr hy7 hb7 hb8 hnewv hmod
    go_wp2_with fail
    go_roundw
    case rel => exact ⟨Y, X % Y, HF.out.2⟩
    case measure => rw [HF.out.1.1, HF.out.1.2, HVX.out, HVY.out]; exact HM.out
   ·have hI2 : (p == 1 && q == 0 && r == 0 && s == 1) = false := by simpa using hI
    obtain ⟨hL, hp, hq, hr, hs⟩ := HL.out
    have hR1 : 1 ≤ R := by
     rcases hL.pq with ⟨e1, e2, e3, e4, e5⟩ | ⟨_, e, _⟩
     ·exfalso
      rw [hp, hq, hr, hs, e1, e2, e3, e4, e5] at hI2
      simp at hI2
     ·exact e
    obtain ⟨X', Y', eX, eY, hYX', hx', hy'⟩ := hL.apply hS HEA.out HEB.out hYX
    obtain ⟨hless, hXX⟩ := hL.less hR1 hx' hy' hY0 hYX'
    have hgcd := gcd_lin hx' hy' eX eY
    obtain ⟨sm1, sm2⟩ := sm_of hL
    rw [← hp, ← hq] at eX sm1
    rw [← hr, ← hs] at eY sm2
    have lX : X' < B ^ ln X := Nat.lt_of_le_of_lt hXX (lt_pow_ln X)
    have lY : Y' < B ^ ln X := Nat.lt_of_le_of_lt hYX' lX
    have HAP := Lib.hid (apply_any hx5 hy5 hgg hlYX hlX sm1 sm2 eX eY lX lY hgb)
    have HN := Lib.hid (And.intro hless (And.intro hgcd (And.intro hYX' hXX)))
    have H6 := Lib.hid hb6
    have HI2 := Lib.hid hI2
    have hlX' : ln X' ≤ 1000000 := by have := ln_mono hXX; omega
    clear hL hp hq hr hs eX eY hYX' hx' hy' hless hXX hgcd sm1 sm2 lX lY hx5 hy5 hb5 hb6 hI
    go_wp2_with fail
    refine HAP.out.mono ?_
    rintro e w6 ⟨g6, c6, rfl, hx6, hy6, hg6, hb7⟩
    have hb8 := H6.out.trans hb7
    have hnewv : valOf w6 (.slice (some ⟨gx, 0, none⟩) (ln X') cx) = X' ∧ valOf w6 (.slice (some ⟨g6, 0, none⟩) (ln Y') c6) = Y' := ⟨hx6.num.val, hy6.num.val⟩
    have HF := Lib.hid (And.intro hnewv (show Gs2 w w6 a b (.slice (some ⟨gx, 0, none⟩) (ln X') cx) (.slice (some ⟨g6, 0, none⟩) (ln Y') c6) X' Y' from ⟨hx6.num, hy6.num, HN.out.2.2.1, hlX', Lib.hid (HN.out.2.1.trans hG.out), hb8, fun _ => ⟨gx, cx, g6, c6, rfl, rfl, hx6, hy6, hg6, hgb⟩⟩))
    clear hx6 hy6 hb7 hb8 hnewv
    go_wp2_with fail
    go_roundw
    case rel => exact ⟨X', Y', HF.out.2⟩
    case measure => rw [HF.out.1.1, HF.out.1.2, HVX.out, HVY.out]; exact HN.out.1
  ·have hl2 : ln Y ≤ 2 := by omega
   have HX := Lib.hid hX
   have HY := Lib.hid hY
   have HBR := Lib.hid hbr
   obtain ⟨sa, sc, rfl⟩ := slice_any hX
   obtain ⟨ta, tc, rfl⟩ := slice_any hY
   clear hX hY hbr hown h2
   by_cases hY0 : ln Y = 0
   ·have hz := ln_eq_zero hY0
    have HG := Lib.hid (show X = Nat.gcd a b by have := hG.out; rwa [hz, Nat.gcd_zero_right] at this)
    have hY00 : (((ln Y : Nat) : Int) == 0) = true := by rw [hY0]; rfl
    clear hz hY0
    go_wp2_with fail
    go_ret
    exact ⟨_, rfl, by rw [← HG.out]; exact HX.out, HBR.out⟩
   ·have hYne : Y ≠ 0 := by intro e; rw [e, ln_zero] at hY0; exact hY0 rfl
    have hY00 : (((ln Y : Nat) : Int) == 0) = false := by rw [beq_eq_false_iff_ne]; omega
    clear hY0
    go_upto_if 58 with fail
    go_cut [0, 1] from 58 to 66 (fun s0 s1 wx => ∃ A D, Num wx s0 A ∧ Num wx s1 D ∧ ln A ≤ 2 ∧ ln D ≤ 2 ∧ Hid (Nat.gcd A D = Nat.gcd a b) ∧ Below w.heap.size w wx)
    case first =>
     by_cases h3 : 2 < ln X
     ·have HDV := Lib.hid (divide_any HX.out HY.out hlX (by omega) hYne)
      go_wp2_with fail
      refine HDV.out.mono ?_
      rintro e w6 ⟨qv, rv, rfl, _, hrr, hb7⟩
      have hmod : X % Y < Y := Nat.mod_lt _ (by omega)
      have HF := Lib.hid (And.intro (HY.out.below hb7) (And.intro hrr (And.intro (show ln (X % Y) ≤ 2 by have := ln_mono (Nat.le_of_lt hmod); omega) (And.intro (show Nat.gcd Y (X % Y) = Nat.gcd a b by rw [← hG.out, Nat.gcd_comm X Y, Nat.gcd_rec Y X, Nat.gcd_comm]) (HBR.out.trans (hb7.mono HBR.out.size))))))
      obtain ⟨ra, rc, rfl⟩ := slice_any hrr
      clear hrr hb7 hmod HDV
      go_wp2_with fail
      go_meet
      exact ⟨Y, X % Y, HF.out.1, HF.out.2.1, hl2, HF.out.2.2.1, Lib.hid HF.out.2.2.2.1, HF.out.2.2.2.2⟩
     ·go_wp2_with fail
      go_meet
      exact ⟨X, Y, HX.out, HY.out, by omega, hl2, hG, HBR.out⟩
    case rest =>
    clear HX HY HBR
    obtain ⟨A, D, hA, hD, hlA, hlD, hG2, hb9⟩ := hcut
    have HSA := Lib.hid (nsmall_any hA hlA)
    have HSD := Lib.hid (nsmall_any hD hlD)
    have hAb := (small_val hlA).2
    have hDb := (small_val hlD).2
    obtain ⟨va, vc, rfl⟩ := slice_any hA
    obtain ⟨ua, uc, rfl⟩ := slice_any hD
    have HB9 := Lib.hid hb9
    clear hA hD hb9
    go_wp2_with fail
    refine HSA.out.mono ?_
    rintro e w6 ⟨rfl, rfl⟩
    go_wp2_with fail
    refine HSD.out.mono ?_
    rintro e w6 ⟨rfl, rfl⟩
    go_wp2_with fail
    clear HSA HSD
    go_loopw [10, 11] (fun s10 s11 wr => ∃ U V : Nat, s10 = .int .u64 (U : Int) ∧ s11 = .int .u64 (V : Int) ∧ U < 1000000000000000000 ∧ V < 1000000000000000000 ∧ Hid (Nat.gcd U V = Nat.gcd a b) ∧ Below w.heap.size w wr) (fun _ s11 _ => (intOf s11).toNat)
    case atStart => exact ⟨A, D, rfl, rfl, hAb, hDb, hG2, HB9.out⟩
    case round =>
     obtain ⟨U, V, rfl, rfl, hU, hV, hG3, hbr⟩ := hrel
     clear HB9
     by_cases hV0 : V = 0
     ·have HG := Lib.hid (show U = Nat.gcd a b by have := hG3.out; rwa [hV0, Nat.gcd_zero_right] at this)
      have hVz : (((V : Nat) : Int) != 0) = false := by rw [hV0]; rfl
      have h0 : (U : Int) % 1000000000 = ((dg U 0 : Nat) : Int) := by rw [dg, Nat.pow_zero, Nat.div_one, B_eq]; simp
      have h1 : (U : Int) / 1000000000 = ((dg U 1 : Nat) : Int) := by
       rw [dg, Nat.pow_one, B_eq, Nat.mod_eq_of_lt (by omega)]; simp
      have hU2 : U < B ^ 2 := by rw [B_eq]; omega
      have harr : Arr (wr.alloc (.cells #[.int .u64 ((dg U 0 : Nat) : Int), .int .u64 ((dg U 1 : Nat) : Int)] 118)) wr.heap.size 2 (dg U) := by
       refine ⟨_, heap_alloc_new wr _, rfl, fun j hj => ?_⟩
       rcases (show j = 0 ∨ j = 1 by omega) with rfl | rfl <;> rfl
      have hbe : Below wr.heap.size wr (wr.alloc (.cells #[.int .u64 ((dg U 0 : Nat) : Int), .int .u64 ((dg U 1 : Nat) : Int)] 118)) := (Below.refl _ _).alloc (Nat.le_refl _) _
      have HTR := Lib.hid (trim_any (c := 2) (n := U) (by omega) (Nat.le_refl _) hU2 (fun j hj => harr.cell hj))
      have HF := Lib.hid (And.intro (harr.own (base := 0) (n := U) (Nat.zero_le _) (by omega) (ln_le hU2) (fun j _ => rfl)).num (hbr.trans (hbe.mono hbr.size)))
      clear hV0 hbr harr hbe hU2
      go_wp2_with fail
      refine HTR.out.mono ?_
      rintro e w7 ⟨rfl, rfl⟩
      go_wp2_with fail
      go_ret
      exact ⟨_, rfl, by rw [← HG.out]; exact HF.out.1, HF.out.2⟩
     ·have hVp : (0 : Int) < (V : Int) := by omega
      have hVz : (((V : Nat) : Int) != 0) = true := by rw [bne_iff_ne]; omega
      have hm : U % V < V := Nat.mod_lt _ (by omega)
      have HM := Lib.hid (show (U : Int) % (V : Int) = ((U % V : Nat) : Int) by simp)
      have HG := Lib.hid (show Nat.gcd V (U % V) = Nat.gcd a b by rw [← hG3.out, Nat.gcd_comm U V, Nat.gcd_rec V U, Nat.gcd_comm])
      clear hV0
      go_wp2_with fail
      go_quiet (fail)
      go_wp2_with fail
      go_roundw
      case rel => exact ⟨V, U % V, rfl, by rw [HM.out], hV, by omega, HG, below_drewN hbr _⟩
      case measure => simp [intOf]; omega
end Go.Proofs.YtjpepjooefkbkaaGreatDoor
