/-
  Rows with room; the contracts of slices.Clone, size, small, leading and foresee.
-/
import Derived.Test.YtiocehlefpbbhaaGreatDoorW27
import Derived.Test.YtiocehlefpbbhaaGreatDoorW7
import Derived.Test.YtiocehlefpbbhaaGreatDoorM8
import Derived.Laws.AppendOwn
import Derived.Lib.SliceRun
namespace Go.Proofs.YtiocehlefpbbhaaGreatDoor
open Go.RowKit NV

/-- Block g is a row of cap limbs; limb j below N is f j. -/
def Hold (w : World) (g N cap : Nat) (f : Nat → Nat) : Prop :=
  ∃ cur, w.heap[g]? = some (.cells cur 65 (0, 0)) ∧ cur.size = cap ∧ N ≤ cap ∧ cap ≤ maxLen ∧ ∀ j, j < N → cur[j]? = some (.int .u64 ((f j : Nat) : Int))

theorem Hold.cell {w : World} {g N cap : Nat} {f : Nat → Nat} (h : Hold w g N cap f) {j : Nat} (hj : j < N) : w.cell? ⟨g, j, none⟩ = some (.int .u64 ((f j : Nat) : Int)) := by
  obtain ⟨cur, h1, h2, h3, h4, h5⟩ := h
  rw [cell_of_row w g j cur _ _ h1]
  exact h5 j hj

theorem Hold.free {w : World} {g N cap : Nat} {f : Nat → Nat} (h : Hold w g N cap f) (j : Nat) : w.frozen? ⟨g, j, none⟩ = false := by
  obtain ⟨cur, h1, _⟩ := h
  exact frozen_of_row w g j cur _ h1

theorem Hold.lt {w : World} {g N cap : Nat} {f : Nat → Nat} (h : Hold w g N cap f) : g < w.heap.size := by
  obtain ⟨cur, h1, _⟩ := h
  exact (Array.getElem?_eq_some_iff.1 h1).1

theorem Hold.room {w : World} {g N cap : Nat} {f : Nat → Nat} (h : Hold w g N cap f) : N ≤ cap ∧ cap ≤ maxLen := by
  obtain ⟨cur, _, _, h3, h4, _⟩ := h
  exact ⟨h3, h4⟩

theorem Hold.congr {w : World} {g N cap : Nat} {f f' : Nat → Nat} (h : Hold w g N cap f) (e : ∀ j, j < N → f j = f' j) : Hold w g N cap f' := by
  obtain ⟨cur, h1, h2, h3, h4, h5⟩ := h
  exact ⟨cur, h1, h2, h3, h4, fun j hj => by rw [h5 j hj, e j hj]⟩

theorem Hold.less {w : World} {g N M cap : Nat} {f : Nat → Nat} (h : Hold w g N cap f) (hM : M ≤ N) : Hold w g M cap f := by
  obtain ⟨cur, h1, h2, h3, h4, h5⟩ := h
  exact ⟨cur, h1, h2, Nat.le_trans hM h3, h4, fun j hj => h5 j (Nat.lt_of_lt_of_le hj hM)⟩

theorem Hold.store {w : World} {g N cap : Nat} {f : Nat → Nat} (h : Hold w g N cap f) (i x : Nat) : Hold (w.setCell ⟨g, i, none⟩ (.int .u64 ((x : Nat) : Int))) g N cap (upd f i x) := by
  obtain ⟨cur, h1, h2, h3, h4, h5⟩ := h
  refine ⟨cur.setIfInBounds i (.int .u64 ((x : Nat) : Int)), heap_setCell_same w g i cur _ _ h1, by simpa using h2, h3, h4, fun j hj => ?_⟩
  rw [Array.getElem?_setIfInBounds]
  by_cases e : i = j
  · subst e
    rw [if_pos rfl, if_pos (by omega), upd_same]
  · rw [if_neg e, upd_other (fun h => e h.symm)]
    exact h5 j hj

theorem Hold.other {w : World} {g N cap : Nat} {f : Nat → Nat} (h : Hold w g N cap f) {a : Addr} (ha : g ≠ a.block) (u : Value) : Hold (w.setCell a u) g N cap f := by
  obtain ⟨cur, h1, h2⟩ := h
  exact ⟨cur, (heap_setCell_other w a g u ha).trans h1, h2⟩

theorem Hold.below {w w' : World} {g N cap : Nat} {f : Nat → Nat} (h : Hold w g N cap f) {b : Nat} (hb : Below b w w') (hg : g < b) : Hold w' g N cap f := by
  obtain ⟨cur, h1, h2⟩ := h
  exact ⟨cur, (hb.block g hg).trans h1, h2⟩

theorem Hold.num {w : World} {g n cap : Nat} (h : Hold w g (ln n) cap (dg n)) : Num w (.slice (some ⟨g, 0, none⟩) (ln n) cap) n :=
  ⟨_, cap, rfl, .inr ⟨g, rfl, h.lt, h.room.1, fun _ hj => h.cell hj⟩⟩

theorem Hold.owns {w : World} {g N cap base : Nat} {f : Nat → Nat} (h : Hold w g N cap f) (hb : base ≤ g) : w.ownsRow base 65 1 (.slice (some ⟨g, 0, none⟩) N cap) N ((List.range N).map (fun j => Value.int .u64 ((f j : Nat) : Int))) := by
  obtain ⟨cur, h1, h2, h3, h4, h5⟩ := h
  refine ⟨by simp, .inr ⟨g, cap, cur, rfl, hb, h1, h3, h4, by omega, ?_⟩⟩
  apply List.ext_getElem?
  intro j
  by_cases hj : j < N
  · rw [List.getElem?_take, if_pos (by omega)]
    simp only [Array.getElem?_toList, List.getElem?_map, List.getElem?_range hj, Option.map_some]
    exact h5 j hj
  · rw [List.getElem?_take, if_neg (by omega)]
    simp [hj]

theorem Hold.of_owns {w : World} {base N : Nat} {v : Value} {f : Nat → Nat} (h : w.ownsRow base 65 1 v N ((List.range N).map (fun j => Value.int .u64 ((f j : Nat) : Int)))) (h0 : v ≠ .slice none 0 0) :
    ∃ g cap, v = .slice (some ⟨g, 0, none⟩) N cap ∧ base ≤ g ∧ Hold w g N cap f := by
  rcases h.2 with ⟨h', _⟩ | ⟨g, cap, cur, h', hb, hg, hnc, hcm, hcs, htake⟩
  · exact absurd h' h0
  · refine ⟨g, cap, h', hb, cur, hg, by omega, hnc, hcm, fun j hj => ?_⟩
    have e : (cur.toList.take (N * 1))[j]? = some (.int .u64 ((f j : Nat) : Int)) := by
      rw [htake]; simp [hj]
    rw [List.getElem?_take, if_pos (by omega)] at e
    simpa using e

theorem Own.hold {w : World} {base n : Nat} {v : Value} (h : Own w base v n) : ∃ g cap, v = .slice (some ⟨g, 0, none⟩) (ln n) cap ∧ base ≤ g ∧ Hold w g (ln n) cap (dg n) :=
  Hold.of_owns h.2 (by obtain ⟨⟨g, c, rfl⟩, _⟩ := h; simp)

set_option maxHeartbeats 2000000 in
set_option maxRecDepth 100000 in
/-- slices.Clone lays the limbs into memory of its own. -/
theorem clone_any {w : World} {b c n : Nat} (hx : Num w (.slice (some ⟨b, 0, none⟩) (ln n) c) n) (hn : ln n ≤ 1000000) :
    Calls Tryz.prog 69 #[.slice (some ⟨b, 0, none⟩) (ln n) c] w fun e w' => ∃ g cap, e = .returned (.slice (some ⟨g, 0, none⟩) (ln n) cap) ∧ w.heap.size ≤ g ∧ Hold w' g (ln n) cap (dg n) ∧ Below w.heap.size w w' := by
  obtain ⟨i0, hi, hz0, hz1, hz2⟩ := info_parts info72
  have HX := Lib.hid hx
  have q49 : ∀ (w : World) (a : Option Addr) (n c n' c' : Nat), (binOp .eql 40 (.slice a n c) (.slice none n' c')).run Tryz.prog w = .ok (.bool a.isNone) w := fun w a n c n' c' => Lib.run_eql_slice_nil w _ _ a n c n' c' Tryz.underlying40
  clear hx
  go_enter Tryz.func69, Tryz.ntmps69
  go_wp2_with (at_builtin; refine wpList_append_own _ rfl _ _ 40 rfl w.heap.size 65 i0 (.int .u64 0) 1 8 Tryz.underlying40 hi hz0 hz1 hz2 rfl (by decide) _ _ _ rfl (World.ownsRow_made w #[] 0 (Nat.le_refl _) (Nat.zero_le _) rfl) ⟨b, 0, none⟩ (ln n) c ((List.range (ln n)).map (fun j => Value.int .u64 ((dg n j : Nat) : Int))) rfl ?qc1 ?qc2 ?qc3 ?qc4 ?qc5 ?qc6 ?_)
  case qc1 => simp
  case qc2 =>
    intro j u hj
    have hjn : j < ln n := by
      have := (List.getElem?_eq_some_iff.1 hj).1
      simpa using this
    rw [Addr.add_lit]
    refine Lib.cell?_alloc_some _ ?_
    rw [Nat.zero_add, HX.out.cell hjn]
    rw [← hj]
    simp [hjn]
  case qc3 => intro u hu; obtain ⟨x, _, rfl⟩ := List.mem_map.1 hu; rfl
  case qc4 => unfold maxLen; omega
  case qc5 => omega
  case qc6 => simp
  intro v' w1 hown hgrow hnil
  have hv : v' ≠ .slice none 0 0 := hnil
  obtain ⟨g, cap, rfl, hg, hh⟩ := Hold.of_owns (by simpa using hown) hv
  have HF := Lib.hid (And.intro hh (((Below.refl _ w).alloc (Nat.le_refl _) _).grown hgrow (by simp) (by intro k hk; simp [Value.ownBlock] at hk; omega)))
  clear hown hgrow hnil hv hh
  go_wp2
  go_ret
  exact ⟨g, cap, rfl, hg, HF.out.1, HF.out.2⟩

/-- The magnitude. -/
def mag (n : Int) : Int := if n < 0 then -n else n
theorem mag_neg {n : Int} (h : n < 0) : mag n = -n := if_pos h
theorem mag_pos {n : Int} (h : 0 ≤ n) : mag n = n := if_neg (by omega)

set_option maxHeartbeats 400000 in
theorem size_any (n m : Int) (h : mag n = m) (h1 : -4000000000000000000 ≤ n) (h2 : n ≤ 4000000000000000000) (w : World) :
    Calls Tryz.prog 88 #[.int .i64 n] w fun e w' => e = .returned (.int .i64 m) ∧ Below w.heap.size w w' := by
  have G1 := Lib.hid (show n < -n → m = -n from fun hh => by rw [← h, mag_neg (by omega)])
  have G2 := Lib.hid (show -n ≤ n → m = n from fun hh => by rw [← h, mag_pos (by omega)])
  clear h
  go_enter Tryz.func88, Tryz.ntmps88
  go_wp2_with fail
  refine (greatest_int64 _ _ m G1.out G2.out _ w.heap.size (cell_one_new _ _ _ 0 _ rfl)).mono ?_
  rintro e w' ⟨rfl, rfl⟩
  go_wp2_with fail
  go_ret
  exact ⟨rfl, (Below.refl _ _).alloc (Nat.le_refl _) _⟩

theorem small_val {a : Nat} (h : ln a ≤ 2) : dg a 1 * 1000000000 + dg a 0 = a ∧ a < 1000000000000000000 := by
  have h1 := lt_pow_ln a
  have h2 : B ^ ln a ≤ B ^ 2 := Nat.pow_le_pow_right B_pos h
  have h3 : B ^ 2 = 1000000000000000000 := by rw [B_eq]
  have e0 : dg a 0 = a % 1000000000 := by rw [dg, Nat.pow_zero, Nat.div_one, B_eq]
  have e1 : dg a 1 = a / 1000000000 % 1000000000 := by rw [dg, Nat.pow_one, B_eq]
  rw [e0, e1]
  omega

set_option maxHeartbeats 400000 in
/-- small: the value of at most two limbs. -/
theorem nsmall_any {w : World} {x : Value} {a : Nat} (hx : Num w x a) (ha : ln a ≤ 2) :
    Calls Tryz.prog 73 #[x] w fun e w' => e = .returned (.int .u64 (a : Int)) ∧ w = w' := by
  obtain ⟨xa, xc, rfl⟩ := slice_any hx
  have H1 := Lib.hid (at_any hx 1 (by omega))
  have H0 := Lib.hid (at_any hx 0 (by omega))
  obtain ⟨h1, h2⟩ := small_val ha
  have b0 := dg_lt a 0
  have b1 := dg_lt a 1
  have HE := Lib.hid (show ((dg a 1 : Nat) : Int) * 1000000000 + ((dg a 0 : Nat) : Int) = (a : Int) by omega)
  clear hx h1 h2
  go_enter Tryz.func73, Tryz.ntmps73
  go_wp2_with fail
  refine H1.out.mono ?_
  rintro e w' ⟨rfl, rfl⟩
  go_wp2_with fail
  refine H0.out.mono ?_
  rintro e w' ⟨rfl, rfl⟩
  go_wp2_with fail
  go_ret
  exact ⟨ret_int HE.out, rfl⟩

end Go.Proofs.YtiocehlefpbbhaaGreatDoor
