/-
  The sums of weights: an iterator of pairs; weighted. pick.Draw and pick.Below. lives of layer 5.
-/
import Derived.Test.YteojekiocecdnaaGreatDoorEB
import Derived.Maps.OwnIn
import Derived.Deep.AppendLies
import Derived.Laws.StructEq
namespace Go.Proofs.YteojekiocecdnaaGreatDoor
section
open Go.RowKit NV Go.Shelf
open Go.Lib (decDigits)
attribute [local go_sem] Oper.semAt_some

set_option maxHeartbeats 1600000 in
theorem sums_any (ao : Option Addr) (N cap : Nat) (w : World) :
    Calls Tryz.prog 133 #[.slice ao N cap] w fun e w' =>
      e = .returned (.func (.func 193) #[] #[.pointer (some ⟨w.heap.size, 0, none⟩)]) ∧ Boxed w' w.heap.size 40 (.slice ao N cap) ∧ Below w.heap.size w w' := by
  have hmf : ∀ (fn : Fn) (first cap : Array Value) (w : World), (Instr.makeFunc fn first cap).run Tryz.prog w = .ok (.func fn first cap) w := fun _ _ _ _ => rfl
  have HB1 := Lib.hid (Boxed.new w 40 (.slice ao N cap))
  have HB := Lib.hid ((Below.refl w.heap.size w).alloc (Nat.le_refl _) (.cells #[.slice ao N cap] 40))
  go_enter Tryz.func133, Tryz.ntmps133
  go_wp2_with fail
  go_ret
  exact ⟨rfl, HB1.out, HB.out⟩

set_option maxHeartbeats 3200000 in
set_option maxRecDepth 100000 in
theorem sums_calls {m bB l N cap : Nat} {a : Addr} {g : Nat → Nat} (hm : 1 ≤ m) (hN : N ≤ 1000) (og : ∀ j, j < N → Ok (g j)) (os : Ok (wsum g N)) (St : World → Prop) (hSt : ∀ W W', St W → Below W.heap.size W W' → St W')
    (hc : ∀ W, St W → Boxed W bB 40 (.slice (some a) N cap) ∧ (∀ j, j < N → W.cell? (a.add j) = some (.string (dstr (g j)))) ∧ Tab W) (J : Nat → World → Prop)
    (hJ : ∀ k W W', J k W → Ch (fun _ => False) W W' → J k W')
    (hY : ∀ k W, J k W → St W → k < N → YieldAt Fence.wide (m - 1) Tryz.prog l #[.string (dstr (wsum g k)), .string (dstr (g k))] W fun e W' => e = .returned (.bool true) ∧ J (k + 1) W' ∧ St W')
    (W : World) (s0 : St W) (h0 : J 0 W) :
    CallsIn Fence.wide m Tryz.prog 193 (#[.func (.yield l) #[] #[]] ++ #[.pointer (some ⟨bB, 0, none⟩)]) W fun e W' => (∃ v, e = .returned v) ∧ J N W' := by
  refine callsIn_of_wp Tryz.func193 rfl trivial ?_ rfl
  simp only [Tryz.ntmps193, List.size_toArray, List.length_cons, List.length_nil, Nat.reduceAdd, Nat.reduceSub, Array.replicate_succ, Array.replicate_zero, List.push_toArray, List.append_toArray, List.nil_append, List.cons_append]
  have HJ := Lib.hid hJ
  have HY := Lib.hid hY
  have HST := Lib.hid hSt
  have HC := Lib.hid hc
  have HA := Lib.hid (fun k (hk : k < N) W (hs : St W) => Add_ok (wsum g k) (g k) (os.mono (wsum_mono g k N (by omega))) (og k hk) (os.mono (wsum_mono g (k + 1) N (by omega))) W (hc W hs).2.2)
  have hbox := (hc W s0).1.cell
  have HH := Lib.hid (And.intro s0 h0)
  clear hJ hY hSt hc og os s0 h0
  obtain ⟨T, hT⟩ : ∃ T : Nat → ByteArray, ∀ k, T k = dstr (wsum g k) := ⟨_, fun _ => rfl⟩
  have HT0 := Lib.hid (show (⟨#[48]⟩ : ByteArray) = T 0 by rw [hT]; exact zero_str)
  have ha : ∀ k, k < N → ∀ W, St W → Calls Tryz.prog 134 #[.string (T k), .string (dstr (g k))] W fun e w' => e = .returned (.tuple #[.string (T (k + 1)), .int .i64 0]) ∧ Below W.heap.size W w' := fun k hk W hs => by
    have := HA.out k hk W hs; rw [hT, hT]; exact this
  simp only [← hT] at HY
  have HAD := Lib.hid ha
  clear HA ha hT
  gi_wp2
  gi_loopw [3, 8] (fun s3 s8 wr => ∃ k : Nat, k ≤ N ∧ s3 = .string (T k) ∧ s8 = .int .i64 (k : Int) ∧ J k wr ∧ St wr) (fun _ s8 _ => N - (intOf s8).toNat)
  case atStart => exact ⟨0, Nat.zero_le _, by rw [← HT0.out], rfl, HH.out.2, HH.out.1⟩
  case round =>
    obtain ⟨k, hk, rfl, rfl, hj, hs⟩ := hrel
    clear hbox HH
    by_cases hlt : k < N
    · have c0 := (HC.out wr hs).2.1 k hlt
      obtain ⟨fn, tmps, assign, body, hy, hR⟩ := HY.out k wr hj hs hlt
      have HR := Lib.hid hR
      clear hR hj hs
      gi_wp2
      refine HR.out.mono ?_
      rintro e W3 ⟨rfl, hj3, hs3⟩
      have HJ3 := Lib.hid hj3
      have HS3 := Lib.hid hs3
      clear hj3 hs3 hy HR c0
      gi_wp2
      refine ⟨trivial, (callsIn_wide.2 (HAD.out k hlt W3 HS3.out)).mono ?_⟩
      rintro e W4 ⟨rfl, hb4⟩
      have HB4 := Lib.hid hb4
      clear hb4
      gi_wp2
      go_roundw
      case rel => exact ⟨k + 1, by omega, rfl, by go_num, HJ.out _ _ _ HJ3.out (Ch.below HB4.out), HST.out _ _ HS3.out HB4.out⟩
      case measure => simp [intOf]; omega
    · obtain rfl : k = N := by omega
      have hjk := Lib.hid hj
      clear hj hs
      gi_wp2
      go_end0
      exact ⟨⟨_, rfl⟩, hjk.out⟩

set_option maxHeartbeats 1600000 in
theorem weighted1_any {bB gb n i cap : Nat} {F : Nat → ByteArray} {w : World} (hb : Boxed w bB 40 (.slice (some ⟨gb, 0, none⟩) n cap)) (hc : ∀ j, j < n → w.cell? ⟨gb, j, none⟩ = some (.string (F j))) (hi : i < n) :
    Calls Tryz.prog 135 (#[.int .i64 (i : Int)] ++ #[.pointer (some ⟨bB, 0, none⟩)]) w fun e w' => e = .returned (.string (F i)) ∧ Below w.heap.size w w' := by
  have c0 := hb.cell
  have c1 := hc i hi
  have hz : (i : Int) < (n : Int) := by omega
  clear hb hc
  go_enter Tryz.func135, Tryz.ntmps135
  go_wp2_with fail
  go_ret
  exact ⟨rfl, Below.refl _ _⟩

theorem Ch.grown {S : Nat → Prop} {w w' : World} {row : Option Nat} (hg : w.grownBy w' row) (hr : ∀ r, row = some r → S r) : Ch S w w' :=
  ⟨hg.os, hg.tape, hg.output, hg.size, fun j hj hs => hg.block j hj (fun e => hs (hr j e.symm))⟩
theorem type_neP : 40 ≠ 22 := by decide

/-- The first n borders as cells. -/
def wcells (g : Nat → Nat) (n : Nat) : List Value := (List.range n).map (fun i => Value.string (dstr (wsum g i)))
theorem wcells_next (g : Nat → Nat) (n : Nat) : wcells g (n + 1) = wcells g n ++ [.string (dstr (wsum g n))] := by unfold wcells; rw [List.range_succ, List.map_append]; rfl
theorem wcells_get {g : Nat → Nat} {n i : Nat} (h : i < n) : (wcells g n)[i]? = some (.string (dstr (wsum g i))) := by unfold wcells; simp [h]
theorem infoNum : (Tryz.prog.info? 22).map (fun i => (i.zero, i.size, i.bytes)) = some (some (.string ⟨#[]⟩), 1, 16) := by kernel_rfl
theorem row_block {w w' : World} {base e sz n g cap : Nat} {xs : List Value} (h : w.ownsRow base e sz (.slice (some ⟨g, 0, none⟩) n cap) n xs) (hb : w'.heap[g]? = w.heap[g]?) : w'.ownsRow base e sz (.slice (some ⟨g, 0, none⟩) n cap) n xs := by
  refine ⟨h.1, ?_⟩
  rcases h.2 with ⟨hv, _⟩ | ⟨g', cap', cur, hv, hg, hh, rest⟩
  · cases hv
  · cases hv
    exact .inr ⟨g, cap, cur, rfl, hg, hb.trans hh, rest⟩
theorem row_blt {w : World} {base e sz n g cap : Nat} {xs : List Value} (h : w.ownsRow base e sz (.slice (some ⟨g, 0, none⟩) n cap) n xs) : g < w.heap.size := by
  rcases h.2 with ⟨hv, _⟩ | ⟨g', cap', cur, hv, hg, hh, rest⟩
  · cases hv
  · cases hv; exact (Array.getElem?_eq_some_iff.1 hh).1
theorem row_lit {w : World} {g base : Nat} {x : ByteArray} (h : w.heap[g]? = some (.cells #[.string x] 22 (0, 0))) (hb : base ≤ g) : w.ownsRow base 22 1 (.slice (some ⟨g, 0, none⟩) 1 1) 1 [.string x] :=
  ⟨rfl, .inr ⟨g, 1, #[.string x], rfl, hb, h, Nat.le_refl _, by unfold maxLen; omega, rfl, rfl⟩⟩

set_option maxHeartbeats 6400000 in
set_option maxRecDepth 100000 in
theorem weighted_any {N cap : Nat} {a : Addr} {g : Nat → Nat} {w : World} (hal : a.block < w.heap.size) (hcell : ∀ j, j < N → w.cell? (a.add j) = some (.string (dstr (g j)))) (hN : N ≤ 64) (og : ∀ j, j < N → Ok (g j)) (os : Ok (wsum g N)) (htab : Tab w) :
    Calls Tryz.prog 70 #[.slice (some a) N cap] w fun e w' => ∃ bB, e = .returned (scV N 135 #[.pointer (some ⟨bB, 0, none⟩)]) ∧ ScAt w' 135 #[.pointer (some ⟨bB, 0, none⟩)] (wsum g) N ∧ Below w.heap.size w w' := by
  obtain ⟨i0, hi, hz0, hz1, hz2⟩ := info_parts infoNum
  have hmf : ∀ (fn : Fn) (first cap : Array Value) (w : World), (Instr.makeFunc fn first cap).run Tryz.prog w = .ok (.func fn first cap) w := fun _ _ _ _ => rfl
  refine (callsIn_wide (n := 6)).1 ?_
  refine callsIn_of_wp_marks Tryz.func70 rfl trivial ?_ rfl
  simp only [Tryz.ntmps70, List.size_toArray, List.length_cons, List.length_nil, Nat.reduceAdd, Nat.reduceSub, Array.replicate_succ, Array.replicate_zero, List.push_toArray, List.append_toArray, List.nil_append, List.cons_append]
  obtain ⟨w1, hw1⟩ : ∃ w1, ((w.alloc scZ).alloc (.cells #[.string ⟨#[48]⟩] 22)).alloc (.cells #[.slice (some ⟨w.heap.size + 1, 0, none⟩) 1 1] 40) = w1 := ⟨_, rfl⟩
  have hb1 : Below w.heap.size w w1 := by rw [← hw1]; exact (((Below.refl w.heap.size w).alloc (Nat.le_refl _) _).alloc (by simp) _).alloc (by simp; omega) _
  have HSM := Lib.hid (sums_any (some a) N cap w1)
  have h1z : w1.heap.size = w.heap.size + 3 := by rw [← hw1]; simp
  have hlit : w1.heap[w.heap.size + 1]? = some (.cells #[.string ⟨#[48]⟩] 22 (0, 0)) := by
    rw [← hw1]
    have h1 := heap_alloc_new (w.alloc scZ) (.cells #[.string ⟨#[48]⟩] 22)
    rw [World.size_alloc] at h1
    exact (Below.heap_alloc _ _ _ (by simp)).trans h1
  have hbox : Boxed w1 (w.heap.size + 1 + 1) 40 (.slice (some ⟨w.heap.size + 1, 0, none⟩) 1 1) := by
    rw [← hw1]
    have h1 := Boxed.new ((w.alloc scZ).alloc (.cells #[.string ⟨#[48]⟩] 22)) 40 (.slice (some ⟨w.heap.size + 1, 0, none⟩) 1 1)
    rw [World.size_alloc, World.size_alloc] at h1
    exact h1
  have hscz : w1.heap[w.heap.size]? = some (.cells #[.int .i64 0, .nilFunc] 95 (0, 0)) := by
    rw [← hw1]
    exact ((Below.heap_alloc _ _ _ (by simp; omega)).trans (Below.heap_alloc _ _ _ (by simp))).trans (heap_alloc_new w scZ)
  gi_wp2_with fail
  refine ⟨trivial, (callsIn_wide.2 HSM.out).mono ?_⟩
  rintro e w2 ⟨rfl, hwx, hb⟩
  clear HSM hw1
  have hlit2 := (hb.block _ (by omega)).trans hlit
  have hbox2 := (Ch.below (S := fun _ => False) hb).boxed (fun h => h) hbox
  have hscz2 := (hb.block _ (by omega)).trans hscz
  have hb2 := hb1.trans (hb.mono hb1.size)
  rw [h1z] at hwx
  have h2z := hwx.lt
  clear hb1 hb hlit hbox hscz
  gi_wp2_with fail
  refine wpIn_rangeCh (by omega) (gf := 193) (lb := #[.pointer (some ⟨w.heap.size + 3, 0, none⟩)]) rfl (enters_of Tryz.func193 (by kernel_rfl) rfl)
    (fun j => j < 0) (fun j => j = w.heap.size + 1 ∨ j = w.heap.size + 1 + 1 ∨ w2.heap.size + 2 ≤ j) (fun k => #[.string (dstr (wsum g k)), .string (dstr (g k))]) (fun _ => rfl) N
    (fun _ W => Below w.heap.size w W ∧ Boxed W (w.heap.size + 3) 40 (.slice (some a) N cap))
    (fun k W => ∃ gb cp, Boxed W (w.heap.size + 1 + 1) 40 (.slice (some ⟨gb, 0, none⟩) (k + 1) cp) ∧ W.ownsRow (w.heap.size + 1) 22 1 (.slice (some ⟨gb, 0, none⟩) (k + 1) cp) (k + 1) (wcells g (k + 1)) ∧ (gb = w.heap.size + 1 ∨ w2.heap.size + 2 ≤ gb) ∧ Below w.heap.size w W ∧ W.heap[w.heap.size]? = some (.cells #[.int .i64 0, .nilFunc] 95 (0, 0)))
    (fun j hj => absurd hj (Nat.not_lt_zero _)) ⟨by omega, by omega⟩
    (fun k W W' h hc => ⟨h.1.trans (hc.to_below h.1.size (fun j hj => by omega)), hc.boxed (by omega) h.2⟩)
    (fun k W W' h hc => by
      obtain ⟨gb, cp, h1, h2, h3, h4, h5⟩ := h
      have hlt := row_blt h2
      exact ⟨gb, cp, hc.boxed (by omega) h1, row_block h2 (hc.block gb hlt (by omega)), h3, h4.trans (hc.to_below h4.size (fun j hj => by omega)), (hc.block _ (by have := h4.size; have := h1.lt; omega) (by omega)).trans h5⟩)
    (fun l J W hJ hY s0 h0 => sums_calls (St := fun W => Below w.heap.size w W ∧ Boxed W (w.heap.size + 3) 40 (.slice (some a) N cap)) (by omega) (by omega) og os
      (fun W W' hs hb => ⟨hs.1.trans (hb.mono hs.1.size), (Ch.below (S := fun _ => False) hb).boxed (fun h => h) hs.2⟩)
      (fun W hs => ⟨hs.2, fun j hj => (hs.1.cell (p := a.add j) (by rw [add_blockP]; exact hal)).trans (hcell j hj), htab.below hs.1⟩) J (fun k W W' h hc => hJ k W W' h (hc.mono (fun j _ e => e.elim))) hY W s0 h0)
    ⟨hb2, hwx⟩ ⟨_, _, hbox2, by have := row_lit (x := ⟨#[48]⟩) hlit2 (Nat.le_refl _); rw [zero_str] at this; exact this, .inl rfl, hb2, hscz2⟩
    (fun k => { tmps := #[.slice (some a) N cap, undef, .pointer (some ⟨w.heap.size, 0, none⟩), .pointer (some ⟨w.heap.size + 1 + 1, 0, none⟩), .string (dstr (wsum g k)), .string (dstr (g k)), undef, undef, .slice (some ⟨w.heap.size + 1, 0, none⟩) 1 1, .slice (some a) N cap, .func (.func 193) #[] #[.pointer (some ⟨w.heap.size + 3, 0, none⟩)], .string (dstr (wsum g k)), .string (dstr (g k)), undef, undef, undef, undef, undef, undef, undef, undef, undef, undef, undef, undef, undef, undef], defers := [] }) ?assign ?body ?done
  case assign =>
    intro l k W K hK
    gi_wp2
    exact hK
  case body =>
    rintro l k W hsW ⟨gb, cp, hbx, hrow, hgb, hB, hsc⟩ hk
    have HA := Lib.hid (Add_ok (wsum g k) (g k) (os.mono (wsum_mono g k N (by omega))) (og k hk) (os.mono (wsum_mono g (k + 1) N (by omega))) W (htab.below hB))
    have HX := Lib.hid (And.intro hbx (And.intro hrow (And.intro hgb (And.intro hB hsc))))
    have HX2 := Lib.hid hB
    have HX3 := Lib.hid hsc
    have HW0 := Lib.hid (And.intro hB.size (And.intro hbx.lt (row_blt hrow)))
    have hsx : wsum g (k + 1) = wsum g k + g k := rfl
    rw [← hsx] at HA
    have HWC := Lib.hid (wcells_next g (k + 1))
    have HZ := Lib.hid (And.intro h1z (And.intro h2z hsW))
    have hkN : k ≤ 64 := by omega
    clear hbx hrow hgb hB hsc hlit2 hbox2 hscz2 hb2 h1z h2z hwx hsW htab og os hcell hal hsx
    generalize dstr (wsum g (k + 1)) = sN at *
    generalize dstr (wsum g k) = s0 at *
    generalize dstr (g k) = s1 at *
    gi_wp2_with fail
    refine ⟨trivial, (CallsIn.inRound l (callsIn_wide.2 HA.out)).mono ?_⟩
    rintro e W2 ⟨rfl, hb⟩
    obtain ⟨hbx, hrow, hgb, hB, hsc⟩ := HX.out
    have hbx2 := (Ch.below (S := fun _ => False) hb).boxed (fun h => h) hbx
    have hrow2 := row_block hrow (hb.block gb (row_blt hrow))
    have hB2 := hB.trans (hb.mono hB.size)
    have hsc2 := (hb.block _ (by have := hB.size; have := hbx.lt; omega)).trans hsc
    have d0 := hbx2.cell
    have HY := Lib.hid (And.intro hbx2 (And.intro hrow2 (And.intro hgb (And.intro hB2 (And.intro hsc2 hb)))))
    clear hbx hrow hgb hB hsc hb hbx2 hrow2 hB2 hsc2 HX HA
    gi_wp2_with (gi_at_builtin; refine wpListIn_append_own_at _ rfl _ _ 40 rfl (w.heap.size + 1) 22 i0 (.string ⟨#[]⟩) 1 16 Tryz.underlying40 hi hz0 hz1 hz2 rfl (by decide) _ _ _ rfl (HY.out.2.1.alloc _) ⟨W2.heap.size, 0, none⟩ 1 1 [.string sN] rfl rfl (World.news_of_block (heap_alloc_new _ _)) (fun u hu => by simp at hu; subst hu; rfl) ?c3 ?c4 ?c5 ?_)
    case c3 => unfold maxLen; omega
    case c4 => omega
    case c5 => have := HY.out.2.2.2.1.size; have := HY.out.1.lt; simp; omega
    intro v' w6 hown' hgrow _ hblk
    obtain ⟨g', cap', rfl⟩ := ownsRow_succ hown'
    have hv1 := (HY.out.1.alloc (.cells #[.string sN] 22)).kept hgrow (HY.out.1.not_row type_neP HY.out.2.1)
    have d1 := hv1.cell
    have d2 := hv1.frozen
    have HG := Lib.hid (And.intro hown' (And.intro hgrow (And.intro hblk hv1)))
    clear hown' hgrow hblk hv1 d0
    gi_wp2_with fail
    obtain ⟨hown', hgrow, hblk, hv1⟩ := HG.out
    obtain ⟨hbx, hrow, hgb, hB, hsc, hb⟩ := HY.out
    have hz := HZ.out
    have hbs := hb.size
    have hBs := hB.size
    have hch : Ch (fun j => j = w.heap.size + 1 ∨ j = w.heap.size + 1 + 1 ∨ w2.heap.size + 2 ≤ j) W (w6.setCell ⟨w.heap.size + 1 + 1, 0, none⟩ (.slice (some ⟨g', 0, none⟩) (k + 1 + 1) cap')) :=
      (((Ch.below hb).trans (Ch.alloc _ _ _)).trans (Ch.grown hgrow (fun r hr => by simp [Value.ownBlock] at hr; omega))).trans (Ch.setCell _ _ _ (by omega))
    refine ⟨hch, g', cap', hv1.set _, ?_, ?_, HX2.out.trans (hch.to_below HW0.out.1 (fun j hj => by omega)), (hch.block _ (by have := HW0.out; omega) (by omega)).trans HX3.out⟩
    · rw [HWC.out]; exact hown'.kept (grownBy_setCell' w6 _ _) (.inr (hv1.not_row type_neP hown').symm)
    · rcases hblk with h | h
      · simp [Value.ownBlock] at h; omega
      · simp [Value.ownBlock] at h; omega
  case done =>
    rintro W ⟨gb, cp, hbx, hrow, hgb, hB, hsc⟩ hK
    have c0 : W.cell? ⟨w.heap.size, 0, none⟩ = some (.int .i64 0) := by rw [Lib.cell_of_heap hsc]; rfl
    have c1 : W.cell? ⟨w.heap.size, 1, none⟩ = some .nilFunc := by rw [Lib.cell_of_heap hsc]; rfl
    have f0 : W.frozen? ⟨w.heap.size, 0, none⟩ = false := Lib.frozen_of_heap hsc 0
    have f1 : W.frozen? ⟨w.heap.size, 1, none⟩ = false := Lib.frozen_of_heap hsc 1
    have HF := Lib.hid (And.intro hbx (And.intro hrow (And.intro hB (And.intro hsc (And.intro hK (And.intro hgb h2z))))))
    clear hbx hrow hB hsc hK hlit2 hbox2 hscz2 hb2 h1z h2z hwx htab og os hcell hal hgb
    gi_wp2
    obtain ⟨hbx, hrow, hB, hsc, hK, hgb, h2z⟩ := HF.out
    have hne : ∀ j, j ≠ w.heap.size → (sc2 W w.heap.size (.int .i64 (N : Int)) (.func (.func 135) #[] #[.pointer (some ⟨w.heap.size + 1 + 1, 0, none⟩)])).heap[j]? = W.heap[j]? := fun j hj =>
      (heap_setCell_other _ ⟨w.heap.size, 1, none⟩ j _ hj).trans (heap_setCell_other _ ⟨w.heap.size, 0, none⟩ j _ hj)
    have hK' := (hne w2.heap.size (by omega)).trans hK
    have hne2 : ∀ j, j ≠ w.heap.size → j ≠ w2.heap.size → ((sc2 W w.heap.size (.int .i64 (N : Int)) (.func (.func 135) #[] #[.pointer (some ⟨w.heap.size + 1 + 1, 0, none⟩)])).putObj w2.heap.size (.deferred none)).heap[j]? = W.heap[j]? := fun j hj hj2 => (World.putObj_heap_other hj2).trans (hne j hj)
    refine ⟨by simp, .inl ⟨_, _, rfl, run_takeDeferred hK', ?_⟩⟩
    have hs3 : SCB ((sc2 W w.heap.size (.int .i64 (N : Int)) (.func (.func 135) #[] #[.pointer (some ⟨w.heap.size + 1 + 1, 0, none⟩)])).putObj w2.heap.size (.deferred none)) w.heap.size N 135 #[.pointer (some ⟨w.heap.size + 1 + 1, 0, none⟩)] :=
      (World.putObj_heap_other (by omega)).trans (SCB.st hsc)
    refine ⟨_, hs3.result rfl rfl, w.heap.size + 1 + 1, rfl, ⟨enters_of Tryz.func135 (by kernel_rfl) rfl, fun W' hb' i hi => ?_⟩, ?_⟩
    · have hbx2 := (Ch.below (S := fun _ => False) hb').boxed (fun h => h) (show Boxed _ (w.heap.size + 1 + 1) 40 (.slice (some ⟨gb, 0, none⟩) (N + 1) cp) from (hne2 _ (by omega) (by omega)).trans hbx)
      have hrow2 := row_block hrow (hne2 gb (by omega) (by omega))
      have hrow3 := row_block hrow2 (hb'.block gb (row_blt hrow2))
      exact weighted1_any (F := fun j => dstr (wsum g j)) hbx2 (fun j hj => by
        have := hrow3.cells (g := gb) rfl j _ (wcells_get hj)
        rw [Addr.add_lit, Nat.zero_add] at this; exact this) (by omega)
    · have hb7 := below_sc2 hB (Nat.le_refl _) (.int .i64 (N : Int)) (.func (.func 135) #[] #[.pointer (some ⟨w.heap.size + 1 + 1, 0, none⟩)])
      exact hb7.trans ((Ch.putObj (fun j => j = w2.heap.size) _ (.deferred none) rfl).to_below hb7.size (fun j hj => by omega))
end

open Go.RowKit NV
open Go.Lib (decDigits)

set_option maxHeartbeats 3200000 in
set_option maxRecDepth 100000 in
theorem cell_err {m g c : Nat} {cb : Array Value} {b : ByteArray} (hc : schk b = c) (h0 : c ≠ 0) (hs : b.size ≤ 140737488351232) (w : World) :
    Calls Tryz.prog 136 #[scV m g cb, .string b] w fun e w' => e = .returned (.tuple #[.agg #[.string ⟨#[]⟩, .string ⟨#[]⟩], .int .i64 (c : Int)]) ∧ Below w.heap.size w w' := by
  have HN := Lib.hid (fun W => Number_err hc h0 hs W)
  have h2 := SPB.new (w.alloc (scO m g cb)) ⟨#[]⟩ ⟨#[]⟩
  rw [World.size_alloc] at h2
  have HB := Lib.hid (((Below.refl w.heap.size w).alloc (Nat.le_refl _) (scO m g cb)).alloc (by simp) (spO ⟨#[]⟩ ⟨#[]⟩))
  have HSP := Lib.hid h2
  have hne := errneP h0
  clear hc h0 hs h2
  go_enter Tryz.func136, Tryz.ntmps136
  go_wp2_with fail
  refine (HN.out _).mono ?_
  rintro e w1 ⟨rfl, hb⟩
  replace HB := Lib.hid (HB.out.trans (hb.mono HB.out.size))
  replace HSP := Lib.hid (HSP.out.below hb)
  obtain ⟨d0, d1⟩ := HSP.out.c
  have f0 := HSP.out.f 0
  have f1 := HSP.out.f 1
  clear hb HN
  go_wp2_with fail
  exact bodyPost_ret ((HSP.out.st ⟨#[]⟩ ⟨#[]⟩).resultC rfl rfl) rfl ⟨rfl, below_st2 HB.out (by omega) _ _⟩

set_option maxHeartbeats 3200000 in
set_option maxRecDepth 100000 in
theorem draw_err {m g c : Nat} {cb : Array Value} {b : ByteArray} (hc : schk b = c) (h0 : c ≠ 0) (hs : b.size ≤ 140737488351232) (w : World) :
    Calls Tryz.prog 71 #[scV m g cb, .string b] w fun e w' => e = .returned (.tuple #[.agg #[.bool false, .int .i64 0, .int .i64 0], .int .i64 (c : Int)]) ∧ Below w.heap.size w w' := by
  have HC := Lib.hid (fun W => cell_err (m := m) (g := g) (cb := cb) hc h0 hs W)
  have hne := errneP h0
  clear hc h0 hs
  obtain ⟨w1, hw1⟩ : ∃ w1, ((w.alloc (scO m g cb)).alloc (.cells #[.string b] 23)).alloc (drO false 0 0) = w1 := ⟨_, rfl⟩
  have hb1 : Below w.heap.size w w1 := by rw [← hw1]; exact (((Below.refl w.heap.size w).alloc (Nat.le_refl _) _).alloc (by simp) _).alloc (by simp; omega) _
  have hsc : SCB w1 w.heap.size m g cb := by rw [← hw1]; exact ((SCB.new w m g cb).below ((Below.refl _ _).alloc (Nat.le_refl _) _)).below ((Below.refl _ _).alloc (Nat.le_refl _) _)
  have hbb : Boxed w1 (w.heap.size + 1) 23 (.string b) := by
    rw [← hw1]; have := (Boxed.new (w.alloc (scO m g cb)) 23 (.string b)).alloc (drO false 0 0); rwa [World.size_alloc] at this
  have hdr : DR w1 (w.heap.size + 2) false 0 0 := by
    rw [← hw1]; have := DR.new ((w.alloc (scO m g cb)).alloc (.cells #[.string b] 23)) false 0 0; rw [World.size_alloc, World.size_alloc] at this; exact this
  obtain ⟨c0, c1⟩ := hsc.c
  have c2 := hbb.cell
  have HB := Lib.hid hb1
  have HDR := Lib.hid hdr
  clear hb1 hsc hbb hdr
  go_enter Tryz.func71, Tryz.ntmps71
  go_wp2_with fail
  refine (HC.out _).mono ?_
  rintro e w2 ⟨rfl, hb⟩
  have hb3 := hb.alloc hb.size (spO ⟨#[]⟩ ⟨#[]⟩)
  replace HB := Lib.hid (HB.out.trans (hb3.mono HB.out.size))
  replace HDR := Lib.hid (HDR.out.below hb3)
  obtain ⟨g0, g1, g2⟩ := HDR.out.c
  have f0 := HDR.out.f 0
  have f1 := HDR.out.f 1
  have f2 := HDR.out.f 2
  clear hw1 c0 c1 c2 hb hb3 HC
  go_wp2_with fail
  exact bodyPost_ret ((HDR.out.st false 0 0).result rfl rfl rfl) rfl ⟨rfl, below_sr3 HB.out (by omega) _ _ _⟩

/-- What pick.Draw returns. -/
def PDraws (ao : Option Addr) (N cap : Nat) (b : ByteArray) (d : Bool) (v u c : Int) (w : World) : Prop :=
  Calls Tryz.prog 21 #[.slice ao N cap, .string b] w fun e w' => e = .returned (.tuple #[.agg #[.bool d, .int .i64 v, .int .i64 u], .int .i64 c]) ∧ Below w.heap.size w w'

set_option maxHeartbeats 3200000 in
set_option maxRecDepth 100000 in
theorem pDraw_w {ao : Option Addr} {N cap : Nat} {f : Nat → ByteArray} {b : ByteArray} {w : World} (h : PRow w ao N f) (hs : ∀ j, j < N → (f j).size ≤ 140737488351232) (he : pickE f N ≠ 0) : PDraws ao N cap b false 0 0 ((pickE f N : Nat) : Int) w := by
  have HC := Lib.hid (fun W (hb : Below w.heap.size w W) => wcheck_any (cap := cap) (h.below hb) hs)
  have HB := Lib.hid ((Below.refl w.heap.size w).alloc (Nat.le_refl _) (drO false 0 0))
  have HD := Lib.hid (DR.new w false 0 0)
  have hne := errneP he
  generalize pickE f N = c at *
  clear h hs he
  unfold PDraws
  go_enter Tryz.func21, Tryz.ntmps21
  go_wp2_with fail
  refine (HC.out _ HB.out).mono ?_
  rintro e w1 ⟨rfl, rfl⟩
  obtain ⟨g0, g1, g2⟩ := HD.out.c
  have f0 := HD.out.f 0
  have f1 := HD.out.f 1
  have f2 := HD.out.f 2
  clear HC
  go_wp2_with fail
  exact bodyPost_ret (HD.out.result rfl rfl rfl) rfl ⟨rfl, HB.out⟩

set_option maxHeartbeats 3200000 in
set_option maxRecDepth 100000 in
theorem pDraw_x {ao : Option Addr} {N cap : Nat} {f : Nat → ByteArray} {b : ByteArray} {w : World} {d : Bool} {v u c : Int} (h : PRow w ao N f) (hw : WOk f N) (htab : Tab w)
    (hx : ∀ W, Below w.heap.size w W → ∀ bB, ScAt W 135 #[.pointer (some ⟨bB, 0, none⟩)] (wsum (wN f)) N → Calls Tryz.prog 71 #[scV N 135 #[.pointer (some ⟨bB, 0, none⟩)], .string b] W fun e w' => e = .returned (.tuple #[.agg #[.bool d, .int .i64 v, .int .i64 u], .int .i64 c]) ∧ Below W.heap.size W w') : PDraws ao N cap b d v u c w := by
  have h1 := hw.one
  have hsz : ∀ j, j < N → (f j).size ≤ 140737488351232 := fun j hj => by rw [hw.text j hj]; have := hw.short j hj; omega
  have hz := pickE_of hw
  obtain ⟨a, rfl, hal, hcell⟩ := h.form (by omega)
  have hck := fun W (hb : Below w.heap.size w W) => wcheck_any (cap := cap) (h.below hb) hsz
  rw [hz] at hck
  have HC := Lib.hid hck
  have HW := Lib.hid (fun W (hb : Below w.heap.size w W) => weighted_any (cap := cap) (Nat.lt_of_lt_of_le hal hb.size) (fun j hj => by rw [← hw.text j hj]; exact (hb.cell (p := a.add j) (by rw [add_blockP]; exact hal)).trans (hcell j hj)) hw.most hw.ok (big_self hw.big) (htab.below hb))
  have HX := Lib.hid hx
  have HB := Lib.hid ((Below.refl w.heap.size w).alloc (Nat.le_refl _) (drO false 0 0))
  have HD := Lib.hid (DR.new w false 0 0)
  clear h hw htab hx h1 hsz hz hal hcell hck
  unfold PDraws
  go_enter Tryz.func21, Tryz.ntmps21
  go_wp2_with fail
  refine (HC.out _ HB.out).mono ?_
  rintro e w1 ⟨rfl, rfl⟩
  clear HC
  go_wp2_with fail
  refine (HW.out _ HB.out).mono ?_
  rintro e w2 ⟨bB, rfl, hsc, hb⟩
  replace HB := Lib.hid (HB.out.trans (hb.mono HB.out.size))
  replace HD := Lib.hid (HD.out.below hb)
  have HXX := Lib.hid (HX.out w2 HB.out bB hsc)
  clear hsc hb HW HX
  go_wp2_with fail
  refine HXX.out.mono ?_
  rintro e w3 ⟨rfl, hb⟩
  replace HB := Lib.hid (HB.out.trans (hb.mono HB.out.size))
  replace HD := Lib.hid (HD.out.below hb)
  obtain ⟨g0, g1, g2⟩ := HD.out.c
  have f0 := HD.out.f 0
  have f1 := HD.out.f 1
  have f2 := HD.out.f 2
  clear hb HXX
  go_wp2_with fail
  exact bodyPost_ret ((HD.out.st d v u).result rfl rfl rfl) rfl ⟨rfl, below_sr3 HB.out (by omega) _ _ _⟩

theorem pDraw_ok {ao : Option Addr} {N cap : Nat} {f : Nat → ByteArray} {b : ByteArray} {w : World} {d : Bool} {v u : Nat} (h : PRow w ao N f) (hw : WOk f N) (htab : Tab w) (hb : IsBits b.data.toList) (hsz : b.size ≤ 256) (hT : PickIs (wsum (wN f)) N b.data.toList d v u) : PDraws ao N cap b d (v : Int) (u : Int) 0 w :=
  pDraw_x h hw htab (fun _ hbW _ hsc => draw_any hsc hw.sc hw.big hb hsz (htab.below hbW) (by have := hw.most; omega) hT)
theorem pDraw_b {ao : Option Addr} {N cap : Nat} {f : Nat → ByteArray} {b : ByteArray} {w : World} (h : PRow w ao N f) (hw : WOk f N) (htab : Tab w) (hc : schk b ≠ 0) (hs : b.size ≤ 140737488351232) : PDraws ao N cap b false 0 0 ((schk b : Nat) : Int) w :=
  pDraw_x h hw htab (fun W _ _ _ => draw_err rfl hc hs W)

/-- What pick.Below returns. -/
def PBelow (m : Int) (b : ByteArray) (d : Bool) (v u c : Int) (w : World) : Prop :=
  Calls Tryz.prog 23 #[.int .i64 m, .string b] w fun e w' => e = .returned (.tuple #[.agg #[.bool d, .int .i64 v, .int .i64 u], .int .i64 c]) ∧ Below w.heap.size w w'

set_option maxHeartbeats 3200000 in
set_option maxRecDepth 100000 in
theorem pBelow_far {m : Int} {b : ByteArray} (hm : m < 1 ∨ 1000000 < m) (w : World) : PBelow m b false 0 0 2 w := by
  have HB := Lib.hid ((Below.refl w.heap.size w).alloc (Nat.le_refl _) (drO false 0 0))
  have HD := Lib.hid (DR.new w false 0 0)
  obtain ⟨g0, g1, g2⟩ := HD.out.c
  have f0 := HD.out.f 0
  have f1 := HD.out.f 1
  have f2 := HD.out.f 2
  unfold PBelow
  go_enter Tryz.func23, Tryz.ntmps23
  by_cases h1 : m < 1
  · clear hm
    go_wp2_with fail
    exact bodyPost_ret (HD.out.result rfl rfl rfl) rfl ⟨rfl, HB.out⟩
  · have h2 : 1000000 < m := by omega
    clear hm
    go_wp2_with fail
    exact bodyPost_ret (HD.out.result rfl rfl rfl) rfl ⟨rfl, HB.out⟩

set_option maxHeartbeats 3200000 in
set_option maxRecDepth 100000 in
theorem pBelow_x {m : Nat} {b : ByteArray} {w : World} {d : Bool} {v u c : Int} (h1 : 1 ≤ m) (h2 : m ≤ 1000000)
    (hx : ∀ W, Below w.heap.size w W → Calls Tryz.prog 71 #[scV m 143 #[], .string b] W fun e w' => e = .returned (.tuple #[.agg #[.bool d, .int .i64 v, .int .i64 u], .int .i64 c]) ∧ Below W.heap.size W w') : PBelow (m : Int) b d v u c w := by
  have HU := Lib.hid (fun W => uniform_any m W)
  have HX := Lib.hid hx
  have HB := Lib.hid ((Below.refl w.heap.size w).alloc (Nat.le_refl _) (drO false 0 0))
  have HD := Lib.hid (DR.new w false 0 0)
  have k1 : ¬ (m : Int) < 1 := by omega
  have k2 : ¬ (1000000 : Int) < (m : Int) := by omega
  clear hx h1 h2
  unfold PBelow
  go_enter Tryz.func23, Tryz.ntmps23
  go_wp2_with fail
  refine (HU.out _).mono ?_
  rintro e w2 ⟨rfl, hb⟩
  replace HB := Lib.hid (HB.out.trans (hb.mono HB.out.size))
  replace HD := Lib.hid (HD.out.below hb)
  clear hb HU
  go_wp2_with fail
  refine (HX.out _ HB.out).mono ?_
  rintro e w3 ⟨rfl, hb⟩
  replace HB := Lib.hid (HB.out.trans (hb.mono HB.out.size))
  replace HD := Lib.hid (HD.out.below hb)
  obtain ⟨g0, g1, g2⟩ := HD.out.c
  have f0 := HD.out.f 0
  have f1 := HD.out.f 1
  have f2 := HD.out.f 2
  clear hb HX
  go_wp2_with fail
  exact bodyPost_ret ((HD.out.st d v u).result rfl rfl rfl) rfl ⟨rfl, below_sr3 HB.out (by omega) _ _ _⟩

theorem id_sc {m : Nat} (h : 1 ≤ m) : ScF (fun i => i) m := ⟨rfl, fun _ _ h _ => h, h⟩
theorem id_big {m : Nat} (h : m ≤ 1000000) : Ok (m * 2 ^ 256 + 1) := by
  refine big_of ⟨3800, rfl, ?_⟩
  obtain ⟨K, hK⟩ : ∃ K, K = 3800 := ⟨_, rfl⟩
  rw [← hK]
  have : 10 ^ 6 ≤ 10 ^ K := Nat.pow_le_pow_right (by omega) (by omega)
  omega
theorem pBelow_ok {m : Nat} {b : ByteArray} {w : World} {d : Bool} {v u : Nat} (h1 : 1 ≤ m) (h2 : m ≤ 1000000) (htab : Tab w) (hb : IsBits b.data.toList) (hsz : b.size ≤ 256) (hT : PickIs (fun i => i) m b.data.toList d v u) : PBelow (m : Int) b d (v : Int) (u : Int) 0 w :=
  pBelow_x h1 h2 (fun _ hbW => draw_any (uniform_sc m h2 (htab.below hbW)) (id_sc h1) (id_big h2) hb hsz (htab.below hbW) h2 hT)
theorem pBelow_b {m : Nat} {b : ByteArray} {w : World} (h1 : 1 ≤ m) (h2 : m ≤ 1000000) (hc : schk b ≠ 0) (hs : b.size ≤ 140737488351232) : PBelow (m : Int) b false 0 0 ((schk b : Nat) : Int) w :=
  pBelow_x h1 h2 (fun W _ => draw_err rfl hc hs W)

open Go.RowKit NV
open Go.Lib (decDigits)

theorem held_dr : Tryz.prog.stoodInHeld 26 = false := by kernel_rfl
theorem struct_dr : Tryz.prog.underlying 26 = some (.struct (Tryz.prog.fieldsOf 26)) := by kernel_rfl
def fieldsDr : List (String × Nat × Nat) := [("Done", 4, 0), ("Value", 3, 1), ("Used", 3, 2)]
theorem fields_dr : (Tryz.prog.fieldsOf 26).toList.map (fun f => (f.name, f.type, f.offset)) = fieldsDr := by kernel_rfl
theorem part_boolP (cs : Array Value) (off : Nat) (v : Value) (h : cs[off]? = some v) (W : World) : (part 4 cs off).run Tryz.prog W = .ok v W := by
  simp [part, isAgg, run_underlying Tryz.underlying4, h]
theorem part_intP (cs : Array Value) (off : Nat) (v : Value) (h : cs[off]? = some v) (W : World) : (part 3 cs off).run Tryz.prog W = .ok v W := by
  simp [part, isAgg, run_underlying Tryz.underlying3, h]
theorem list_threeP {α : Type} {l : List α} (h : l.length = 3) : ∃ a b c, l = [a, b, c] := by
  match l, h with
  | [a, b, c], _ => exact ⟨a, b, c, rfl⟩
theorem eqIn_dr (d e : Bool) (u v x y : Int) (W : World) : (Op.equalIn 10000 26 (.agg #[.bool d, .int .i64 u, .int .i64 v]) (.agg #[.bool e, .int .i64 x, .int .i64 y])).run Tryz.prog W = .ok (d == e && (u == x && v == y)) W := by
  rw [run_equalIn_agg W 9999 _ _ _ struct_dr held_dr]
  have hf := fields_dr
  generalize (Tryz.prog.fieldsOf 26).toList = l at hf ⊢
  unfold fieldsDr at hf
  obtain ⟨f0, f1, f2, rfl⟩ := list_threeP (show l.length = 3 by have := congrArg List.length hf; simpa using this)
  simp only [List.map_cons, List.map_nil, List.cons.injEq, Prod.mk.injEq, and_true] at hf
  obtain ⟨⟨n0, t0, o0⟩, ⟨n1, t1, o1⟩, ⟨n2, t2, o2⟩⟩ := hf
  simp only [Op.eqFields, n0, t0, o0, n1, t1, o1, n2, t2, o2]
  simp [Sem.run_bind, part_boolP #[.bool d, .int .i64 u, .int .i64 v] 0 (.bool d) rfl, part_boolP #[.bool e, .int .i64 x, .int .i64 y] 0 (.bool e) rfl,
    part_intP #[.bool d, .int .i64 u, .int .i64 v] 1 (.int .i64 u) rfl, part_intP #[.bool e, .int .i64 x, .int .i64 y] 1 (.int .i64 x) rfl,
    part_intP #[.bool d, .int .i64 u, .int .i64 v] 2 (.int .i64 v) rfl, part_intP #[.bool e, .int .i64 x, .int .i64 y] 2 (.int .i64 y) rfl,
    run_equalIn_bool' _ _ _ _ _ Tryz.underlying4, run_equalIn_int _ _ _ _ _ _ _ Tryz.underlying3]
  by_cases h0 : d = e <;> by_cases h1 : u = x <;> by_cases h2 : v = y <;> simp [h0, h1, h2]
theorem eq_dr (d e : Bool) (u v x y : Int) (W : World) : (binOp .eql 26 (.agg #[.bool d, .int .i64 u, .int .i64 v]) (.agg #[.bool e, .int .i64 x, .int .i64 y])).run Tryz.prog W = .ok (.bool (d == e && (u == x && v == y))) W := by
  rw [run_eql_struct, eqIn_dr]; rfl

/-- The texts of a list, by place. -/
def lF (l : List ByteArray) (j : Nat) : ByteArray := l.getD j ⟨#[]⟩
def lCells (l : List ByteArray) : List Value := l.map Value.string
theorem PRow.lit {w : World} {g : Nat} {l : List ByteArray} (h : w.heap[g]? = some (.cells (lCells l).toArray 22 (0, 0))) : PRow w (some ⟨g, 0, none⟩) l.length (lF l) := by
  refine .inr ⟨_, rfl, (Array.getElem?_eq_some_iff.1 h).1, fun j hj => ?_⟩
  rw [Addr.add_lit, Nat.zero_add, cell_of_row w g j _ _ _ h]
  unfold lCells lF
  simp [hj]
theorem bits_litP {l : List UInt8} (h : bitsB l = true) : IsBits l := bitsB_iff.1 h
instance pickIs_dec (f : Nat → Nat) (m : Nat) (l : List UInt8) (d : Bool) (v u : Nat) : Decidable (PickIs f m l d v u) := inferInstanceAs (Decidable (_ ∨ _))
theorem wE_of {s : ByteArray} {n : Nat} (h : s = dstr n) (hn : n ≤ 1000000) : chk s.data.toList = 0 ∧ s.size ≤ 3800 := by
  have ho : Ok n := ok_two (n := 20) (by omega) (by omega)
  rw [h, dstr_list, ho.chk]
  refine ⟨rfl, ?_⟩
  rw [dstr_size]
  have := (dec_len_le (n := n) (k := 7) (by omega)).2 (by omega)
  omega
/-- Weights that are given as numbers. -/
theorem WOk.lit {l : List Nat} (h1 : 1 ≤ l.length) (h2 : l.length ≤ 64) (h3 : ∀ j, j < l.length → l.getD j 0 ≤ 1000000) (h4 : 0 < wsum (fun j => l.getD j 0) l.length) : WOk (lF (l.map dstr)) l.length ∧ ∀ j, j < l.length → wN (lF (l.map dstr)) j = l.getD j 0 := by
  have ht : ∀ j, j < l.length → lF (l.map dstr) j = dstr (l.getD j 0) := fun j hj => by unfold lF; simp [hj]
  have hn : ∀ j, j < l.length → wN (lF (l.map dstr)) j = l.getD j 0 := fun j hj => by unfold wN; rw [ht j hj, dstr_list, dv_dec]
  refine ⟨⟨h1, h2, fun j hj => by rw [hn j hj]; exact ht j hj, fun j hj => by rw [hn j hj]; exact ok_two (n := 20) (by omega) (by have := h3 j hj; omega), fun j hj => ?_, by rw [wsum_congr hn]; exact h4⟩, hn⟩
  rw [hn j hj]; exact (wE_of rfl (h3 j hj)).2
theorem digit_strP {n : Nat} (h : n < 10) : dstr n = ⟨#[UInt8.ofNat (48 + n)]⟩ := by rw [dstr, dec_small h]
/-- A draw depends on its borders alone. -/
theorem pick_congr {f g : Nat → Nat} {m : Nat} {l : List UInt8} {d : Bool} {v u : Nat} (hg : ∀ i, i ≤ m → g i = f i) (h : PickIs f m l d v u) : PickIs g m l d v u :=
  pick_scale (c := 1) (by omega) (fun i hi => by rw [Nat.one_mul, hg i hi]) h

theorem w121 : WOk (lF ([1, 2, 1].map dstr)) 3 ∧ ∀ i, i ≤ 3 → wsum (wN (lF ([1, 2, 1].map dstr))) i = wsum (fun j => [1, 2, 1].getD j 0) i := by
  obtain ⟨h1, h2⟩ := WOk.lit (l := [1, 2, 1]) (by decide) (by decide) (by decide) (by decide)
  exact ⟨h1, fun i hi => wsum_congr (fun j hj => h2 j (show j < 3 by omega))⟩
theorem c121 : lCells ([1, 2, 1].map dstr) = [.string ⟨#[49]⟩, .string ⟨#[50]⟩, .string ⟨#[49]⟩] := by
  unfold lCells
  simp only [List.map_cons, List.map_nil]
  rw [digit_strP (n := 1) (by omega), digit_strP (n := 2) (by omega)]; rfl

set_option maxHeartbeats 3200000 in
set_option maxRecDepth 100000 in
theorem lives5_any (w : World) (htab : Tab w) : Calls Tryz.prog 18 #[] w fun e w' => e = .returned (.bool true) ∧ Below w.heap.size w w' := by
  have h1 := fun W (h : Below w.heap.size w W) (g : Nat) (hg : W.heap[g]? = some (.cells #[.string ⟨#[49]⟩, .string ⟨#[50]⟩, .string ⟨#[49]⟩] 22 (0, 0))) =>
    pDraw_ok (cap := 3) (b := ⟨#[48, 49]⟩) (d := true) (v := 1) (u := 2) (PRow.lit (l := [1, 2, 1].map dstr) (by rw [c121]; exact hg)) w121.1 (htab.below h) (bits_litP (by decide)) (by decide) (pick_congr w121.2 (by decide))
  have h2 := fun W (h : Below w.heap.size w W) => pBelow_ok (m := 6) (b := ⟨#[49, 49, 49, 49]⟩) (d := true) (v := 5) (u := 3) (by omega) (by omega) (htab.below h) (bits_litP (by decide)) (by decide) (by decide)
  have H1 := Lib.hid h1
  have H2 := Lib.hid h2
  have HB0 := Lib.hid ((Below.refl w.heap.size w).alloc (Nat.le_refl _) (.cells #[.string ⟨#[49]⟩, .string ⟨#[50]⟩, .string ⟨#[49]⟩] 22))
  clear h1 h2 htab
  go_enter Tryz.func18, Tryz.ntmps18
  go_wp2_with fail
  refine (H1.out _ HB0.out _ (heap_alloc_new _ _)).mono ?_
  rintro e w1 ⟨rfl, hb1⟩
  have HB := Lib.hid (HB0.out.trans ((hb1.alloc hb1.size (drO true 1 2)).mono HB0.out.size))
  have HD := Lib.hid (DR.new w1 true 1 2)
  clear hb1 H1
  go_wp2_with fail
  refine (H2.out _ HB.out).mono ?_
  rintro e w2 ⟨rfl, hb2⟩
  obtain ⟨c0, c1, c2⟩ := (HD.out.below (hb2.alloc hb2.size (drO true 5 3))).c
  obtain ⟨d0, d1, d2⟩ := (DR.new w2 true 5 3).c
  replace HB := Lib.hid (HB.out.trans ((hb2.alloc hb2.size (drO true 5 3)).mono HB.out.size))
  clear hb2 H2 HD HB0
  have he1 := eq_dr true true 1 2 1 2
  have he2 := eq_dr true true 5 3 5 3
  go_wp2_with fail
  go_ret
  exact ⟨rfl, HB.out⟩

end Go.Proofs.YteojekiocecdnaaGreatDoor
