/-
  The sums of weights: an iterator of pairs; weighted.
-/
import Derived.Test.YtpkbppfgmpcpcaaGreatDoorEB
import Derived.Maps.OwnIn
import Derived.Deep.AppendLies
namespace Go.Proofs.YtpkbppfgmpcpcaaGreatDoor
open Go.RowKit NV Go.Shelf
open Go.Lib (decDigits)
attribute [local go_sem] Oper.semAt_some

set_option maxHeartbeats 1600000 in
theorem sums_any (ao : Option Addr) (N cap : Nat) (w : World) :
    Calls Tryz.prog 203 #[.slice ao N cap] w fun e w' =>
      e = .returned (.func (.func 278) #[] #[.pointer (some ⟨w.heap.size, 0, none⟩)]) ∧ Boxed w' w.heap.size 56 (.slice ao N cap) ∧ Below w.heap.size w w' := by
  have hmf : ∀ (fn : Fn) (first cap : Array Value) (w : World), (Instr.makeFunc fn first cap).run Tryz.prog w = .ok (.func fn first cap) w := fun _ _ _ _ => rfl
  have HB1 := Lib.hid (Boxed.new w 56 (.slice ao N cap))
  have HB := Lib.hid ((Below.refl w.heap.size w).alloc (Nat.le_refl _) (.cells #[.slice ao N cap] 56))
  go_enter Tryz.func203, Tryz.ntmps203
  go_wp2_with fail
  go_ret
  exact ⟨rfl, HB1.out, HB.out⟩

set_option maxHeartbeats 3200000 in
set_option maxRecDepth 100000 in
theorem sums_calls {m bB l N cap : Nat} {a : Addr} {g : Nat → Nat} (hm : 1 ≤ m) (hN : N ≤ 1000) (og : ∀ j, j < N → Ok (g j)) (os : Ok (wsum g N)) (St : World → Prop) (hSt : ∀ W W', St W → Below W.heap.size W W' → St W')
    (hc : ∀ W, St W → Boxed W bB 56 (.slice (some a) N cap) ∧ (∀ j, j < N → W.cell? (a.add j) = some (.string (dstr (g j)))) ∧ Tab W) (J : Nat → World → Prop)
    (hJ : ∀ k W W', J k W → Ch (fun _ => False) W W' → J k W')
    (hY : ∀ k W, J k W → St W → k < N → YieldAt Fence.wide (m - 1) Tryz.prog l #[.string (dstr (wsum g k)), .string (dstr (g k))] W fun e W' => e = .returned (.bool true) ∧ J (k + 1) W' ∧ St W')
    (W : World) (s0 : St W) (h0 : J 0 W) :
    CallsIn Fence.wide m Tryz.prog 278 (#[.func (.yield l) #[] #[]] ++ #[.pointer (some ⟨bB, 0, none⟩)]) W fun e W' => (∃ v, e = .returned v) ∧ J N W' := by
  refine callsIn_of_wp Tryz.func278 rfl trivial ?_ rfl
  simp only [Tryz.ntmps278, List.size_toArray, List.length_cons, List.length_nil, Nat.reduceAdd, Nat.reduceSub, Array.replicate_succ, Array.replicate_zero, List.push_toArray, List.append_toArray, List.nil_append, List.cons_append]
  have HJ := Lib.hid hJ
  have HY := Lib.hid hY
  have HST := Lib.hid hSt
  have HC := Lib.hid hc
  have HA := Lib.hid (fun k (hk : k < N) W (hs : St W) => Add_ok (wsum g k) (g k) (os.mono (wsum_mono g k N (by omega))) (og k hk) (os.mono (wsum_mono g (k + 1) N (by omega))) W (hc W hs).2.2)
  have hbox := (hc W s0).1.cell
  have HH := Lib.hid (And.intro s0 h0)
  clear hJ hY hSt hc og os s0 h0
  obtain ⟨T, hT⟩ : ∃ T : Nat → ByteArray, ∀ k, T k = dstr (wsum g k) := ⟨_, fun _ => rfl⟩
  have HT0 := Lib.hid (show (⟨#[48]⟩ : ByteArray) = T 0 by rw [hT]; exact zero_str)
  have ha : ∀ k, k < N → ∀ W, St W → Calls Tryz.prog 176 #[.string (T k), .string (dstr (g k))] W fun e w' => e = .returned (.tuple #[.string (T (k + 1)), .int .i64 0]) ∧ Below W.heap.size W w' := fun k hk W hs => by
    have := HA.out k hk W hs; rw [hT, hT]; exact this
  simp only [← hT] at HY
  have HAD := Lib.hid ha
  clear HA ha hT
  gi_wp2
  gi_loopw [3, 8] (fun s3 s8 wr => ∃ k : Nat, k ≤ N ∧ s3 = .string (T k) ∧ s8 = .int .i64 (k : Int) ∧ J k wr ∧ St wr) (fun _ s8 _ => N - (intOf s8).toNat)
  case atStart => exact ⟨0, Nat.zero_le _, by rw [← HT0.out], rfl, HH.out.2, HH.out.1⟩
  case round =>
    obtain ⟨k, hk, rfl, rfl, hj, hs⟩ := hrel
    clear hbox HH
    by_cases hlt : k < N
    · have c0 := (HC.out wr hs).2.1 k hlt
      obtain ⟨fn, tmps, assign, body, hy, hR⟩ := HY.out k wr hj hs hlt
      have HR := Lib.hid hR
      clear hR hj hs
      gi_wp2
      refine HR.out.mono ?_
      rintro e W3 ⟨rfl, hj3, hs3⟩
      have HJ3 := Lib.hid hj3
      have HS3 := Lib.hid hs3
      clear hj3 hs3 hy HR c0
      gi_wp2
      refine ⟨trivial, (callsIn_wide.2 (HAD.out k hlt W3 HS3.out)).mono ?_⟩
      rintro e W4 ⟨rfl, hb4⟩
      have HB4 := Lib.hid hb4
      clear hb4
      gi_wp2
      go_roundw
      case rel => exact ⟨k + 1, by omega, rfl, by go_num, HJ.out _ _ _ HJ3.out (Ch.below HB4.out), HST.out _ _ HS3.out HB4.out⟩
      case measure => simp [intOf]; omega
    · obtain rfl : k = N := by omega
      have hjk := Lib.hid hj
      clear hj hs
      gi_wp2
      go_end0
      exact ⟨⟨_, rfl⟩, hjk.out⟩

set_option maxHeartbeats 1600000 in
theorem weighted1_any {bB gb n i cap : Nat} {F : Nat → ByteArray} {w : World} (hb : Boxed w bB 56 (.slice (some ⟨gb, 0, none⟩) n cap)) (hc : ∀ j, j < n → w.cell? ⟨gb, j, none⟩ = some (.string (F j))) (hi : i < n) :
    Calls Tryz.prog 204 (#[.int .i64 (i : Int)] ++ #[.pointer (some ⟨bB, 0, none⟩)]) w fun e w' => e = .returned (.string (F i)) ∧ Below w.heap.size w w' := by
  have c0 := hb.cell
  have c1 := hc i hi
  have hz : (i : Int) < (n : Int) := by omega
  clear hb hc
  go_enter Tryz.func204, Tryz.ntmps204
  go_wp2_with fail
  go_ret
  exact ⟨rfl, Below.refl _ _⟩

theorem Ch.grown {S : Nat → Prop} {w w' : World} {row : Option Nat} (hg : w.grownBy w' row) (hr : ∀ r, row = some r → S r) : Ch S w w' :=
  ⟨hg.os, hg.tape, hg.output, hg.size, fun j hj hs => hg.block j hj (fun e => hs (hr j e.symm))⟩
theorem type_neP : 56 ≠ 23 := by decide

/-- The first n borders as cells. -/
def wcells (g : Nat → Nat) (n : Nat) : List Value := (List.range n).map (fun i => Value.string (dstr (wsum g i)))
theorem wcells_next (g : Nat → Nat) (n : Nat) : wcells g (n + 1) = wcells g n ++ [.string (dstr (wsum g n))] := by unfold wcells; rw [List.range_succ, List.map_append]; rfl
theorem wcells_get {g : Nat → Nat} {n i : Nat} (h : i < n) : (wcells g n)[i]? = some (.string (dstr (wsum g i))) := by unfold wcells; simp [h]
theorem infoNum : (Tryz.prog.info? 23).map (fun i => (i.zero, i.size, i.bytes)) = some (some (.string ⟨#[]⟩), 1, 16) := by kernel_rfl
theorem row_block {w w' : World} {base e sz n g cap : Nat} {xs : List Value} (h : w.ownsRow base e sz (.slice (some ⟨g, 0, none⟩) n cap) n xs) (hb : w'.heap[g]? = w.heap[g]?) : w'.ownsRow base e sz (.slice (some ⟨g, 0, none⟩) n cap) n xs := by
  refine ⟨h.1, ?_⟩
  rcases h.2 with ⟨hv, _⟩ | ⟨g', cap', cur, hv, hg, hh, rest⟩
  · cases hv
  · cases hv
    exact .inr ⟨g, cap, cur, rfl, hg, hb.trans hh, rest⟩
theorem row_blt {w : World} {base e sz n g cap : Nat} {xs : List Value} (h : w.ownsRow base e sz (.slice (some ⟨g, 0, none⟩) n cap) n xs) : g < w.heap.size := by
  rcases h.2 with ⟨hv, _⟩ | ⟨g', cap', cur, hv, hg, hh, rest⟩
  · cases hv
  · cases hv; exact (Array.getElem?_eq_some_iff.1 hh).1
theorem row_lit {w : World} {g base : Nat} {x : ByteArray} (h : w.heap[g]? = some (.cells #[.string x] 23 (0, 0))) (hb : base ≤ g) : w.ownsRow base 23 1 (.slice (some ⟨g, 0, none⟩) 1 1) 1 [.string x] :=
  ⟨rfl, .inr ⟨g, 1, #[.string x], rfl, hb, h, Nat.le_refl _, by unfold maxLen; omega, rfl, rfl⟩⟩

set_option maxHeartbeats 6400000 in
set_option maxRecDepth 100000 in
theorem weighted_any {N cap : Nat} {a : Addr} {g : Nat → Nat} {w : World} (hal : a.block < w.heap.size) (hcell : ∀ j, j < N → w.cell? (a.add j) = some (.string (dstr (g j)))) (hN : N ≤ 64) (og : ∀ j, j < N → Ok (g j)) (os : Ok (wsum g N)) (htab : Tab w) :
    Calls Tryz.prog 124 #[.slice (some a) N cap] w fun e w' => ∃ bB, e = .returned (scV N 204 #[.pointer (some ⟨bB, 0, none⟩)]) ∧ ScAt w' 204 #[.pointer (some ⟨bB, 0, none⟩)] (wsum g) N ∧ Below w.heap.size w w' := by
  obtain ⟨i0, hi, hz0, hz1, hz2⟩ := info_parts infoNum
  have hmf : ∀ (fn : Fn) (first cap : Array Value) (w : World), (Instr.makeFunc fn first cap).run Tryz.prog w = .ok (.func fn first cap) w := fun _ _ _ _ => rfl
  refine (callsIn_wide (n := 6)).1 ?_
  refine callsIn_of_wp_marks Tryz.func124 rfl trivial ?_ rfl
  simp only [Tryz.ntmps124, List.size_toArray, List.length_cons, List.length_nil, Nat.reduceAdd, Nat.reduceSub, Array.replicate_succ, Array.replicate_zero, List.push_toArray, List.append_toArray, List.nil_append, List.cons_append]
  obtain ⟨w1, hw1⟩ : ∃ w1, ((w.alloc scZ).alloc (.cells #[.string ⟨#[48]⟩] 23)).alloc (.cells #[.slice (some ⟨w.heap.size + 1, 0, none⟩) 1 1] 56) = w1 := ⟨_, rfl⟩
  have hb1 : Below w.heap.size w w1 := by rw [← hw1]; exact (((Below.refl w.heap.size w).alloc (Nat.le_refl _) _).alloc (by simp) _).alloc (by simp; omega) _
  have HSM := Lib.hid (sums_any (some a) N cap w1)
  have h1z : w1.heap.size = w.heap.size + 3 := by rw [← hw1]; simp
  have hlit : w1.heap[w.heap.size + 1]? = some (.cells #[.string ⟨#[48]⟩] 23 (0, 0)) := by
    rw [← hw1]
    have h1 := heap_alloc_new (w.alloc scZ) (.cells #[.string ⟨#[48]⟩] 23)
    rw [World.size_alloc] at h1
    exact (Below.heap_alloc _ _ _ (by simp)).trans h1
  have hbox : Boxed w1 (w.heap.size + 1 + 1) 56 (.slice (some ⟨w.heap.size + 1, 0, none⟩) 1 1) := by
    rw [← hw1]
    have h1 := Boxed.new ((w.alloc scZ).alloc (.cells #[.string ⟨#[48]⟩] 23)) 56 (.slice (some ⟨w.heap.size + 1, 0, none⟩) 1 1)
    rw [World.size_alloc, World.size_alloc] at h1
    exact h1
  have hscz : w1.heap[w.heap.size]? = some (.cells #[.int .i64 0, .nilFunc] 128 (0, 0)) := by
    rw [← hw1]
    exact ((Below.heap_alloc _ _ _ (by simp; omega)).trans (Below.heap_alloc _ _ _ (by simp))).trans (heap_alloc_new w scZ)
  gi_wp2_with fail
  refine ⟨trivial, (callsIn_wide.2 HSM.out).mono ?_⟩
  rintro e w2 ⟨rfl, hwx, hb⟩
  clear HSM hw1
  have hlit2 := (hb.block _ (by omega)).trans hlit
  have hbox2 := (Ch.below (S := fun _ => False) hb).boxed (fun h => h) hbox
  have hscz2 := (hb.block _ (by omega)).trans hscz
  have hb2 := hb1.trans (hb.mono hb1.size)
  rw [h1z] at hwx
  have h2z := hwx.lt
  clear hb1 hb hlit hbox hscz
  gi_wp2_with fail
  refine wpIn_rangeCh (by omega) (gf := 278) (lb := #[.pointer (some ⟨w.heap.size + 3, 0, none⟩)]) rfl (enters_of Tryz.func278 (by kernel_rfl) rfl)
    (fun j => j < 0) (fun j => j = w.heap.size + 1 ∨ j = w.heap.size + 1 + 1 ∨ w2.heap.size + 2 ≤ j) (fun k => #[.string (dstr (wsum g k)), .string (dstr (g k))]) (fun _ => rfl) N
    (fun _ W => Below w.heap.size w W ∧ Boxed W (w.heap.size + 3) 56 (.slice (some a) N cap))
    (fun k W => ∃ gb cp, Boxed W (w.heap.size + 1 + 1) 56 (.slice (some ⟨gb, 0, none⟩) (k + 1) cp) ∧ W.ownsRow (w.heap.size + 1) 23 1 (.slice (some ⟨gb, 0, none⟩) (k + 1) cp) (k + 1) (wcells g (k + 1)) ∧ (gb = w.heap.size + 1 ∨ w2.heap.size + 2 ≤ gb) ∧ Below w.heap.size w W ∧ W.heap[w.heap.size]? = some (.cells #[.int .i64 0, .nilFunc] 128 (0, 0)))
    (fun j hj => absurd hj (Nat.not_lt_zero _)) ⟨by omega, by omega⟩
    (fun k W W' h hc => ⟨h.1.trans (hc.to_below h.1.size (fun j hj => by omega)), hc.boxed (by omega) h.2⟩)
    (fun k W W' h hc => by
      obtain ⟨gb, cp, h1, h2, h3, h4, h5⟩ := h
      have hlt := row_blt h2
      exact ⟨gb, cp, hc.boxed (by omega) h1, row_block h2 (hc.block gb hlt (by omega)), h3, h4.trans (hc.to_below h4.size (fun j hj => by omega)), (hc.block _ (by have := h4.size; have := h1.lt; omega) (by omega)).trans h5⟩)
    (fun l J W hJ hY s0 h0 => sums_calls (St := fun W => Below w.heap.size w W ∧ Boxed W (w.heap.size + 3) 56 (.slice (some a) N cap)) (by omega) (by omega) og os
      (fun W W' hs hb => ⟨hs.1.trans (hb.mono hs.1.size), (Ch.below (S := fun _ => False) hb).boxed (fun h => h) hs.2⟩)
      (fun W hs => ⟨hs.2, fun j hj => (hs.1.cell (p := a.add j) (by rw [add_blockP]; exact hal)).trans (hcell j hj), htab.below hs.1⟩) J (fun k W W' h hc => hJ k W W' h (hc.mono (fun j _ e => e.elim))) hY W s0 h0)
    ⟨hb2, hwx⟩ ⟨_, _, hbox2, by have := row_lit (x := ⟨#[48]⟩) hlit2 (Nat.le_refl _); rw [zero_str] at this; exact this, .inl rfl, hb2, hscz2⟩
    (fun k => { tmps := #[.slice (some a) N cap, undef, .pointer (some ⟨w.heap.size, 0, none⟩), .pointer (some ⟨w.heap.size + 1 + 1, 0, none⟩), .string (dstr (wsum g k)), .string (dstr (g k)), undef, undef, .slice (some ⟨w.heap.size + 1, 0, none⟩) 1 1, .slice (some a) N cap, .func (.func 278) #[] #[.pointer (some ⟨w.heap.size + 3, 0, none⟩)], .string (dstr (wsum g k)), .string (dstr (g k)), undef, undef, undef, undef, undef, undef, undef, undef, undef, undef, undef, undef, undef, undef], defers := [] }) ?assign ?body ?done
  case assign =>
    intro l k W K hK
    gi_wp2
    exact hK
  case body =>
    rintro l k W hsW ⟨gb, cp, hbx, hrow, hgb, hB, hsc⟩ hk
    have HA := Lib.hid (Add_ok (wsum g k) (g k) (os.mono (wsum_mono g k N (by omega))) (og k hk) (os.mono (wsum_mono g (k + 1) N (by omega))) W (htab.below hB))
    have HX := Lib.hid (And.intro hbx (And.intro hrow (And.intro hgb (And.intro hB hsc))))
    have HX2 := Lib.hid hB
    have HX3 := Lib.hid hsc
    have HW0 := Lib.hid (And.intro hB.size (And.intro hbx.lt (row_blt hrow)))
    have hsx : wsum g (k + 1) = wsum g k + g k := rfl
    rw [← hsx] at HA
    have HWC := Lib.hid (wcells_next g (k + 1))
    have HZ := Lib.hid (And.intro h1z (And.intro h2z hsW))
    have hkN : k ≤ 64 := by omega
    clear hbx hrow hgb hB hsc hlit2 hbox2 hscz2 hb2 h1z h2z hwx hsW htab og os hcell hal hsx
    generalize dstr (wsum g (k + 1)) = sN at *
    generalize dstr (wsum g k) = s0 at *
    generalize dstr (g k) = s1 at *
    gi_wp2_with fail
    refine ⟨trivial, (CallsIn.inRound l (callsIn_wide.2 HA.out)).mono ?_⟩
    rintro e W2 ⟨rfl, hb⟩
    obtain ⟨hbx, hrow, hgb, hB, hsc⟩ := HX.out
    have hbx2 := (Ch.below (S := fun _ => False) hb).boxed (fun h => h) hbx
    have hrow2 := row_block hrow (hb.block gb (row_blt hrow))
    have hB2 := hB.trans (hb.mono hB.size)
    have hsc2 := (hb.block _ (by have := hB.size; have := hbx.lt; omega)).trans hsc
    have d0 := hbx2.cell
    have HY := Lib.hid (And.intro hbx2 (And.intro hrow2 (And.intro hgb (And.intro hB2 (And.intro hsc2 hb)))))
    clear hbx hrow hgb hB hsc hb hbx2 hrow2 hB2 hsc2 HX HA
    gi_wp2_with (gi_at_builtin; refine wpListIn_append_own_at _ rfl _ _ 56 rfl (w.heap.size + 1) 23 i0 (.string ⟨#[]⟩) 1 16 Tryz.underlying56 hi hz0 hz1 hz2 rfl (by decide) _ _ _ rfl (HY.out.2.1.alloc _) ⟨W2.heap.size, 0, none⟩ 1 1 [.string sN] rfl rfl (World.news_of_block (heap_alloc_new _ _)) (fun u hu => by simp at hu; subst hu; rfl) ?c3 ?c4 ?c5 ?_)
    case c3 => unfold maxLen; omega
    case c4 => omega
    case c5 => have := HY.out.2.2.2.1.size; have := HY.out.1.lt; simp; omega
    intro v' w6 hown' hgrow _ hblk
    obtain ⟨g', cap', rfl⟩ := ownsRow_succ hown'
    have hv1 := (HY.out.1.alloc (.cells #[.string sN] 23)).kept hgrow (HY.out.1.not_row type_neP HY.out.2.1)
    have d1 := hv1.cell
    have d2 := hv1.frozen
    have HG := Lib.hid (And.intro hown' (And.intro hgrow (And.intro hblk hv1)))
    clear hown' hgrow hblk hv1 d0
    gi_wp2_with fail
    obtain ⟨hown', hgrow, hblk, hv1⟩ := HG.out
    obtain ⟨hbx, hrow, hgb, hB, hsc, hb⟩ := HY.out
    have hz := HZ.out
    have hbs := hb.size
    have hBs := hB.size
    have hch : Ch (fun j => j = w.heap.size + 1 ∨ j = w.heap.size + 1 + 1 ∨ w2.heap.size + 2 ≤ j) W (w6.setCell ⟨w.heap.size + 1 + 1, 0, none⟩ (.slice (some ⟨g', 0, none⟩) (k + 1 + 1) cap')) :=
      (((Ch.below hb).trans (Ch.alloc _ _ _)).trans (Ch.grown hgrow (fun r hr => by simp [Value.ownBlock] at hr; omega))).trans (Ch.setCell _ _ _ (by omega))
    refine ⟨hch, g', cap', hv1.set _, ?_, ?_, HX2.out.trans (hch.to_below HW0.out.1 (fun j hj => by omega)), (hch.block _ (by have := HW0.out; omega) (by omega)).trans HX3.out⟩
    · rw [HWC.out]; exact hown'.kept (grownBy_setCell' w6 _ _) (.inr (hv1.not_row type_neP hown').symm)
    · rcases hblk with h | h
      · simp [Value.ownBlock] at h; omega
      · simp [Value.ownBlock] at h; omega
  case done =>
    rintro W ⟨gb, cp, hbx, hrow, hgb, hB, hsc⟩ hK
    have c0 : W.cell? ⟨w.heap.size, 0, none⟩ = some (.int .i64 0) := by rw [Lib.cell_of_heap hsc]; rfl
    have c1 : W.cell? ⟨w.heap.size, 1, none⟩ = some .nilFunc := by rw [Lib.cell_of_heap hsc]; rfl
    have f0 : W.frozen? ⟨w.heap.size, 0, none⟩ = false := Lib.frozen_of_heap hsc 0
    have f1 : W.frozen? ⟨w.heap.size, 1, none⟩ = false := Lib.frozen_of_heap hsc 1
    have HF := Lib.hid (And.intro hbx (And.intro hrow (And.intro hB (And.intro hsc (And.intro hK (And.intro hgb h2z))))))
    clear hbx hrow hB hsc hK hlit2 hbox2 hscz2 hb2 h1z h2z hwx htab og os hcell hal hgb
    gi_wp2
    obtain ⟨hbx, hrow, hB, hsc, hK, hgb, h2z⟩ := HF.out
    have hne : ∀ j, j ≠ w.heap.size → (sc2 W w.heap.size (.int .i64 (N : Int)) (.func (.func 204) #[] #[.pointer (some ⟨w.heap.size + 1 + 1, 0, none⟩)])).heap[j]? = W.heap[j]? := fun j hj =>
      (heap_setCell_other _ ⟨w.heap.size, 1, none⟩ j _ hj).trans (heap_setCell_other _ ⟨w.heap.size, 0, none⟩ j _ hj)
    have hK' := (hne w2.heap.size (by omega)).trans hK
    have hne2 : ∀ j, j ≠ w.heap.size → j ≠ w2.heap.size → ((sc2 W w.heap.size (.int .i64 (N : Int)) (.func (.func 204) #[] #[.pointer (some ⟨w.heap.size + 1 + 1, 0, none⟩)])).putObj w2.heap.size (.deferred none)).heap[j]? = W.heap[j]? := fun j hj hj2 => (World.putObj_heap_other hj2).trans (hne j hj)
    refine ⟨by simp, .inl ⟨_, _, rfl, run_takeDeferred hK', ?_⟩⟩
    have hs3 : SCB ((sc2 W w.heap.size (.int .i64 (N : Int)) (.func (.func 204) #[] #[.pointer (some ⟨w.heap.size + 1 + 1, 0, none⟩)])).putObj w2.heap.size (.deferred none)) w.heap.size N 204 #[.pointer (some ⟨w.heap.size + 1 + 1, 0, none⟩)] :=
      (World.putObj_heap_other (by omega)).trans (SCB.st hsc)
    refine ⟨_, hs3.result rfl rfl, w.heap.size + 1 + 1, rfl, ⟨enters_of Tryz.func204 (by kernel_rfl) rfl, fun W' hb' i hi => ?_⟩, ?_⟩
    · have hbx2 := (Ch.below (S := fun _ => False) hb').boxed (fun h => h) (show Boxed _ (w.heap.size + 1 + 1) 56 (.slice (some ⟨gb, 0, none⟩) (N + 1) cp) from (hne2 _ (by omega) (by omega)).trans hbx)
      have hrow2 := row_block hrow (hne2 gb (by omega) (by omega))
      have hrow3 := row_block hrow2 (hb'.block gb (row_blt hrow2))
      exact weighted1_any (F := fun j => dstr (wsum g j)) hbx2 (fun j hj => by
        have := hrow3.cells (g := gb) rfl j _ (wcells_get hj)
        rw [Addr.add_lit, Nat.zero_add] at this; exact this) (by omega)
    · have hb7 := below_sc2 hB (Nat.le_refl _) (.int .i64 (N : Int)) (.func (.func 204) #[] #[.pointer (some ⟨w.heap.size + 1 + 1, 0, none⟩)])
      exact hb7.trans ((Ch.putObj (fun j => j = w2.heap.size) _ (.deferred none) rfl).to_below hb7.size (fun j hj => by omega))

end Go.Proofs.YtpkbppfgmpcpcaaGreatDoor
