/-
  Grow, Write and String at a builder of the call's own.
-/
import Derived.Test.YtiocehlefpbbhaaGreatDoorW8
import Derived.Deep.QuietTactic
import Derived.BigQuiet
namespace Go.Proofs.YtiocehlefpbbhaaGreatDoor
open Go.RowKit NV

set_option maxHeartbeats 2000000 in
set_option maxRecDepth 100000 in
theorem Grow_fresh (b R n : Nat) (w : World) (hbR : b < R) (hR : R ≤ w.heap.size) (hbk : w.heap[b]? = some (.cells #[.pointer none, .slice none 0 0] 81 (0, 0))) (hn0 : 0 < n) (hn : n ≤ 1000000000) :
    Calls Tryz.prog 63 #[.pointer (some ⟨b, 0, none⟩), .int .i64 n] w fun e w' => e = .returned (.tuple #[]) ∧ Bd w' b R [] ∧ Kept b R w w' := by
  have hs1 := heap_setCell_same w b 0 _ _ (.pointer (some ⟨b, 0, none⟩)) hbk
  have hz1 : (w.setCell ⟨b, 0, none⟩ (.pointer (some ⟨b, 0, none⟩))).heap.size = w.heap.size := by simp [World.setCell]
  have hs2 : (w.setCell ⟨b, 0, none⟩ (.pointer (some ⟨b, 0, none⟩))).heap[b]? = some (.cells #[.pointer (some ⟨b, 0, none⟩), .slice none 0 0] 81 (0, 0)) := hs1
  have hk : Kept b R w (w.setCell ⟨b, 0, none⟩ (.pointer (some ⟨b, 0, none⟩))) := (Kept.refl b R w).setCell (.inl rfl) _
  have hcc := copyCheck_fresh b w (by rw [Lib.cell_of_heap hbk]; rfl) (by simp [World.shape?, hbk]) (Lib.frozen_of_heap hbk 0)
  have c1 : (w.setCell ⟨b, 0, none⟩ (.pointer (some ⟨b, 0, none⟩))).cell? ⟨b, 1, none⟩ = some (.slice none 0 0) := by rw [Lib.cell_of_heap hs2]; rfl
  rw [← hz1] at hR
  generalize w.setCell ⟨b, 0, none⟩ (.pointer (some ⟨b, 0, none⟩)) = w1 at *
  clear hs1 hbk hz1
  have HC := Lib.hid hcc
  clear hcc
  go_enter Tryz.func63, Tryz.ntmps63
  go_wp2_with fail
  refine HC.out.mono ?_
  rintro e w2 ⟨rfl, rfl⟩
  go_wp2_with fail
  go_quiet (fail)
  go_wp2_with fail
  refine (grow_fresh b R n _ hbR (by exact hR) (by exact hs2) hn).mono ?_
  rintro e w2 ⟨rfl, h1, h2⟩
  go_wp2_with fail
  go_end0
  exact ⟨rfl, h1, hk.trans ((Kept.refl b R _).drewN _ |>.trans h2)⟩

set_option maxHeartbeats 2000000 in
set_option maxRecDepth 100000 in
/-- Write appends the bytes that a slice holds. -/
theorem Write_used (b R m c : Nat) (bs news : List Value) (ad : Addr) (w : World) (hbR : b < R) (hR : R ≤ w.heap.size) (h : Bd w b R bs) (hl : news.length = m)
    (hnews : ∀ j u, news[j]? = some u → w.cell? (ad.add j) = some u) (h1 : ∀ u ∈ news, u.oneCell' = true) (hlen : bs.length + m ≤ 1000000000) :
    Calls Tryz.prog 64 #[.pointer (some ⟨b, 0, none⟩), .slice (some ad) m c] w fun e w' => e = .returned (.tuple #[.int .i64 m, .nilIface]) ∧ Bd w' b R (bs ++ news) ∧ Kept b R w w' := by
  obtain ⟨i0, hi, hz0, hz1, hz2⟩ := info_parts info5
  obtain ⟨v, hbk, hown⟩ := h
  have c0 : w.cell? ⟨b, 0, none⟩ = some (.pointer (some ⟨b, 0, none⟩)) := by rw [Lib.cell_of_heap hbk]; rfl
  have c1 : w.cell? ⟨b, 1, none⟩ = some v := by rw [Lib.cell_of_heap hbk]; rfl
  have hlt : b < w.heap.size := by omega
  go_enter Tryz.func64, Tryz.ntmps64
  go_wp2_with fail
  refine (copyCheck_used b w c0).mono ?_
  rintro e w1 ⟨rfl, rfl⟩
  go_wp2_with (at_builtin; refine wpList_append_own _ rfl _ _ 79 rfl R 5 i0 (.int .u8 0) 1 1 Tryz.underlying79 hi hz0 hz1 hz2 rfl (by decide) _ _ _ rfl hown ad m c news rfl (by omega) hnews h1 ?c3 ?c4 ?c5 ?_)
  case c3 => unfold maxLen; omega
  case c4 => omega
  case c5 => exact hR
  intro v' w2 hown' hgrow _
  have hrow := hown.lt
  have hb2 : w2.heap[b]? = some (.cells #[.pointer (some ⟨b, 0, none⟩), v] 81 (0, 0)) := by
    rw [hgrow.block b hlt (fun e => by have := hrow b e.symm; omega)]
    exact hbk
  have d1 : w2.cell? ⟨b, 1, none⟩ = some v := by rw [Lib.cell_of_heap hb2]; rfl
  have f1 : w2.frozen? ⟨b, 1, none⟩ = false := Lib.frozen_of_heap hb2 1
  have hk2 : Kept b R w w2 := (Kept.refl b R w).grown hgrow hR (fun k hk => (hrow k hk).1)
  obtain ⟨ao, n', cap, rfl⟩ : ∃ ao n' cap, v' = .slice ao n' cap := by
    rcases hown'.2 with ⟨hv, _⟩ | ⟨g, cap, cur, hv, _⟩
    · exact ⟨_, _, _, hv⟩
    · exact ⟨_, _, _, hv⟩
  have hb3 := heap_setCell_same w2 b 1 _ _ (.slice ao n' cap) hb2
  have hrow' := hown'.lt
  have hown3 : (w2.setCell ⟨b, 1, none⟩ (.slice ao n' cap)).ownsRow R 5 1 (.slice ao n' cap) (bs ++ news).length (bs ++ news) := by
    rw [List.length_append, hl]
    exact ownsRow_setCell_below hown' (by show b < R; exact hbR) _
  have HF := Lib.hid (show Bd (w2.setCell ⟨b, 1, none⟩ (.slice ao n' cap)) b R (bs ++ news) ∧ Kept b R w (w2.setCell ⟨b, 1, none⟩ (.slice ao n' cap)) from ⟨⟨.slice ao n' cap, hb3, hown3⟩, hk2.setCell (.inl rfl) _⟩)
  clear hown hown' hown3 hb2 hb3 hbk hgrow hrow hrow' hk2
  go_wp2_with fail
  go_ret2
  exact ⟨rfl, HF.out⟩

set_option maxHeartbeats 400000 in
/-- String returns what the builder holds. -/
theorem String_used (b R : Nat) (l : List UInt8) (w : World) (hbR : b < R) (hbw : b < w.heap.size) (h : Bd w b R (Lib.byteCells l)) :
    Calls Tryz.prog 66 #[.pointer (some ⟨b, 0, none⟩)] w fun e w' => e = .returned (.string ⟨l.toArray⟩) ∧ Below b w w' := by
  obtain ⟨v, hbk, hown⟩ := h
  refine Tryz.Builder_String_any b b l w (.inr ⟨Nat.le_refl _, v, hbk, ?_, ?_⟩) (Nat.le_of_lt hbw)
  · refine ⟨hown.1, ?_⟩
    rcases hown.2 with h' | ⟨g, cap, cur, rfl, hbg, rest⟩
    · exact .inl h'
    · exact .inr ⟨g, cap, cur, rfl, by omega, rest⟩
  · intro e
    have := (hown.lt b e).1
    omega

end Go.Proofs.YtiocehlefpbbhaaGreatDoor
