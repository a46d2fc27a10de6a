/-
  The writer's WriteString, and its text where nothing has been written.
-/
import Derived.Test.YtpkbppfgmpcpcaaGreatDoorB13
namespace Go.Proofs.YtpkbppfgmpcpcaaGreatDoor
open Go.RowKit NV
open Go.Lib (decDigits)

/-- A writer without bits has no row. -/
def WrZ (b : Nat) (bs : List Value) (w : World) : Prop := bs = [] → ∃ p, w.heap[b]? = some (.cells #[p, .slice none 0 0] 93 (0, 0))
theorem WrZ.new (w : World) : WrZ w.heap.size [] (w.alloc (.cells #[.pointer none, .slice none 0 0] 93)) := fun _ => ⟨_, heap_alloc_new w _⟩
theorem WrZ.below {b : Nat} {bs : List Value} {w W : World} (h : WrZ b bs w) {B : Nat} (hw : Below B w W) (hb : b < B) : WrZ b bs W := fun e => by
  obtain ⟨p, hp⟩ := h e
  exact ⟨p, (hw.block b hb).trans hp⟩

set_option maxHeartbeats 2000000 in
set_option maxRecDepth 100000 in
theorem wcheck2 (B b : Nat) (bs : List Value) (w : World) (h : Wr B b bs w) (hz : WrZ b bs w) :
    Calls Tryz.prog 190 #[.pointer (some ⟨b, 0, none⟩)] w fun e w' => e = .returned (.tuple #[]) ∧ WrU B b bs w' ∧ WrZ b bs w' ∧ Below B w w' := by
  rcases h with h | h
  · refine (wcheck_fresh b w h.cell0 h.shape ?_).mono ?_
    · obtain ⟨_, v, hb, _⟩ := h
      exact Lib.frozen_of_heap hb 0
    · rintro e w' ⟨rfl, rfl⟩
      refine ⟨rfl, h.used _, ?_, (Below.refl B w).setCell (p := ⟨b, 0, none⟩) h.1 _⟩
      intro e
      obtain ⟨p, hp⟩ := hz e
      exact ⟨_, heap_setCell_same w b 0 _ _ _ hp⟩
  · refine (copyCheck_used b w h.cell0).mono ?_
    rintro e w' ⟨rfl, rfl⟩
    exact ⟨rfl, h, hz, Below.refl B w⟩

set_option maxHeartbeats 2000000 in
set_option maxRecDepth 100000 in
theorem WriteString_w (B b : Nat) (bs : List Value) (s : ByteArray) (w : World) (h : Wr B b bs w) (hz : WrZ b bs w) (hlen : bs.length + s.size ≤ 140737488355328) (hBw : B ≤ w.heap.size) :
    Calls Tryz.prog 110 #[.pointer (some ⟨b, 0, none⟩), .string s] w fun e w' => e = .returned (.tuple #[.int .i64 s.size, .nilIface]) ∧ WrU B b (bs ++ Lib.strCells s) w' ∧ WrZ b (bs ++ Lib.strCells s) w' ∧ Below B w w' := by
  obtain ⟨i0, hi, hz0, hz1, hz2⟩ := info_parts info5
  go_enter Tryz.func110, Tryz.ntmps110
  go_wp2_with fail
  refine (wcheck2 B b bs w h hz).mono ?_
  rintro e w1 ⟨rfl, h1, hzz, hb1⟩
  obtain ⟨hB, v, hbk, hown, hne⟩ := h1
  have c0 : w1.cell? ⟨b, 0, none⟩ = some (.pointer (some ⟨b, 0, none⟩)) := by rw [Lib.cell_of_heap hbk]; rfl
  have c1 : w1.cell? ⟨b, 1, none⟩ = some v := by rw [Lib.cell_of_heap hbk]; rfl
  have hzv : bs = [] → v = .slice none 0 0 := fun e => by
    obtain ⟨p, hp⟩ := hzz e
    rw [hbk] at hp
    simp at hp
    exact hp.2
  go_wp2_with (at_builtin; refine Lib.wpList_append_own_string _ rfl _ _ 24 9 rfl B 5 i0 Tryz.underlying24 Tryz.underlying9 hi hz0 hz1 hz2 _ _ _ rfl hown s rfl ?c3 ?c4 ?c5 ?_)
  case c3 => unfold maxLen; omega
  case c4 => omega
  case c5 => have := hb1.size; omega
  intro v' w2 hown' hgrow hnil
  have hlt : b < w1.heap.size := (Array.getElem?_eq_some_iff.1 hbk).1
  have hb2 : w2.heap[b]? = some (.cells #[.pointer (some ⟨b, 0, none⟩), v] 93 (0, 0)) := by
    rw [hgrow.block b hlt (fun e => hne e.symm)]
    exact hbk
  have d0 : w2.cell? ⟨b, 0, none⟩ = some (.pointer (some ⟨b, 0, none⟩)) := by rw [Lib.cell_of_heap hb2]; rfl
  have d1 : w2.cell? ⟨b, 1, none⟩ = some v := by rw [Lib.cell_of_heap hb2]; rfl
  have f1 : w2.frozen? ⟨b, 1, none⟩ = false := Lib.frozen_of_heap hb2 1
  have hzn : bs ++ Lib.strCells s = [] → v' = .slice none 0 0 := fun e => by
    obtain ⟨e1, e2⟩ := List.append_eq_nil_iff.1 e
    refine hnil.2 ⟨hzv e1, ?_⟩
    have hs0 : s.size = 0 := by rw [← Lib.strCells_length, e2]; rfl
    first | exact hs0 | exact ByteArray.size_eq_zero_iff.1 hs0
  obtain ⟨ao, n', cap, rfl⟩ : ∃ ao n' cap, v' = .slice ao n' cap := by
    rcases hown'.2 with ⟨hv, _⟩ | ⟨g, cap, cur, hv, _⟩
    · exact ⟨_, _, _, hv⟩
    · exact ⟨_, _, _, hv⟩
  have hF := Lib.BuilderAt.put (T := 93) (e := 5) hB hb2 (bs' := bs ++ Lib.strCells s) (by simpa [Lib.strCells_length] using hown') (by decide)
  have hrow := hown.lt
  have hbel : Below B w (w2.setCell ⟨b, 1, none⟩ (.slice ao n' cap)) := by
    refine Below.setCell (p := ⟨b, 1, none⟩) (hb1.grown hgrow (by have := hb1.size; omega) (fun k hk => (hrow k hk).1)) hB _
  have hz3 : WrZ b (bs ++ Lib.strCells s) (w2.setCell ⟨b, 1, none⟩ (.slice ao n' cap)) := fun e => by
    rw [hzn e]
    exact ⟨_, heap_setCell_same w2 b 1 _ _ _ hb2⟩
  have HF := Lib.hid (And.intro hF (And.intro hz3 hbel))
  clear hF hbel hown hown' hgrow hbk hb2 hrow hzz hz hzv hzn hnil hz3 h
  go_wp2_with fail
  go_ret2
  exact ⟨rfl, HF.out.1, HF.out.2.1, HF.out.2.2⟩

set_option maxHeartbeats 2000000 in
set_option maxRecDepth 100000 in
/-- String of a writer that has no row. -/
theorem String_nil (B b : Nat) (p : Value) (w : World) (hbk : w.heap[b]? = some (.cells #[p, .slice none 0 0] 93 (0, 0))) :
    Calls Tryz.prog 186 #[.pointer (some ⟨b, 0, none⟩)] w fun e w' => e = .returned (.string ⟨#[]⟩) ∧ Below B w w' := by
  have c1 : w.drew.cell? ⟨b, 1, none⟩ = some (.slice none 0 0) := by
    have : w.drew.heap[b]? = _ := hbk
    rw [Lib.cell_of_heap this]; rfl
  have hSD : (Builtin.unsafeSliceData_ #[24] 268 #[.slice none 0 0]).run Tryz.prog w.drew = .ok (.pointer none) w.drew := rfl
  have hUS : (Builtin.unsafeString_ #[268, 3] 9 #[.pointer none, .int .i64 0]).run Tryz.prog w.drew = .ok (.string .empty) w.drew := Lib.run_unsafeString_none w.drew _ _ _ _
  clear hbk
  go_enter Tryz.func186, Tryz.ntmps186
  go_wp2
  go_region
  all_goals (go_wp2; go_ret; exact ⟨rfl, (Below.refl _ w).drew⟩)

set_option maxHeartbeats 800000 in
/-- text of a writer that WriteString has written. -/
theorem text_z (B b : Nat) (l : List UInt8) (w : World) (h : Wr B b (Lib.byteCells l) w) (hz : WrZ b (Lib.byteCells l) w) :
    Calls Tryz.prog 100 #[.pointer (some ⟨b, 0, none⟩)] w fun e w' => e = .returned (.string ⟨l.toArray⟩) ∧ Below B w w' := by
  by_cases h0 : l = []
  · subst h0
    obtain ⟨p, hp⟩ := hz rfl
    have HS := Lib.hid (String_nil B b p w hp)
    have c0 : w.cell? ⟨b, 0, none⟩ = some p := by rw [Lib.cell_of_heap hp]; rfl
    clear h hz hp
    go_enter Tryz.func100, Tryz.ntmps100
    go_wp2_with fail
    refine HS.out.mono ?_
    rintro e w1 ⟨rfl, hb⟩
    have HB := Lib.hid hb
    clear hb HS
    go_wp2_with fail
    go_ret
    exact ⟨rfl, HB.out⟩
  · exact text_w B b l w h h0

end Go.Proofs.YtpkbppfgmpcpcaaGreatDoor
