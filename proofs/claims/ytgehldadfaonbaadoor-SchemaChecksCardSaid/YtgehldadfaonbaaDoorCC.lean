/-
  The reference's Copy, walked.
-/
import Derived.Test.YtgehldadfaonbaaDoorCB
namespace Go.Proofs.YtgehldadfaonbaaDoor
open Go.RowKit Go.Shelf Go.ChangeMaps Go.Maps

/-- The result's store. -/
abbrev fourW (W : World) (b : Nat) (s' : Sch) : World := (((W.setCell ⟨b, 0, none⟩ (.string s'.name)).setCell ⟨b, 1, none⟩ (.bool s'.pub)).setCell ⟨b, 2, none⟩ (.int .i64 s'.many)).setCell ⟨b, 3, none⟩ (.slice s'.ca s'.cols.length s'.cc)
theorem cp_done {w : World} {s : Sch} {b1 k : Nat} {s' : Sch} {W : World} (h : CpJ w s b1 k s' W) : COwn (fourW W (b1 + 1) s') w.heap.size s' ∧ Below w.heap.size w (fourW W (b1 + 1) s') ∧ (fourW W (b1 + 1) s').heap[b1 + 1]? = some (.cells s'.cells 24 (0, 0)) := by
  have hlo : w.heap.size ≤ b1 + 1 := by have := h.lo; omega
  have hc : Ch (fun j => j = b1 + 1) W (fourW W (b1 + 1) s') := by
    have f : ∀ (U : World) j v, Ch (fun i => i = b1 + 1) U (U.setCell ⟨b1 + 1, j, none⟩ v) := fun U j v => Ch.setCell (fun i => i = b1 + 1) U v rfl
    exact (((f _ _ _).trans (f _ _ _)).trans (f _ _ _)).trans (f _ _ _)
  have hty : ∀ (t : TypeId) g cur, t ≠ 24 → W.heap[g]? = some (.cells cur t (0, 0)) → ¬ g = b1 + 1 := fun t g cur ht hg e => by
    subst e
    have := h.at2
    unfold SchAt at this
    rw [this] at hg
    injection hg with hg
    injection hg with _ e2 _
    exact ht e2.symm
  refine ⟨h.own.ch hc (fun g cur hg => hty _ g cur (by decide) hg) (fun g cur hg _ => hty _ g cur (by decide) hg), (((h.bl.setCell hlo _).setCell hlo _).setCell hlo _).setCell hlo _, ?_⟩
  have e0 := heap_setCell_same W (b1 + 1) 0 _ _ (.string s'.name) h.at2
  have e1 := heap_setCell_same _ (b1 + 1) 1 _ _ (.bool s'.pub) e0
  have e2 := heap_setCell_same _ (b1 + 1) 2 _ _ (.int .i64 s'.many) e1
  exact heap_setCell_same _ (b1 + 1) 3 _ _ (.slice s'.ca s'.cols.length s'.cc) e2

/-- What Copy gives. -/
def CopyP (w : World) (s : Sch) (e : Ending) (w' : World) : Prop := ∃ s' : Sch, e = .returned (.agg s'.cells) ∧ SameS s s' ∧ COwn w' w.heap.size s' ∧ ColsOk w' s'.cols ∧ Below w.heap.size w w'

set_option maxHeartbeats 6400000 in
set_option maxRecDepth 100000 in
theorem rcopy_any {w : World} {s : Sch} (hC : CL w s.ca s.cols) (hO : ColsOk w s.cols) (hc : SchCap s) (h100 : s.cols.length ≤ 100) (hw : ∀ j, j < s.cols.length → (s.cols.getD j default).ws.length ≤ 100) :
    Calls Tryd.prog 12 #[.agg s.cells] w (CopyP w s) := by
  obtain ⟨i0, hi, hz0, hz1, hz2⟩ := info_parts infoK
  obtain ⟨j0, hj, hy0, hy1, hy2⟩ := info_parts infoC
  go_enter Tryd.func12, Tryd.ntmps12
  go_wp2_with fail
  obtain ⟨A, hA⟩ : ∃ A, A = w.alloc (.cells #[.string s.name, .bool s.pub, .int .i64 s.many, .slice none 0 0] 24) := ⟨_, rfl⟩
  obtain ⟨V, hV⟩ : ∃ V, V = A.alloc (.cells #[.string ⟨#[]⟩, .bool false, .int .i64 0, .slice none 0 0] 24) := ⟨_, rfl⟩
  have sA : A.heap.size = w.heap.size + 1 := by rw [hA]; simp
  have hwA : Below w.heap.size w A := by rw [hA]; exact (Below.refl _ _).alloc (Nat.le_refl _) _
  have hAV : Below A.heap.size A V := by rw [hV]; exact (Below.refl _ _).alloc (Nat.le_refl _) _
  have hwV := hwA.trans (hAV.mono hwA.size)
  have HJ0 := Lib.hid (show CpJ w s w.heap.size 0 ⟨s.name, s.pub, s.many, none, 0, []⟩ V from ⟨hwV, Nat.le_refl _, rfl, rfl, rfl, rfl, rfl, ⟨World.ownsRow_nil _ _ _ _, fun j hj => absurd hj (Nat.not_lt_zero _)⟩,
    SchAt.below (w := A) (by rw [hA]; exact heap_alloc_new w _) hAV, by rw [hV, ← sA]; exact heap_alloc_new A _⟩)
  rw [← hA, ← hV]
  have HX := Lib.hid (And.intro hC (And.intro hO (And.intro hc hw)))
  clear hC hO hc hw hwA hAV hwV sA hV hA
  obtain ⟨N, hN⟩ : ∃ N, N = s.cols.length := ⟨_, rfl⟩
  have HN := Lib.hid hN
  rw [← hN]
  rw [← hN] at h100
  obtain ⟨b1, hb1⟩ : ∃ b1, b1 = w.heap.size := ⟨_, rfl⟩
  rw [show CpJ w s w.heap.size 0 ⟨s.name, s.pub, s.many, none, 0, []⟩ V = CpJ w s b1 0 ⟨s.name, s.pub, s.many, none, 0, []⟩ V by rw [hb1]] at HJ0
  have HB1 := Lib.hid hb1
  rw [← hb1]
  clear hN hb1
  go_loopw [4] (fun i wr => ∃ (k : Nat) (s' : Sch), k ≤ N ∧ i = .int .i64 (k : Int) ∧ Hid (CpJ w s b1 k s' wr)) (fun i _ => N - (intOf i).toNat)
  case atStart => exact ⟨0, ⟨s.name, s.pub, s.many, none, 0, []⟩, Nat.zero_le _, rfl, HJ0⟩
  case round =>
    obtain ⟨k, s', hk, rfl, HJ⟩ := hrel
    clear HJ0
    by_cases hlt : k < N
    · have hlt2 : k < s.cols.length := by rw [← HN.out]; exact hlt
      obtain ⟨ad, ea, c0, c1, c2, c3⟩ := (HX.out.1.below HJ.out.bl).at (j := k) hlt2
      have hok := (HX.out.2.1 k hlt2)
      have hcap := HX.out.2.2.1.cols k hlt2
      have hw1 := HX.out.2.2.2 k hlt2
      obtain ⟨c, hc⟩ : ∃ c, c = s.cols.getD k default := ⟨_, rfl⟩
      rw [← hc] at c0 c1 c2 c3 hok hcap hw1
      have HCC := Lib.hid hc
      rw [ea]
      have HT := Lib.hid (show TL ((wr.alloc (.cells c.cells 44)).alloc (.cells #[] 9)) c.wa c.ws from (hok.words.below HJ.out.bl).below (((Below.refl _ _).alloc (Nat.le_refl _) _).alloc (by simp) _))
      have HR := Lib.hid (show ((wr.alloc (.cells c.cells 44)).alloc (.cells #[] 9)).ownsRow w.heap.size 9 1 (.slice (some ⟨wr.heap.size + 1, 0, none⟩) 0 0) 0 [] by
        have := World.ownsRow_lit (e := 9) (size := 1) (wr.alloc (.cells c.cells 44)) #[] 0 (base := w.heap.size) (by have := HJ.out.bl.size; simp; omega) (by unfold maxLen; omega) rfl
        rwa [World.size_alloc] at this)
      have HNN := Lib.hid (none_nil hcap.le hcap.none)
      obtain ⟨m, hm⟩ : ∃ m, m = c.ws.length := ⟨_, rfl⟩
      have HM := Lib.hid hm
      rw [← hm] at hw1 c3 HNN
      have hsz : w.heap.size ≤ wr.heap.size := HJ.out.bl.size
      have HU := Lib.hid (show wr.alloc (.cells c.cells 44) = wr.alloc (.cells #[.string c.name, .int .i64 c.lo, .int .i64 c.hi, .slice c.wa m c.wc] 44) by rw [hm])
      rw [HU.out] at HT HR
      clear hok hcap hc hm hlt2
      go_wp2_with (at_builtin; refine wpList_append_rowL rfl _ _ 41 rfl w.heap.size 9 i0 (.string ⟨#[]⟩) 1 16 Tryd.underlying41 hi hz0 hz1 hz2 rfl (by decide) _ _ _ rfl HR.out c.wa m c.wc (c.ws.map Value.string) rfl ?c1 ?c2 ?c6 (words_one c.ws) ?c3 ?c4 ?c5 ?_)
      case c1 => rw [List.length_map, ← HM.out]; omega
      case c2 => exact HT.out.news
      case c6 => exact HNN.out
      case c3 => unfold maxLen; omega
      case c4 => omega
      case c5 => simp; omega
      intro v' w3 hown hg hat
      obtain ⟨a', c', rfl, _⟩ := own_slice hown
      have hg2 : ((wr.alloc (.cells c.cells 44)).alloc (.cells #[] 9)).grownBy w3 (some (wr.heap.size + 1)) := by rw [HU.out]; exact hg
      rw [HM.out] at hown
      obtain ⟨h3, hJ4, hat4, hW4⟩ := cp_mid HJ.out hown hg2
      have e3 := cell_of_row w3 wr.heap.size 3 _ _ _ h3
      have z3 := frozen_of_row w3 wr.heap.size 3 _ _ h3
      have HI := Lib.hid (And.intro hJ4 (And.intro hat4 hW4))
      clear hown hg hat hg2 HJ HR HT hJ4 hat4 hW4 h3 c0 c1 c2 c3 HNN HU
      rw [show (Value.slice a' m c') = Value.slice a' c.ws.length c' by rw [HM.out]]
      go_upto_region 8 with fail
      obtain ⟨W, hW⟩ : ∃ W, W = w3.setCell ⟨wr.heap.size, 3, none⟩ (.slice a' c.ws.length c') := ⟨_, rfl⟩
      rw [← hW] at HI
      rw [← hW]
      clear hW e3 z3
      have d3 := HI.out.1.at1.c3
      rw [HI.out.1.len] at d3
      have e0 := HI.out.2.1.c0
      have e1 := HI.out.2.1.c1
      have e2 := HI.out.2.1.c2
      have e3 := HI.out.2.1.c3
      have HR := Lib.hid (show (W.alloc (.cells #[.string c.name, .int .i64 c.lo, .int .i64 c.hi, .slice a' c.ws.length c'] 44)).ownsRow w.heap.size 44 4 (.slice s'.ca k s'.cc) k (flat s'.cols) by
        have := HI.out.1.own.row
        rw [HI.out.1.len] at this
        exact this.alloc _)
      have hszW : w.heap.size ≤ W.heap.size := HI.out.1.bl.size
      go_wp2_with (at_builtin; refine wpList_append_rowL rfl _ _ 22 rfl w.heap.size 44 j0 (.agg #[.string ⟨#[]⟩, .int .i64 0, .int .i64 0, .slice none 0 0]) 4 56 Tryd.underlying22 hj hy0 hy1 hy2 rfl (by decide) _ _ _ rfl HR.out (some ⟨W.heap.size, 0, none⟩) 1 1 [.string c.name, .int .i64 c.lo, .int .i64 c.hi, .slice a' c.ws.length c'] rfl rfl (fun ad' ha => by obtain rfl := Option.some.inj ha; exact World.news_of_block (heap_alloc_new W _)) (fun h => by cases h) ?d7 ?d3 ?d4 ?d5 ?_)
      case d7 => exact ⟨rfl, rfl, rfl, rfl⟩
      case d3 => unfold maxLen; omega
      case d4 => omega
      case d5 => omega
      intro v'' w6 hown hg hat
      obtain ⟨a'', c'', rfl, _⟩ := own_slice hown
      obtain ⟨hb6, hJ7⟩ := cp_end (c := c) (c' := ⟨c.name, c.lo, c.hi, a', c', c.ws⟩) HI.out.1 (by rw [← HN.out]; exact hlt) HCC.out.symm rfl HI.out.2.2 hown hg
      have f3 := cell_of_row w6 b1 3 _ _ _ hb6
      have y3 := frozen_of_row w6 b1 3 _ _ hb6
      have HJ2 := Lib.hid hJ7
      clear hown hg hat HI HR hb6 hJ7 d3 e0 e1 e2 e3 hszW hsz
      go_wp2_with fail
      go_roundw
      case rel => exact ⟨k + 1, _, by omega, by go_num, HJ2⟩
      case measure => simp [intOf]; omega
    · obtain rfl : N = k := by omega
      have d0 := HJ.out.at1.c0
      have d1 := HJ.out.at1.c1
      have d2 := HJ.out.at1.c2
      have d3 := HJ.out.at1.c3
      have f0 := HJ.out.at2.c0
      have f1 := HJ.out.at2.c1
      have f2 := HJ.out.at2.c2
      have f3 := HJ.out.at2.c3
      have y : ∀ j, wr.frozen? ⟨b1 + 1, j, none⟩ = false := fun j => frozen_of_row wr (b1 + 1) j _ _ HJ.out.at2
      have y0 := y 0
      have y1 := y 1
      have y2 := y 2
      have y3 := y 3
      have HD := Lib.hid (cp_done HJ.out)
      have HE := Lib.hid (show SameS s s' from ⟨HJ.out.nm, HJ.out.pb, HJ.out.mn, by rw [HJ.out.er, HN.out, List.take_length]⟩)
      have HO := Lib.hid (HD.out.1.ok HE.out.2.2.2 HX.out.2.1)
      clear HJ y
      go_wp2_with fail
      have hH := HD.out.2.2
      unfold fourW at hH HD HO
      have g0 := cell_of_row _ (b1 + 1) 0 _ _ _ hH
      have g1 := cell_of_row _ (b1 + 1) 1 _ _ _ hH
      have g2 := cell_of_row _ (b1 + 1) 2 _ _ _ hH
      have g3 := cell_of_row _ (b1 + 1) 3 _ _ _ hH
      exact bodyPost_ret (v := .agg s'.cells) (by simp [results, Tryd.results12, go_sem, g0, g1, g2, g3]) rfl ⟨s', rfl, HE.out, HD.out.1, HO.out, HD.out.2.1⟩

end Go.Proofs.YtgehldadfaonbaaDoor
