/-
  PickNames returns true.
-/
import Derived.Test.YtgnmhijffppkoaaGreatDoorE24
namespace Go.Proofs.YtgnmhijffppkoaaGreatDoor
open Go.RowKit NV
open Go.Lib (decDigits)

/-- A list of texts in block g. -/
def NB (w : World) (g : Nat) (l : Array Value) : Prop := w.heap[g]? = some (.cells l 23 (0, 0))
theorem NB.below {w w1 : World} {g : Nat} {l : Array Value} (h : NB w g l) (hb : Below w.heap.size w w1) : NB w1 g l := (hb.block g (Array.getElem?_eq_some_iff.1 h).1).trans h
theorem lit_size {l : List ByteArray} (h : ∀ s, s ∈ l → s.size ≤ 1000) : ∀ j, j < l.length → (lF l j).size ≤ 140737488351232 := fun j hj => by
  have e : lF l j = l[j] := by unfold lF; simp [hj]
  have := h _ (List.getElem_mem hj)
  rw [e]; omega

set_option maxHeartbeats 12800000 in
set_option maxRecDepth 100000 in
theorem pickNames_any (w : World) (htab : Tab w) : Calls Tryz.prog 5 #[] w fun e w' => e = .returned (.bool true) ∧ Below w.heap.size w w' := by
  have HL := Lib.hid (lives5_any w htab)
  obtain ⟨i0, hi, hz0, hz1, hz2⟩ := info_parts infoNum
  obtain ⟨T, hTl, hTw⟩ : ∃ T : ByteArray, T.data.toList = List.replicate 3800 (48 : UInt8) ∧ ∀ W, Calls Tryz.prog 42 #[.string ⟨#[48]⟩, .int .i64 3800] W fun e w1 => e = .returned (.string T) ∧ Below W.heap.size W w1 := ⟨_, by simp, fun W => times_oneP 48 3800 (by omega) W⟩
  have hTs : T.size = 3800 := by rw [Go.Lib.size_eq, hTl, List.length_replicate]
  have HTS := Lib.hid hTs
  have H1 := Lib.hid (show ∀ W, Below w.heap.size w W → ∀ g, NB W g #[.string ⟨#[49]⟩, .string ⟨#[50]⟩, .string ⟨#[49]⟩] → PDraws (some ⟨g, 0, none⟩) 3 3 ⟨#[48, 48]⟩ true 0 2 0 W from fun W h g hg => pDraw_ok (cap := 3) (b := ⟨#[48, 48]⟩) (d := true) (v := 0) (u := 2) (PRow.lit (l := [1, 2, 1].map dstr) (by rw [c121]; exact hg)) w121.1 (htab.below h) (bits_litP (by decide)) (by decide) (pick_congr w121.2 (by decide)))
  have H2 := Lib.hid (show ∀ W, Below w.heap.size w W → ∀ g, NB W g #[.string ⟨#[49]⟩, .string ⟨#[50]⟩, .string ⟨#[49]⟩] → PDraws (some ⟨g, 0, none⟩) 3 3 ⟨#[49]⟩ false 0 1 0 W from fun W h g hg => pDraw_ok (cap := 3) (b := ⟨#[49]⟩) (d := false) (v := 0) (u := 1) (PRow.lit (l := [1, 2, 1].map dstr) (by rw [c121]; exact hg)) w121.1 (htab.below h) (bits_litP (by decide)) (by decide) (pick_congr w121.2 (by decide)))
  have H3 := Lib.hid (show ∀ W, Below w.heap.size w W → ∀ g, NB W g #[.string ⟨#[49]⟩, .string ⟨#[49]⟩, .string ⟨#[49]⟩] → PDraws (some ⟨g, 0, none⟩) 3 3 ⟨#[48, 49, 48]⟩ false 0 3 0 W from fun W h g hg => pDraw_ok (cap := 3) (b := ⟨#[48, 49, 48]⟩) (d := false) (v := 0) (u := 3) (PRow.lit (l := [1, 1, 1].map dstr) (by rw [c111]; exact hg)) w111.1 (htab.below h) (bits_litP (by decide)) (by decide) (pick_congr w111s (by decide)))
  have H4 := Lib.hid (show ∀ W, Below w.heap.size w W → ∀ g, NB W g #[.string ⟨#[48]⟩, .string ⟨#[53]⟩, .string ⟨#[48]⟩] → PDraws (some ⟨g, 0, none⟩) 3 3 ⟨#[]⟩ true 1 0 0 W from fun W h g hg => pDraw_ok (cap := 3) (b := ⟨#[]⟩) (d := true) (v := 1) (u := 0) (PRow.lit (l := [0, 5, 0].map dstr) (by rw [c050]; exact hg)) w050.1 (htab.below h) (bits_litP (by decide)) (by decide) (pick_congr w050s (by decide)))
  have H5 := Lib.hid (show ∀ W, Below w.heap.size w W → ∀ g, NB W g #[.string ⟨#[48]⟩, .string ⟨#[48]⟩] → PDraws (some ⟨g, 0, none⟩) 2 2 ⟨#[49]⟩ false 0 0 6 W from fun W h g hg => by
    have h1 := pDraw_w (cap := 2) (b := ⟨#[49]⟩) (PRow.lit (l := [⟨#[48]⟩, ⟨#[48]⟩]) hg) (lit_size (by decide)) (by rw [show [(⟨#[48]⟩ : ByteArray), ⟨#[48]⟩].length = 2 from rfl, p00]; omega)
    rw [show [(⟨#[48]⟩ : ByteArray), ⟨#[48]⟩].length = 2 from rfl, p00] at h1; exact h1)
  have H6 := Lib.hid (show ∀ W, Below w.heap.size w W → PDraws none 0 0 ⟨#[49]⟩ false 0 0 2 W from fun W h => by
    have h1 := pDraw_w (ao := none) (N := 0) (cap := 0) (f := fun _ => ⟨#[]⟩) (b := ⟨#[49]⟩) (w := W) (.inl rfl) (fun j hj => absurd hj (Nat.not_lt_zero _)) (by rw [pNil]; omega)
    rw [pNil] at h1; exact h1)
  have H7 := Lib.hid (show ∀ W, Below w.heap.size w W → ∀ g, NB W g #[.string ⟨#[49]⟩, .string ⟨#[48, 55]⟩] → PDraws (some ⟨g, 0, none⟩) 2 2 ⟨#[49]⟩ false 0 0 3 W from fun W h g hg => by
    have h1 := pDraw_w (cap := 2) (b := ⟨#[49]⟩) (PRow.lit (l := [⟨#[49]⟩, ⟨#[48, 55]⟩]) hg) (lit_size (by decide)) (by rw [show [(⟨#[49]⟩ : ByteArray), ⟨#[48, 55]⟩].length = 2 from rfl, p107]; omega)
    rw [show [(⟨#[49]⟩ : ByteArray), ⟨#[48, 55]⟩].length = 2 from rfl, p107] at h1; exact h1)
  have H8 := Lib.hid (show ∀ W, Below w.heap.size w W → PBelow 0 ⟨#[49]⟩ false 0 0 2 W from fun W _ => pBelow_far (.inl (by omega)) W)
  have H9 := Lib.hid (show ∀ W, Below w.heap.size w W → PBelow 1000001 ⟨#[49]⟩ false 0 0 2 W from fun W _ => pBelow_far (.inr (by omega)) W)
  have H10 := Lib.hid (show ∀ W, Below w.heap.size w W → PBelow 1 ⟨#[]⟩ true 0 0 0 W from fun W h => pBelow_ok (m := 1) (b := ⟨#[]⟩) (d := true) (v := 0) (u := 0) (by omega) (by omega) (htab.below h) (bits_litP (by decide)) (by decide) (by decide))
  have H11 := Lib.hid (show ∀ W, Below w.heap.size w W → ∀ g, NB W g #[.string ⟨#[49]⟩, .string ⟨#[49]⟩, .string ⟨#[49]⟩] → Calls Tryz.prog 39 #[.slice (some ⟨g, 0, none⟩) 3 3, .int .i64 2] W fun e w1 => e = .returned (.tuple #[.string ⟨#[49, 47, 50]⟩, .int .i64 0]) ∧ Below W.heap.size W w1 from fun W h g hg => by
    have h1 := pLate_ok (cap := 3) (n := 2) (PRow.lit (l := [1, 1, 1].map dstr) (by rw [c111]; exact hg)) w111.1 (by omega) (htab.below h)
    rw [show ([1, 1, 1].map dstr).length = 3 from rfl, late111, q24] at h1; exact h1)
  have H12 := Lib.hid (show ∀ W, Below w.heap.size w W → ∀ g, NB W g #[.string ⟨#[49]⟩, .string ⟨#[49]⟩, .string ⟨#[49]⟩] → Calls Tryz.prog 40 #[.slice (some ⟨g, 0, none⟩) 3 3, .int .i64 2] W fun e w1 => ∃ v, e = .returned (.tuple #[v, .int .i64 0]) ∧ w1.ownsRow W.heap.size 54 2 v 3 (cellsI L111) ∧ Below W.heap.size W w1 from fun W h g hg => by
    have h1 := pLaw_ok (cap := 3) (n := 2) (PRow.lit (l := [1, 1, 1].map dstr) (by rw [c111]; exact hg)) w111.1 (by omega) (htab.below h)
    rw [show ([1, 1, 1].map dstr).length = 3 from rfl, law111, sort111] at h1; exact h1)
  have H13 := Lib.hid (show ∀ W, Below w.heap.size w W → ∀ g, NB W g #[.string ⟨#[49]⟩, .string ⟨#[50]⟩, .string ⟨#[49]⟩] → Calls Tryz.prog 41 #[.slice (some ⟨g, 0, none⟩) 3 3] W fun e w1 => ∃ v, e = .returned (.tuple #[v, .int .i64 0]) ∧ w1.ownsRow W.heap.size 54 2 v 3 (cellsI L121) ∧ Below W.heap.size W w1 from fun W h g hg => by
    have h1 := pExact_ok (cap := 3) (PRow.lit (l := [1, 2, 1].map dstr) (by rw [c121]; exact hg)) w121.1 (htab.below h)
    rw [show ([1, 2, 1].map dstr).length = 3 from rfl, exact121, sort121] at h1; exact h1)
  have H14 := Lib.hid (show ∀ W, Below w.heap.size w W → ∀ g, NArr W g 65 (fun _ => ⟨#[]⟩) → Calls Tryz.prog 40 #[.slice (some ⟨g, 0, none⟩) 65 65, .int .i64 2] W fun e w1 => e = .returned (.tuple #[.slice none 0 0, .int .i64 2]) ∧ Below W.heap.size W w1 from fun W h g hg => by
    have h1 := pLaw_err (cap := 65) (n := 2) hg.prow (fun j _ => by show (ByteArray.mk #[]).size ≤ _; decide) (by rw [cnt_of (p65 _) (by omega)]; omega)
    rw [cnt_of (p65 _) (by omega)] at h1; exact h1)
  have H15a := Lib.hid (show ∀ W, Calls Tryz.prog 42 #[.string ⟨#[48]⟩, .int .i64 3800] W fun e w1 => e = .returned (.string T) ∧ Below W.heap.size W w1 from fun W => hTw W)
  have H15b := Lib.hid (show ∀ W, Below w.heap.size w W → ∀ g, NB W g #[.string ((⟨#[49]⟩ : ByteArray) ++ T)] → Calls Tryz.prog 39 #[.slice (some ⟨g, 0, none⟩) 1 1, .int .i64 2] W fun e w1 => e = .returned (.tuple #[.string ⟨#[]⟩, .int .i64 5]) ∧ Below W.heap.size W w1 from fun W h g hg => by
    have h1 := pLate_err (cap := 1) (n := 2) (PRow.lit (l := [(⟨#[49]⟩ : ByteArray) ++ T]) hg) (fun j hj => by
      match j, hj with
      | 0, _ => show ((⟨#[49]⟩ : ByteArray) ++ T).size ≤ _; rw [ByteArray.size_append, hTs]; decide) (by rw [show [(⟨#[49]⟩ : ByteArray) ++ T].length = 1 from rfl, cnt_of (pTen hTl) (by omega)]; omega)
    rw [show [(⟨#[49]⟩ : ByteArray) ++ T].length = 1 from rfl, cnt_of (pTen hTl) (by omega)] at h1; exact h1)
  have H16 := Lib.hid (show ∀ W, Below w.heap.size w W → ∀ g, NB W g #[.string ⟨#[49]⟩, .string ⟨#[49]⟩, .string ⟨#[49]⟩] → Calls Tryz.prog 39 #[.slice (some ⟨g, 0, none⟩) 3 3, .int .i64 257] W fun e w1 => e = .returned (.tuple #[.string ⟨#[]⟩, .int .i64 2]) ∧ Below W.heap.size W w1 from fun W h g hg => by
    have h1 := pLate_err (cap := 3) (n := 257) (PRow.lit (l := [1, 1, 1].map dstr) (by rw [c111]; exact hg)) w111.1.size (by rw [show ([1, 1, 1].map dstr).length = 3 from rfl, cnt_far (pickE_of w111.1) (.inr (by omega))]; omega)
    rw [show ([1, 1, 1].map dstr).length = 3 from rfl, cnt_far (pickE_of w111.1) (.inr (by omega))] at h1; exact h1)
  have H17 := Lib.hid (show ∀ W, Below w.heap.size w W → ∀ g, NB W g #[.string ⟨#[49]⟩, .string ⟨#[49]⟩, .string ⟨#[49]⟩] → PDraws (some ⟨g, 0, none⟩) 3 3 ⟨#[48, 49, 120]⟩ false 0 0 3 W from fun W h g hg => by
    have h1 := pDraw_b (cap := 3) (b := ⟨#[48, 49, 120]⟩) (PRow.lit (l := [1, 1, 1].map dstr) (by rw [c111]; exact hg)) w111.1 (htab.below h) (by decide) (by decide)
    rw [show schk (⟨#[48, 49, 120]⟩ : ByteArray) = 3 from by decide] at h1; exact h1)
  clear hTl hTw hTs htab
  go_enter Tryz.func5, Tryz.ntmps5
  go_wp2_with fail
  refine HL.out.mono ?_
  rintro e w1 ⟨rfl, hb⟩
  have HB := Lib.hid hb
  clear hb HL
  have HW := Lib.hid (show NB (w1.alloc (.cells #[.string ⟨#[49]⟩, .string ⟨#[49]⟩, .string ⟨#[49]⟩] 23)) w1.heap.size #[.string ⟨#[49]⟩, .string ⟨#[49]⟩, .string ⟨#[49]⟩] from heap_alloc_new w1 _)
  have hw0 := (Below.refl w1.heap.size w1).alloc (Nat.le_refl _) (.cells #[.string ⟨#[49]⟩, .string ⟨#[49]⟩, .string ⟨#[49]⟩] 23)
  replace HB := Lib.hid (HB.out.trans (hw0.mono HB.out.size))
  clear hw0
  have hn := heap_alloc_new (w1.alloc (.cells #[.string ⟨#[49]⟩, .string ⟨#[49]⟩, .string ⟨#[49]⟩] 23)) (.cells #[.string ⟨#[49]⟩, .string ⟨#[50]⟩, .string ⟨#[49]⟩] 23)
  simp only [World.size_alloc] at hn
  have hal := (Below.refl (w1.alloc (.cells #[.string ⟨#[49]⟩, .string ⟨#[49]⟩, .string ⟨#[49]⟩] 23)).heap.size (w1.alloc (.cells #[.string ⟨#[49]⟩, .string ⟨#[49]⟩, .string ⟨#[49]⟩] 23))).alloc (Nat.le_refl _) (.cells #[.string ⟨#[49]⟩, .string ⟨#[50]⟩, .string ⟨#[49]⟩] 23)
  replace HW := Lib.hid (NB.below HW.out hal)
  replace HB := Lib.hid (HB.out.trans (hal.mono HB.out.size))
  have HK := Lib.hid (H1.out _ HB.out _ hn)
  clear H1 hn hal
  go_wp2_with fail
  refine HK.out.mono ?_
  rintro e w2 ⟨rfl, hb⟩
  have hbx := hb.alloc hb.size (drO true 0 2)
  replace HW := Lib.hid (NB.below HW.out hbx)
  replace HB := Lib.hid (HB.out.trans (hbx.mono HB.out.size))
  have HD1 := Lib.hid (DR.new w2 true 0 2)
  clear hb hbx HK
  have hn := heap_alloc_new (w2.alloc (drO true 0 2)) (.cells #[.string ⟨#[49]⟩, .string ⟨#[50]⟩, .string ⟨#[49]⟩] 23)
  simp only [World.size_alloc] at hn
  have hal := (Below.refl (w2.alloc (drO true 0 2)).heap.size (w2.alloc (drO true 0 2))).alloc (Nat.le_refl _) (.cells #[.string ⟨#[49]⟩, .string ⟨#[50]⟩, .string ⟨#[49]⟩] 23)
  replace HW := Lib.hid (NB.below HW.out hal)
  replace HD1 := Lib.hid (DR.below HD1.out hal)
  replace HB := Lib.hid (HB.out.trans (hal.mono HB.out.size))
  have HK := Lib.hid (H2.out _ HB.out _ hn)
  clear H2 hn hal
  go_wp2_with fail
  refine HK.out.mono ?_
  rintro e w3 ⟨rfl, hb⟩
  have hbx := hb.alloc hb.size (drO false 0 1)
  replace HW := Lib.hid (NB.below HW.out hbx)
  replace HD1 := Lib.hid (DR.below HD1.out hbx)
  replace HB := Lib.hid (HB.out.trans (hbx.mono HB.out.size))
  have HD2 := Lib.hid (DR.new w3 false 0 1)
  clear hb hbx HK
  have HK := Lib.hid (H3.out _ HB.out _ HW.out)
  clear H3
  go_wp2_with fail
  refine HK.out.mono ?_
  rintro e w4 ⟨rfl, hb⟩
  have hbx := hb.alloc hb.size (drO false 0 3)
  replace HW := Lib.hid (NB.below HW.out hbx)
  replace HD1 := Lib.hid (DR.below HD1.out hbx)
  replace HD2 := Lib.hid (DR.below HD2.out hbx)
  replace HB := Lib.hid (HB.out.trans (hbx.mono HB.out.size))
  have HD3 := Lib.hid (DR.new w4 false 0 3)
  clear hb hbx HK
  have hn := heap_alloc_new (w4.alloc (drO false 0 3)) (.cells #[.string ⟨#[48]⟩, .string ⟨#[53]⟩, .string ⟨#[48]⟩] 23)
  simp only [World.size_alloc] at hn
  have hal := (Below.refl (w4.alloc (drO false 0 3)).heap.size (w4.alloc (drO false 0 3))).alloc (Nat.le_refl _) (.cells #[.string ⟨#[48]⟩, .string ⟨#[53]⟩, .string ⟨#[48]⟩] 23)
  replace HW := Lib.hid (NB.below HW.out hal)
  replace HD1 := Lib.hid (DR.below HD1.out hal)
  replace HD2 := Lib.hid (DR.below HD2.out hal)
  replace HD3 := Lib.hid (DR.below HD3.out hal)
  replace HB := Lib.hid (HB.out.trans (hal.mono HB.out.size))
  have HK := Lib.hid (H4.out _ HB.out _ hn)
  clear H4 hn hal
  go_wp2_with fail
  refine HK.out.mono ?_
  rintro e w5 ⟨rfl, hb⟩
  have hbx := hb.alloc hb.size (drO true 1 0)
  replace HW := Lib.hid (NB.below HW.out hbx)
  replace HD1 := Lib.hid (DR.below HD1.out hbx)
  replace HD2 := Lib.hid (DR.below HD2.out hbx)
  replace HD3 := Lib.hid (DR.below HD3.out hbx)
  replace HB := Lib.hid (HB.out.trans (hbx.mono HB.out.size))
  have HD4 := Lib.hid (DR.new w5 true 1 0)
  clear hb hbx HK
  have hn := heap_alloc_new (w5.alloc (drO true 1 0)) (.cells #[.string ⟨#[48]⟩, .string ⟨#[48]⟩] 23)
  simp only [World.size_alloc] at hn
  have hal := (Below.refl (w5.alloc (drO true 1 0)).heap.size (w5.alloc (drO true 1 0))).alloc (Nat.le_refl _) (.cells #[.string ⟨#[48]⟩, .string ⟨#[48]⟩] 23)
  replace HW := Lib.hid (NB.below HW.out hal)
  replace HD1 := Lib.hid (DR.below HD1.out hal)
  replace HD2 := Lib.hid (DR.below HD2.out hal)
  replace HD3 := Lib.hid (DR.below HD3.out hal)
  replace HD4 := Lib.hid (DR.below HD4.out hal)
  replace HB := Lib.hid (HB.out.trans (hal.mono HB.out.size))
  have HK := Lib.hid (H5.out _ HB.out _ hn)
  clear H5 hn hal
  go_wp2_with fail
  refine HK.out.mono ?_
  rintro e w6 ⟨rfl, hb⟩
  have hbx := hb.alloc hb.size (drO false 0 0)
  replace HW := Lib.hid (NB.below HW.out hbx)
  replace HD1 := Lib.hid (DR.below HD1.out hbx)
  replace HD2 := Lib.hid (DR.below HD2.out hbx)
  replace HD3 := Lib.hid (DR.below HD3.out hbx)
  replace HD4 := Lib.hid (DR.below HD4.out hbx)
  replace HB := Lib.hid (HB.out.trans (hbx.mono HB.out.size))
  clear hb hbx HK
  have HK := Lib.hid (H6.out _ HB.out)
  clear H6
  go_wp2_with fail
  refine HK.out.mono ?_
  rintro e w7 ⟨rfl, hb⟩
  have hbx := hb.alloc hb.size (drO false 0 0)
  replace HW := Lib.hid (NB.below HW.out hbx)
  replace HD1 := Lib.hid (DR.below HD1.out hbx)
  replace HD2 := Lib.hid (DR.below HD2.out hbx)
  replace HD3 := Lib.hid (DR.below HD3.out hbx)
  replace HD4 := Lib.hid (DR.below HD4.out hbx)
  replace HB := Lib.hid (HB.out.trans (hbx.mono HB.out.size))
  clear hb hbx HK
  have hn := heap_alloc_new (w7.alloc (drO false 0 0)) (.cells #[.string ⟨#[49]⟩, .string ⟨#[48, 55]⟩] 23)
  simp only [World.size_alloc] at hn
  have hal := (Below.refl (w7.alloc (drO false 0 0)).heap.size (w7.alloc (drO false 0 0))).alloc (Nat.le_refl _) (.cells #[.string ⟨#[49]⟩, .string ⟨#[48, 55]⟩] 23)
  replace HW := Lib.hid (NB.below HW.out hal)
  replace HD1 := Lib.hid (DR.below HD1.out hal)
  replace HD2 := Lib.hid (DR.below HD2.out hal)
  replace HD3 := Lib.hid (DR.below HD3.out hal)
  replace HD4 := Lib.hid (DR.below HD4.out hal)
  replace HB := Lib.hid (HB.out.trans (hal.mono HB.out.size))
  have HK := Lib.hid (H7.out _ HB.out _ hn)
  clear H7 hn hal
  go_wp2_with fail
  refine HK.out.mono ?_
  rintro e w8 ⟨rfl, hb⟩
  have hbx := hb.alloc hb.size (drO false 0 0)
  replace HW := Lib.hid (NB.below HW.out hbx)
  replace HD1 := Lib.hid (DR.below HD1.out hbx)
  replace HD2 := Lib.hid (DR.below HD2.out hbx)
  replace HD3 := Lib.hid (DR.below HD3.out hbx)
  replace HD4 := Lib.hid (DR.below HD4.out hbx)
  replace HB := Lib.hid (HB.out.trans (hbx.mono HB.out.size))
  clear hb hbx HK
  have HK := Lib.hid (H8.out _ HB.out)
  clear H8
  go_wp2_with fail
  refine HK.out.mono ?_
  rintro e w9 ⟨rfl, hb⟩
  have hbx := hb.alloc hb.size (drO false 0 0)
  replace HW := Lib.hid (NB.below HW.out hbx)
  replace HD1 := Lib.hid (DR.below HD1.out hbx)
  replace HD2 := Lib.hid (DR.below HD2.out hbx)
  replace HD3 := Lib.hid (DR.below HD3.out hbx)
  replace HD4 := Lib.hid (DR.below HD4.out hbx)
  replace HB := Lib.hid (HB.out.trans (hbx.mono HB.out.size))
  clear hb hbx HK
  have HK := Lib.hid (H9.out _ HB.out)
  clear H9
  go_wp2_with fail
  refine HK.out.mono ?_
  rintro e w10 ⟨rfl, hb⟩
  have hbx := hb.alloc hb.size (drO false 0 0)
  replace HW := Lib.hid (NB.below HW.out hbx)
  replace HD1 := Lib.hid (DR.below HD1.out hbx)
  replace HD2 := Lib.hid (DR.below HD2.out hbx)
  replace HD3 := Lib.hid (DR.below HD3.out hbx)
  replace HD4 := Lib.hid (DR.below HD4.out hbx)
  replace HB := Lib.hid (HB.out.trans (hbx.mono HB.out.size))
  clear hb hbx HK
  have HK := Lib.hid (H10.out _ HB.out)
  clear H10
  go_wp2_with fail
  refine HK.out.mono ?_
  rintro e w11 ⟨rfl, hb⟩
  have hbx := hb.alloc hb.size (drO true 0 0)
  replace HW := Lib.hid (NB.below HW.out hbx)
  replace HD1 := Lib.hid (DR.below HD1.out hbx)
  replace HD2 := Lib.hid (DR.below HD2.out hbx)
  replace HD3 := Lib.hid (DR.below HD3.out hbx)
  replace HD4 := Lib.hid (DR.below HD4.out hbx)
  replace HB := Lib.hid (HB.out.trans (hbx.mono HB.out.size))
  have HD5 := Lib.hid (DR.new w11 true 0 0)
  clear hb hbx HK
  have HK := Lib.hid (H11.out _ HB.out _ HW.out)
  clear H11
  go_wp2_with fail
  refine HK.out.mono ?_
  rintro e w12 ⟨rfl, hb⟩
  replace HW := Lib.hid (NB.below HW.out hb)
  replace HD1 := Lib.hid (DR.below HD1.out hb)
  replace HD2 := Lib.hid (DR.below HD2.out hb)
  replace HD3 := Lib.hid (DR.below HD3.out hb)
  replace HD4 := Lib.hid (DR.below HD4.out hb)
  replace HD5 := Lib.hid (DR.below HD5.out hb)
  replace HB := Lib.hid (HB.out.trans (hb.mono HB.out.size))
  clear hb HK
  have HK := Lib.hid (H12.out _ HB.out _ HW.out)
  clear H12
  go_wp2_with fail
  refine HK.out.mono ?_
  rintro e w13 ⟨v, rfl, hrow, hb⟩
  replace HW := Lib.hid (NB.below HW.out hb)
  replace HD1 := Lib.hid (DR.below HD1.out hb)
  replace HD2 := Lib.hid (DR.below HD2.out hb)
  replace HD3 := Lib.hid (DR.below HD3.out hb)
  replace HD4 := Lib.hid (DR.below HD4.out hb)
  replace HD5 := Lib.hid (DR.below HD5.out hb)
  replace HB := Lib.hid (HB.out.trans (hb.mono HB.out.size))
  obtain ⟨hr1o, hr1c, rfl, _⟩ := row_shape hrow
  have HR1 := Lib.hid hrow
  clear hrow
  clear hb HK
  have hn := heap_alloc_new w13 (.cells #[.string ⟨#[49]⟩, .string ⟨#[50]⟩, .string ⟨#[49]⟩] 23)
  have hal := (Below.refl w13.heap.size w13).alloc (Nat.le_refl _) (.cells #[.string ⟨#[49]⟩, .string ⟨#[50]⟩, .string ⟨#[49]⟩] 23)
  replace HW := Lib.hid (NB.below HW.out hal)
  replace HD1 := Lib.hid (DR.below HD1.out hal)
  replace HD2 := Lib.hid (DR.below HD2.out hal)
  replace HD3 := Lib.hid (DR.below HD3.out hal)
  replace HD4 := Lib.hid (DR.below HD4.out hal)
  replace HD5 := Lib.hid (DR.below HD5.out hal)
  replace HR1 := Lib.hid (row_belowP HR1.out hal)
  replace HB := Lib.hid (HB.out.trans (hal.mono HB.out.size))
  have HK := Lib.hid (H13.out _ HB.out _ hn)
  clear H13 hn hal
  go_wp2_with fail
  refine HK.out.mono ?_
  rintro e w14 ⟨v, rfl, hrow, hb⟩
  replace HW := Lib.hid (NB.below HW.out hb)
  replace HD1 := Lib.hid (DR.below HD1.out hb)
  replace HD2 := Lib.hid (DR.below HD2.out hb)
  replace HD3 := Lib.hid (DR.below HD3.out hb)
  replace HD4 := Lib.hid (DR.below HD4.out hb)
  replace HD5 := Lib.hid (DR.below HD5.out hb)
  replace HR1 := Lib.hid (row_belowP HR1.out hb)
  replace HB := Lib.hid (HB.out.trans (hb.mono HB.out.size))
  obtain ⟨hr2o, hr2c, rfl, _⟩ := row_shape hrow
  have HR2 := Lib.hid hrow
  clear hrow
  clear hb HK
  go_wp2_with fail
  rw [show (65 : Int) = ((65 : Nat) : Int) from rfl]
  obtain ⟨w5, hrun, hown, hgrow⟩ := run_make_full (P := Tryz.prog) w14 w14.heap.size 56 23 i0 (.string ⟨#[]⟩) 1 Tryz.underlying56 hi hz0 hz1 .i64 .i64 65 (by rw [hz2]; omega) (by unfold maxLen; omega) (Nat.le_refl _)
  rw [hrun]
  simp only [Result.andThen]
  rw [Oper.upon_value]
  have hna := NArr.made (base := w14.heap.size) hown
  have hbm := (Below.refl w14.heap.size w14).grown hgrow (Nat.le_refl _) (fun k hk => by cases hk)
  replace HW := Lib.hid (NB.below HW.out hbm)
  replace HD1 := Lib.hid (DR.below HD1.out hbm)
  replace HD2 := Lib.hid (DR.below HD2.out hbm)
  replace HD3 := Lib.hid (DR.below HD3.out hbm)
  replace HD4 := Lib.hid (DR.below HD4.out hbm)
  replace HD5 := Lib.hid (DR.below HD5.out hbm)
  replace HR1 := Lib.hid (row_belowP HR1.out hbm)
  replace HR2 := Lib.hid (row_belowP HR2.out hbm)
  replace HB := Lib.hid (HB.out.trans (hbm.mono HB.out.size))
  clear hrun hown hgrow hbm hi hz0 hz1 hz2
  have HK := Lib.hid (H14.out _ HB.out _ hna)
  clear H14 hna
  go_wp2_with fail
  refine HK.out.mono ?_
  rintro e w15 ⟨rfl, hb⟩
  replace HW := Lib.hid (NB.below HW.out hb)
  replace HD1 := Lib.hid (DR.below HD1.out hb)
  replace HD2 := Lib.hid (DR.below HD2.out hb)
  replace HD3 := Lib.hid (DR.below HD3.out hb)
  replace HD4 := Lib.hid (DR.below HD4.out hb)
  replace HD5 := Lib.hid (DR.below HD5.out hb)
  replace HR1 := Lib.hid (row_belowP HR1.out hb)
  replace HR2 := Lib.hid (row_belowP HR2.out hb)
  replace HB := Lib.hid (HB.out.trans (hb.mono HB.out.size))
  clear hb HK
  have HK := Lib.hid (H15a.out w15 )
  clear H15a
  go_wp2_with fail
  refine HK.out.mono ?_
  rintro e w16 ⟨rfl, hb⟩
  replace HW := Lib.hid (NB.below HW.out hb)
  replace HD1 := Lib.hid (DR.below HD1.out hb)
  replace HD2 := Lib.hid (DR.below HD2.out hb)
  replace HD3 := Lib.hid (DR.below HD3.out hb)
  replace HD4 := Lib.hid (DR.below HD4.out hb)
  replace HD5 := Lib.hid (DR.below HD5.out hb)
  replace HR1 := Lib.hid (row_belowP HR1.out hb)
  replace HR2 := Lib.hid (row_belowP HR2.out hb)
  replace HB := Lib.hid (HB.out.trans (hb.mono HB.out.size))
  clear hb HK
  have hts := HTS.out
  have hn := heap_alloc_new w16 (.cells #[.string ((⟨#[49]⟩ : ByteArray) ++ T)] 23)
  have hal := (Below.refl w16.heap.size w16).alloc (Nat.le_refl _) (.cells #[.string ((⟨#[49]⟩ : ByteArray) ++ T)] 23)
  replace HW := Lib.hid (NB.below HW.out hal)
  replace HD1 := Lib.hid (DR.below HD1.out hal)
  replace HD2 := Lib.hid (DR.below HD2.out hal)
  replace HD3 := Lib.hid (DR.below HD3.out hal)
  replace HD4 := Lib.hid (DR.below HD4.out hal)
  replace HD5 := Lib.hid (DR.below HD5.out hal)
  replace HR1 := Lib.hid (row_belowP HR1.out hal)
  replace HR2 := Lib.hid (row_belowP HR2.out hal)
  replace HB := Lib.hid (HB.out.trans (hal.mono HB.out.size))
  have HK := Lib.hid (H15b.out _ HB.out _ hn)
  clear H15b hn hal
  go_wp2_with fail
  refine HK.out.mono ?_
  rintro e w17 ⟨rfl, hb⟩
  replace HW := Lib.hid (NB.below HW.out hb)
  replace HD1 := Lib.hid (DR.below HD1.out hb)
  replace HD2 := Lib.hid (DR.below HD2.out hb)
  replace HD3 := Lib.hid (DR.below HD3.out hb)
  replace HD4 := Lib.hid (DR.below HD4.out hb)
  replace HD5 := Lib.hid (DR.below HD5.out hb)
  replace HR1 := Lib.hid (row_belowP HR1.out hb)
  replace HR2 := Lib.hid (row_belowP HR2.out hb)
  replace HB := Lib.hid (HB.out.trans (hb.mono HB.out.size))
  clear hb HK
  clear hts
  have HK := Lib.hid (H16.out _ HB.out _ HW.out)
  clear H16
  go_wp2_with fail
  refine HK.out.mono ?_
  rintro e w18 ⟨rfl, hb⟩
  replace HW := Lib.hid (NB.below HW.out hb)
  replace HD1 := Lib.hid (DR.below HD1.out hb)
  replace HD2 := Lib.hid (DR.below HD2.out hb)
  replace HD3 := Lib.hid (DR.below HD3.out hb)
  replace HD4 := Lib.hid (DR.below HD4.out hb)
  replace HD5 := Lib.hid (DR.below HD5.out hb)
  replace HR1 := Lib.hid (row_belowP HR1.out hb)
  replace HR2 := Lib.hid (row_belowP HR2.out hb)
  replace HB := Lib.hid (HB.out.trans (hb.mono HB.out.size))
  clear hb HK
  have HK := Lib.hid (H17.out _ HB.out _ HW.out)
  clear H17
  go_wp2_with fail
  refine HK.out.mono ?_
  rintro e w19 ⟨rfl, hb⟩
  have hbx := hb.alloc hb.size (drO false 0 0)
  replace HW := Lib.hid (NB.below HW.out hbx)
  replace HD1 := Lib.hid (DR.below HD1.out hbx)
  replace HD2 := Lib.hid (DR.below HD2.out hbx)
  replace HD3 := Lib.hid (DR.below HD3.out hbx)
  replace HD4 := Lib.hid (DR.below HD4.out hbx)
  replace HD5 := Lib.hid (DR.below HD5.out hbx)
  replace HR1 := Lib.hid (row_belowP HR1.out hbx)
  replace HR2 := Lib.hid (row_belowP HR2.out hbx)
  replace HB := Lib.hid (HB.out.trans (hbx.mono HB.out.size))
  clear hb hbx HK
  obtain ⟨d10, d11, d12⟩ := HD1.out.c
  obtain ⟨d20, d21, d22⟩ := HD2.out.c
  obtain ⟨d30, d31, d32⟩ := HD3.out.c
  obtain ⟨d40, d41, d42⟩ := HD4.out.c
  obtain ⟨d50, d51, d52⟩ := HD5.out.c
  have q1 := eq_dr true true 0 2 0 2
  have q2 := eq_dr false false 0 1 0 1
  have q3 := eq_dr false false 0 3 0 3
  have q4 := eq_dr true true 1 0 1 0
  have q5 := eq_dr true true 0 0 0 0
  have hlt := World.ownsRow_lit (base := (w19.alloc (drO false 0 0)).heap.size) (e := 54) (size := 2) (w19.alloc (drO false 0 0)) #[.string ⟨#[48]⟩, .string ⟨#[49, 47, 52]⟩, .string ⟨#[50]⟩, .string ⟨#[49, 47, 52]⟩, .string lateS, .string ⟨#[49, 47, 50]⟩] 3 (Nat.le_refl _) (by unfold maxLen; omega) rfl
  have hal := (Below.refl (w19.alloc (drO false 0 0)).heap.size (w19.alloc (drO false 0 0))).alloc (Nat.le_refl _) (.cells #[.string ⟨#[48]⟩, .string ⟨#[49, 47, 52]⟩, .string ⟨#[50]⟩, .string ⟨#[49, 47, 52]⟩, .string lateS, .string ⟨#[49, 47, 50]⟩] 54)
  simp only [World.size_alloc] at hlt
  replace HW := Lib.hid (NB.below HW.out hal)
  replace HD1 := Lib.hid (DR.below HD1.out hal)
  replace HD2 := Lib.hid (DR.below HD2.out hal)
  replace HD3 := Lib.hid (DR.below HD3.out hal)
  replace HD4 := Lib.hid (DR.below HD4.out hal)
  replace HD5 := Lib.hid (DR.below HD5.out hal)
  replace HR1 := Lib.hid (row_belowP HR1.out hal)
  replace HR2 := Lib.hid (row_belowP HR2.out hal)
  replace HB := Lib.hid (HB.out.trans (hal.mono HB.out.size))
  have HS1 := Lib.hid (Same_massP (L := L111) HR1.out hlt (by decide))
  clear hlt hal
  go_wp2_with fail
  refine HS1.out.mono ?_
  rintro e w20 ⟨rfl, hb⟩
  replace HW := Lib.hid (NB.below HW.out hb)
  replace HD1 := Lib.hid (DR.below HD1.out hb)
  replace HD2 := Lib.hid (DR.below HD2.out hb)
  replace HD3 := Lib.hid (DR.below HD3.out hb)
  replace HD4 := Lib.hid (DR.below HD4.out hb)
  replace HD5 := Lib.hid (DR.below HD5.out hb)
  replace HR1 := Lib.hid (row_belowP HR1.out hb)
  replace HR2 := Lib.hid (row_belowP HR2.out hb)
  replace HB := Lib.hid (HB.out.trans (hb.mono HB.out.size))
  clear hb HS1
  clear d10 d11 d12 d20 d21 d22 d30 d31 d32 d40 d41 d42 d50 d51 d52 q1 q2 q3 q4 q5
  have hlt := World.ownsRow_lit (base := w20.heap.size) (e := 54) (size := 2) w20 #[.string ⟨#[48]⟩, .string ⟨#[49, 47, 52]⟩, .string ⟨#[49]⟩, .string ⟨#[49, 47, 50]⟩, .string ⟨#[50]⟩, .string ⟨#[49, 47, 52]⟩] 3 (Nat.le_refl _) (by unfold maxLen; omega) rfl
  have hal := (Below.refl w20.heap.size w20).alloc (Nat.le_refl _) (.cells #[.string ⟨#[48]⟩, .string ⟨#[49, 47, 52]⟩, .string ⟨#[49]⟩, .string ⟨#[49, 47, 50]⟩, .string ⟨#[50]⟩, .string ⟨#[49, 47, 52]⟩] 54)
  replace HW := Lib.hid (NB.below HW.out hal)
  replace HD1 := Lib.hid (DR.below HD1.out hal)
  replace HD2 := Lib.hid (DR.below HD2.out hal)
  replace HD3 := Lib.hid (DR.below HD3.out hal)
  replace HD4 := Lib.hid (DR.below HD4.out hal)
  replace HD5 := Lib.hid (DR.below HD5.out hal)
  replace HR1 := Lib.hid (row_belowP HR1.out hal)
  replace HR2 := Lib.hid (row_belowP HR2.out hal)
  replace HB := Lib.hid (HB.out.trans (hal.mono HB.out.size))
  have HS2 := Lib.hid (Same_massP (L := L121) HR2.out hlt (by decide))
  clear hlt hal
  go_wp2_with fail
  refine HS2.out.mono ?_
  rintro e w21 ⟨rfl, hb⟩
  replace HW := Lib.hid (NB.below HW.out hb)
  replace HD1 := Lib.hid (DR.below HD1.out hb)
  replace HD2 := Lib.hid (DR.below HD2.out hb)
  replace HD3 := Lib.hid (DR.below HD3.out hb)
  replace HD4 := Lib.hid (DR.below HD4.out hb)
  replace HD5 := Lib.hid (DR.below HD5.out hb)
  replace HR1 := Lib.hid (row_belowP HR1.out hb)
  replace HR2 := Lib.hid (row_belowP HR2.out hb)
  replace HB := Lib.hid (HB.out.trans (hb.mono HB.out.size))
  clear hb HS2
  go_wp2_with fail
  go_ret
  exact ⟨ret_bool (by simp), HB.out⟩

end Go.Proofs.YtgnmhijffppkoaaGreatDoor
