/-
  The laws of layer 8: their examples, numbers.
-/
import Derived.Test.YtofanopnibbaeaaGreatDoorZ17
namespace Go.Proofs.YtofanopnibbaeaaGreatDoor
open Go.RowKit NV Go.Maps Go.Sort Go.Shelf
open Go.Lib (decDigits)

theorem MR.lit {w : World} {g : Nat} {L : List MI} (h : w.heap[g]? = some (.cells (cellsZ L).toArray 29 (0, 0))) : MR w (some ⟨g, 0, none⟩) L.length L := by
  refine ⟨rfl, ?_⟩
  by_cases h0 : L.length = 0
  · exact .inl h0
  refine .inr ⟨_, rfl, (Array.getElem?_eq_some_iff.1 h).1, fun j x hx => ?_⟩
  obtain ⟨h1, h2⟩ := cellsZ_get L j x hx
  have hc : ∀ i v, (cellsZ L)[i]? = some v → w.cell? ⟨g, i, none⟩ = some v := fun i v hi => by
    rw [Lib.cell_of_heap h]
    simpa using hi
  have e : (⟨g, 0, none⟩ : Addr).add (j * 2) = ⟨g, j * 2, none⟩ := by rw [Addr.add_lit, Nat.zero_add]
  rw [e]
  exact ⟨hc _ _ h1, hc _ _ h2⟩

set_option maxHeartbeats 1600000 in
theorem half_any (w : World) : Calls Tryz.prog 16 #[] w fun e w' => e = .returned (.slice (some ⟨w.heap.size, 0, none⟩) 2 2) ∧ MR w' (some ⟨w.heap.size, 0, none⟩) 2 lHalf ∧ Below w.heap.size w w' := by
  have HB := Lib.hid ((Below.refl w.heap.size w).alloc (Nat.le_refl _) (.cells #[.string ⟨#[97]⟩, .string ⟨#[49, 47, 50]⟩, .string ⟨#[98]⟩, .string ⟨#[49, 47, 50]⟩] 29))
  have HM := Lib.hid (MR.lit (L := lHalf) (heap_alloc_new w (.cells #[.string ⟨#[97]⟩, .string ⟨#[49, 47, 50]⟩, .string ⟨#[98]⟩, .string ⟨#[49, 47, 50]⟩] 29)))
  go_enter Tryz.func16, Tryz.ntmps16
  go_wp2_with fail
  go_ret
  exact ⟨rfl, HM.out, HB.out⟩

set_option maxHeartbeats 1600000 in
theorem thirds_any (w : World) : Calls Tryz.prog 17 #[] w fun e w' => e = .returned (.slice (some ⟨w.heap.size, 0, none⟩) 2 2) ∧ MR w' (some ⟨w.heap.size, 0, none⟩) 2 lThirds ∧ Below w.heap.size w w' := by
  have HB := Lib.hid ((Below.refl w.heap.size w).alloc (Nat.le_refl _) (.cells #[.string ⟨#[97]⟩, .string ⟨#[49, 47, 51]⟩, .string ⟨#[98]⟩, .string ⟨#[50, 47, 51]⟩] 29))
  have HM := Lib.hid (MR.lit (L := lThirds) (heap_alloc_new w (.cells #[.string ⟨#[97]⟩, .string ⟨#[49, 47, 51]⟩, .string ⟨#[98]⟩, .string ⟨#[50, 47, 51]⟩] 29)))
  go_enter Tryz.func17, Tryz.ntmps17
  go_wp2_with fail
  go_ret
  exact ⟨rfl, HM.out, HB.out⟩

theorem ml_lit : ML2 lHalf ∧ ML2 lThirds ∧ ML2 lMake := by
  refine ⟨fun x hx => ?_, fun x hx => ?_, fun x hx => ?_⟩
  · simp [lHalf] at hx
    rcases hx with rfl | rfl <;> exact ⟨by decide, by decide⟩
  · simp [lThirds] at hx
    rcases hx with rfl | rfl <;> exact ⟨by decide, by decide⟩
  · simp [lMake] at hx
    rcases hx with rfl | rfl | rfl <;> exact ⟨by decide, by decide⟩

set_option maxHeartbeats 6400000 in
set_option maxRecDepth 100000 in
theorem lives8_any (w : World) (htab : Tab w) (hm : ML w) : Calls Tryz.prog 15 #[] w fun e w' => e = .returned (.bool true) ∧ Below w.heap.size w w' := by
  have HTM := Lib.hid (fun W (hb : Below w.heap.size w W) => And.intro (htab.below hb) (ml_keep hm (ml_pos hm) hb))
  have hb0 := (Below.refl w.heap.size w).alloc (Nat.le_refl _) (.cells #[.string ⟨#[98]⟩, .string ⟨#[49, 47, 50]⟩, .string ⟨#[97]⟩, .string ⟨#[49, 47, 52]⟩, .string ⟨#[97]⟩, .string ⟨#[49, 47, 52]⟩, .string ⟨#[99]⟩, .string ⟨#[48]⟩] 29)
  have HB0 := Lib.hid hb0
  have HMK := Lib.hid (show Calls Tryz.prog 27 #[.slice (some ⟨w.heap.size, 0, none⟩) 4 4] (w.alloc (.cells #[.string ⟨#[98]⟩, .string ⟨#[49, 47, 50]⟩, .string ⟨#[97]⟩, .string ⟨#[49, 47, 52]⟩, .string ⟨#[97]⟩, .string ⟨#[49, 47, 52]⟩, .string ⟨#[99]⟩, .string ⟨#[48]⟩] 29)) fun e w' => ∃ ao cap, e = .returned (.tuple #[.slice ao 2 cap, .int .i64 0]) ∧ MR w' ao 2 lHalf ∧ Below (w.alloc (.cells #[.string ⟨#[98]⟩, .string ⟨#[49, 47, 50]⟩, .string ⟨#[97]⟩, .string ⟨#[49, 47, 52]⟩, .string ⟨#[97]⟩, .string ⟨#[49, 47, 52]⟩, .string ⟨#[99]⟩, .string ⟨#[48]⟩] 29)).heap.size (w.alloc (.cells #[.string ⟨#[98]⟩, .string ⟨#[49, 47, 50]⟩, .string ⟨#[97]⟩, .string ⟨#[49, 47, 52]⟩, .string ⟨#[97]⟩, .string ⟨#[49, 47, 52]⟩, .string ⟨#[99]⟩, .string ⟨#[48]⟩] 29)) w' from
    (Make_any (L := lMake) (cap := 4) (MR.lit (L := lMake) (heap_alloc_new w (.cells #[.string ⟨#[98]⟩, .string ⟨#[49, 47, 50]⟩, .string ⟨#[97]⟩, .string ⟨#[49, 47, 52]⟩, .string ⟨#[97]⟩, .string ⟨#[49, 47, 52]⟩, .string ⟨#[99]⟩, .string ⟨#[48]⟩] 29))) (by decide) ml_lit.2.2 (HTM.out _ hb0).1 (HTM.out _ hb0).2).mono (by
      rintro e w' ⟨_, h2, hb⟩
      obtain ⟨S, v, h3, _, _, rfl, hrow⟩ := h2 ex_mk
      have h4 := ex_col
      rw [h3] at h4
      have h5 : tZ (outQ S) = lHalf := by simpa using h4
      have h6 : (outQ S).length = 2 := by rw [← tZ_len, h5]; rfl
      rw [h5, h6] at hrow
      obtain ⟨ao, cap, rfl, hmr⟩ := MR.own hrow rfl
      exact ⟨ao, cap, rfl, hmr, hb⟩))
  have HH := Lib.hid (fun W => half_any W)
  have HT := Lib.hid (fun W => thirds_any W)
  have HD := Lib.hid (show ∀ W a1 a2, MR W a1 2 lHalf → MR W a2 2 lThirds → Below w.heap.size w W → Calls Tryz.prog 20 #[.slice a1 2 2, .slice a2 2 2, .string ⟨#[49]⟩] W (PR (⟨#[49, 47, 54]⟩, 0) W) from fun W a1 a2 h1 h2 hb => by
    have h := Delta_any (c1 := 2) (c2 := 2) (sf := ⟨#[49]⟩) h1 h2 (by omega) (by omega) ml_lit.1 ml_lit.2.1 (by decide) (HTM.out W hb).1 (HTM.out W hb).2
    rw [ex_delta] at h
    exact h)
  have HMO := Lib.hid (show ∀ W a1 a2, MR W a1 2 lHalf → MR W a2 2 lThirds → Below w.heap.size w W → Calls Tryz.prog 26 #[.slice a1 2 2, .slice a2 2 2, .int .i64 2] W (TR (⟨#[57, 47, 56]⟩, true, 0) W) from fun W a1 a2 h1 h2 hb => by
    have h := Moment_any (c1 := 2) (c2 := 2) (n := 2) h1 h2 (by omega) (by omega) ml_lit.1 ml_lit.2.1 (HTM.out W hb).1 (HTM.out W hb).2
    rw [ex_mom] at h
    exact h)
  have HS := Lib.hid (show ∀ W a1 a2 c1, MR W a1 2 lHalf → MR W a2 2 lHalf → Calls Tryz.prog 28 #[.slice a1 2 c1, .slice a2 2 2] W (fun e w' => e = .returned (.bool true) ∧ Below W.heap.size W w') from fun W a1 a2 c1 h1 h2 => by
    have h := Same_any (c1 := c1) (c2 := 2) h1 h2 (by omega)
    rw [decide_eq_true rfl] at h
    exact h)
  clear htab hm hb0
  go_enter Tryz.func15, Tryz.ntmps15
  go_wp2_with fail
  refine HMK.out.mono ?_
  rintro e w1 ⟨ao, cap, rfl, hmr, hb⟩
  have HB1 := Lib.hid (HB0.out.trans (hb.mono HB0.out.size))
  have HM1 := Lib.hid hmr
  clear hb hmr HMK HB0
  go_wp2_with fail
  refine (HH.out w1).mono ?_
  rintro e w2 ⟨rfl, hm2, hb⟩
  have HB2 := Lib.hid (HB1.out.trans (hb.mono HB1.out.size))
  have HM2 := Lib.hid hm2
  replace HM1 := Lib.hid (HM1.out.below hb)
  clear hb hm2 HB1
  go_wp2_with fail
  refine (HT.out w2).mono ?_
  rintro e w3 ⟨rfl, hm3, hb⟩
  have HB3 := Lib.hid (HB2.out.trans (hb.mono HB2.out.size))
  have HM3 := Lib.hid hm3
  replace HM1 := Lib.hid (HM1.out.below hb)
  replace HM2 := Lib.hid (HM2.out.below hb)
  clear hb hm3 HB2
  go_wp2_with fail
  refine (HD.out w3 _ _ HM2.out HM3.out HB3.out).mono ?_
  rintro e w4 ⟨rfl, hb⟩
  have HB4 := Lib.hid (HB3.out.trans (hb.mono HB3.out.size))
  replace HM1 := Lib.hid (HM1.out.below hb)
  clear hb HB3 HM2 HM3 HD
  go_wp2_with fail
  refine (HH.out w4).mono ?_
  rintro e w5 ⟨rfl, hm2, hb⟩
  have HB5 := Lib.hid (HB4.out.trans (hb.mono HB4.out.size))
  have HM2 := Lib.hid hm2
  replace HM1 := Lib.hid (HM1.out.below hb)
  clear hb hm2 HB4
  go_wp2_with fail
  refine (HT.out w5).mono ?_
  rintro e w6 ⟨rfl, hm3, hb⟩
  have HB6 := Lib.hid (HB5.out.trans (hb.mono HB5.out.size))
  have HM3 := Lib.hid hm3
  replace HM1 := Lib.hid (HM1.out.below hb)
  replace HM2 := Lib.hid (HM2.out.below hb)
  clear hb hm3 HB5
  go_wp2_with fail
  refine (HMO.out w6 _ _ HM2.out HM3.out HB6.out).mono ?_
  rintro e w7 ⟨rfl, hb⟩
  have HB7 := Lib.hid (HB6.out.trans (hb.mono HB6.out.size))
  replace HM1 := Lib.hid (HM1.out.below hb)
  clear hb HB6 HM2 HM3 HMO
  go_wp2_with fail
  refine (HH.out w7).mono ?_
  rintro e w8 ⟨rfl, hm2, hb⟩
  have HB8 := Lib.hid (HB7.out.trans (hb.mono HB7.out.size))
  have HM2 := Lib.hid hm2
  replace HM1 := Lib.hid (HM1.out.below hb)
  clear hb hm2 HB7
  go_wp2_with fail
  refine (HS.out w8 _ _ _ HM1.out HM2.out).mono ?_
  rintro e w9 ⟨rfl, hb⟩
  have HB9 := Lib.hid (HB8.out.trans (hb.mono HB8.out.size))
  clear hb HB8 HM1 HM2 HS HH HT
  have q1 : ((⟨#[49, 47, 54]⟩ : ByteArray).toList == ([49, 47, 54] : List UInt8)) = true := lit_eq _ _ rfl
  have q2 : ((⟨#[57, 47, 56]⟩ : ByteArray).toList == ([57, 47, 56] : List UInt8)) = true := lit_eq _ _ rfl
  go_wp2_with fail
  go_ret
  exact ⟨rfl, HB9.out⟩

/-- Is it a number of at most 24 bytes that is not negative? -/
def numB (s : ByteArray) : Bool := decide (s.size ≤ 24) && (decide (rchk s = 0) && decide (0 ≤ sE s))
set_option maxHeartbeats 1600000 in
set_option maxRecDepth 100000 in
theorem number_any (s : ByteArray) (hs : s.size ≤ 140737488351232) (w : World) : Calls Tryz.prog 31 #[.string s] w fun e w' => e = .returned (.bool (numB s)) ∧ Below w.heap.size w w' := by
  have HS := Lib.hid (rSign_any s hs w)
  unfold numB
  obtain ⟨z, hz⟩ : ∃ z, z = s.size := ⟨_, rfl⟩
  generalize sE s = x at *
  generalize rchk s = c at *
  by_cases h1 : s.size ≤ 24
  · rw [decide_eq_true h1]
    by_cases h2 : c = 0
    · subst h2
      rw [decide_eq_true rfl]
      by_cases h3 : 0 ≤ x
      · rw [decide_eq_true h3]
        have h1i : (s.size : Int) ≤ 24 := by omega
        clear hs hz
        go_enter Tryz.func31, Tryz.ntmps31
        go_wp2_with fail
        refine HS.out.mono ?_
        rintro e w1 ⟨rfl, hb⟩
        have HB := Lib.hid hb
        clear hb HS
        go_wp2_with fail
        go_ret
        exact ⟨ret_bool (by simp), HB.out⟩
      · rw [decide_eq_false h3]
        have h1i : (s.size : Int) ≤ 24 := by omega
        clear hs hz
        go_enter Tryz.func31, Tryz.ntmps31
        go_wp2_with fail
        refine HS.out.mono ?_
        rintro e w1 ⟨rfl, hb⟩
        have HB := Lib.hid hb
        clear hb HS
        go_wp2_with fail
        go_ret
        exact ⟨ret_bool (by simp [h3]), HB.out⟩
    · rw [decide_eq_false h2]
      have hz2 : (((c : Nat) : Int) == 0) = false := by rw [beq_eq_false_iff_ne]; omega
      have h1i : (s.size : Int) ≤ 24 := by omega
      clear hs hz h2
      go_enter Tryz.func31, Tryz.ntmps31
      go_wp2_with fail
      refine HS.out.mono ?_
      rintro e w1 ⟨rfl, hb⟩
      have HB := Lib.hid hb
      clear hb HS
      go_wp2_with fail
      go_ret
      exact ⟨rfl, HB.out⟩
  · rw [decide_eq_false h1]
    have h1i : ¬ (s.size : Int) ≤ 24 := by omega
    clear hs hz
    go_enter Tryz.func31, Tryz.ntmps31
    go_wp2_with fail
    refine HS.out.mono ?_
    rintro e w1 ⟨rfl, hb⟩
    have HB := Lib.hid hb
    clear hb HS
    go_wp2_with fail
    go_ret
    exact ⟨rfl, HB.out⟩
theorem numB_yes {s : ByteArray} (h : numB s = true) : ∃ f, s = qstr f ∧ QOk f ∧ 0 ≤ f ∧ s.size ≤ 24 := by
  unfold numB at h
  rw [Bool.and_eq_true, Bool.and_eq_true, decide_eq_true_iff, decide_eq_true_iff, decide_eq_true_iff] at h
  obtain ⟨h1, h2, h3⟩ := h
  refine ⟨ratS s, (ratS_ok h2).1, (ratS_ok h2).2, ?_, h1⟩
  unfold sE at h3
  rw [if_pos h2] at h3
  exact cmpQ_le.1 (by rw [cmpQ_neg]; unfold sgnQ at h3; omega)
theorem Sz.of {q : Rat} {d : Nat} (hd0 : 0 < d) (h : (qstr q).size ≤ d) : Sz d q := by
  obtain ⟨s1, s2⟩ := qstr_sizes q
  exact ⟨(dec_len_le hd0).1 (by omega), (dec_len_le hd0).1 (by omega)⟩

set_option maxHeartbeats 1600000 in
theorem lplus_q {p q : Rat} (hp : QOk p) (hq : QOk q) (h : QOk (p + q)) (w : World) : Calls Tryz.prog 37 #[.string (qstr p), .string (qstr q)] w fun e w' => e = .returned (.string (qstr (p + q))) ∧ Below w.heap.size w w' := by
  have HA := Lib.hid (rAdd_oQ p q hp hq w)
  rw [okQ_yes h] at HA
  replace HA := Lib.hid (show Calls _ _ _ _ (PR (qstr (p + q), 0) w) from HA.out)
  generalize qstr (p + q) = t at *
  generalize qstr p = sp at *
  generalize qstr q = sq at *
  clear hp hq h
  go_enter Tryz.func37, Tryz.ntmps37
  go_wp2_with fail
  refine HA.out.mono ?_
  rintro e w1 ⟨rfl, hb⟩
  have HB := Lib.hid hb
  clear hb HA
  go_wp2_with fail
  go_ret
  exact ⟨rfl, HB.out⟩
set_option maxHeartbeats 1600000 in
theorem ltimes_q {p q : Rat} (hp : QOk p) (hq : QOk q) (h : QOk (p * q)) (w : World) : Calls Tryz.prog 36 #[.string (qstr p), .string (qstr q)] w fun e w' => e = .returned (.string (qstr (p * q))) ∧ Below w.heap.size w w' := by
  have HA := Lib.hid (rMul_q w hp hq)
  unfold RQ at HA
  rw [wQ_oQ, okQ_yes h] at HA
  replace HA := Lib.hid (show Calls _ _ _ _ (PR (qstr (p * q), 0) w) from HA.out)
  generalize qstr (p * q) = t at *
  generalize qstr p = sp at *
  generalize qstr q = sq at *
  clear hp hq h
  go_enter Tryz.func36, Tryz.ntmps36
  go_wp2_with fail
  refine HA.out.mono ?_
  rintro e w1 ⟨rfl, hb⟩
  have HB := Lib.hid hb
  clear hb HA
  go_wp2_with fail
  go_ret
  exact ⟨rfl, HB.out⟩
set_option maxHeartbeats 1600000 in
theorem least_q {p q : Rat} (hp : QOk p) (hq : QOk q) (w : World) : Calls Tryz.prog 33 #[.string (qstr p), .string (qstr q)] w fun e w' => e = .returned (.bool (decide (p ≤ q))) ∧ Below w.heap.size w w' := by
  have HA := Lib.hid (rCmp_q w hp hq)
  have hx : decide (p ≤ q) = decide (cmpQ p q ≤ 0) := decide_eq_decide.2 cmpQ_le.symm
  rw [hx]
  generalize cmpQ p q = x at *
  generalize qstr p = sp at *
  generalize qstr q = sq at *
  clear hp hq hx
  go_enter Tryz.func33, Tryz.ntmps33
  go_wp2_with fail
  refine HA.out.mono ?_
  rintro e w1 ⟨rfl, hb⟩
  have HB := Lib.hid hb
  clear hb HA
  go_wp2_with fail
  go_ret
  exact ⟨rfl, HB.out⟩

end Go.Proofs.YtofanopnibbaeaaGreatDoor
