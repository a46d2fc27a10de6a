/-
  RatPairs returns true for any two texts.
-/
import Derived.Test.YtadkijaofmcgfaaGreatDoorU12
namespace Go.Proofs.YtadkijaofmcgfaaGreatDoor
open Go.RowKit NV
open Go.Lib (decDigits)

theorem both_plain {F G : Nat} {args : Array Value} (h : ∃ T : ByteArray × Nat, (∀ w, Tab w → ML w → Calls Tryz.prog F args w (PR T w)) ∧ (∀ w, Calls Tryz.prog G args w (PR T w))) :
    ∃ (a : ByteArray) (c : Int), (∀ w, Tab w → ML w → Calls Tryz.prog F args w fun e w' => e = .returned (.tuple #[.string a, .int .i64 c]) ∧ Below w.heap.size w w') ∧ (∀ w, Calls Tryz.prog G args w fun e w' => e = .returned (.tuple #[.string a, .int .i64 c]) ∧ Below w.heap.size w w') := by
  obtain ⟨T, h1, h2⟩ := h
  exact ⟨T.1, (T.2 : Int), h1, h2⟩

theorem allL_sizes {d : Nat} {s t : ByteArray} (h : allL d [s, t] = true) : s.size ≤ d ∧ t.size ≤ d := by
  unfold allL at h
  rw [List.all_eq_true] at h
  exact ⟨by simpa using h s (by simp), by simpa using h t (by simp)⟩

set_option maxHeartbeats 6400000 in
set_option maxRecDepth 100000 in
theorem pairs_no (s t : ByteArray) (w : World) (htab : Tab w) (hm : ML w) (hs : s.size ≤ 140737488351232) (ht : t.size ≤ 140737488351232) (hv : allL 4100 [s, t] = false) :
    Calls Tryz.prog 4 #[.string s, .string t] w fun e w' => e = .returned (.bool true) ∧ Below w.heap.size w w' := by
  have HL := Lib.hid (lives2_any w htab hm)
  have HV := Lib.hid (fun (W : World) => light_any (W.alloc (.cells #[.string s, .string t] 23)) W.heap.size 4100 [s, t] (by simp) (by simp) (by omega) (by intro x hx; simp at hx; rcases hx with rfl | rfl <;> assumption) (two_cells s t _))
  rw [hv] at HV
  clear htab hm hv hs ht
  go_enter Tryz.func4, Tryz.ntmps4
  go_wp2_with fail
  refine HL.out.mono ?_
  rintro e w1 ⟨rfl, hb1⟩
  have HB1 := Lib.hid hb1
  clear hb1 HL
  go_wp2_with fail
  refine (HV.out w1).mono ?_
  rintro e w2 ⟨rfl, hb2⟩
  have hb3 := HB1.out.alloc HB1.out.size (.cells #[.string s, .string t] 23)
  have HB := Lib.hid (hb3.trans (hb2.mono hb3.size))
  clear hb2 hb3 HV HB1
  go_wp2_with fail
  go_ret
  exact ⟨rfl, HB.out⟩

set_option maxHeartbeats 6400000 in
set_option maxRecDepth 100000 in
theorem pairs_yes (s t : ByteArray) (w : World) (htab : Tab w) (hm : ML w) (hs : s.size ≤ 140737488351232) (ht : t.size ≤ 140737488351232) (hv : allL 4100 [s, t] = true) :
    Calls Tryz.prog 4 #[.string s, .string t] w fun e w' => e = .returned (.bool true) ∧ Below w.heap.size w w' := by
  have HL := Lib.hid (lives2_any w htab hm)
  have HV := Lib.hid (fun (W : World) => light_any (W.alloc (.cells #[.string s, .string t] 23)) W.heap.size 4100 [s, t] (by simp) (by simp) (by omega) (by intro x hx; simp at hx; rcases hx with rfl | rfl <;> assumption) (two_cells s t _))
  rw [hv] at HV
  have hsz := allL_sizes hv
  obtain ⟨a0, c0, hp0, hr0⟩ := both_plain (both_Add s t (by omega) (by omega))
  have P0 := Lib.hid (fun W (h : Below w.heap.size w W) => hp0 W (htab.below h) (ml_keep hm (ml_pos hm) h))
  have R0 := Lib.hid hr0
  clear hp0 hr0
  obtain ⟨a1, c1, hp1, hr1⟩ := both_plain (both_Sub s t (by omega) (by omega))
  have P1 := Lib.hid (fun W (h : Below w.heap.size w W) => hp1 W (htab.below h) (ml_keep hm (ml_pos hm) h))
  have R1 := Lib.hid hr1
  clear hp1 hr1
  obtain ⟨a2, c2, hp2, hr2⟩ := both_plain (both_Mul s t (by omega) (by omega))
  have P2 := Lib.hid (fun W (h : Below w.heap.size w W) => hp2 W (htab.below h) (ml_keep hm (ml_pos hm) h))
  have R2 := Lib.hid hr2
  clear hp2 hr2
  obtain ⟨a3, c3, hp3, hr3⟩ := both_plain (both_Div s t (by omega) (by omega))
  have P3 := Lib.hid (fun W (h : Below w.heap.size w W) => hp3 W (htab.below h) (ml_keep hm (ml_pos hm) h))
  have R3 := Lib.hid hr3
  clear hp3 hr3
  obtain ⟨a4, c4, hp4, hr4⟩ := both_plain (both_Min s t (by omega) (by omega))
  have P4 := Lib.hid (fun W (h : Below w.heap.size w W) => hp4 W (htab.below h) (ml_keep hm (ml_pos hm) h))
  have R4 := Lib.hid hr4
  clear hp4 hr4
  obtain ⟨a5, c5, hp5, hr5⟩ := both_plain (both_Max s t (by omega) (by omega))
  have P5 := Lib.hid (fun W (h : Below w.heap.size w W) => hp5 W (htab.below h) (ml_keep hm (ml_pos hm) h))
  have R5 := Lib.hid hr5
  clear hp5 hr5
  obtain ⟨a6, c6, hp6, hr6⟩ := both_plain (both_Make s t (by omega) (by omega))
  have P6 := Lib.hid (fun W (h : Below w.heap.size w W) => hp6 W (htab.below h) (ml_keep hm (ml_pos hm) h))
  have R6 := Lib.hid hr6
  clear hp6 hr6
  obtain ⟨a7, c7, hp7, hr7⟩ := both_Cmp s t (by omega) (by omega)
  have P7 := Lib.hid (fun W (h : Below w.heap.size w W) => hp7 W (ml_keep hm (ml_pos hm) h))
  have R7 := Lib.hid hr7
  clear hp7 hr7
  clear hsz
  clear htab hm hv hs ht
  go_enter Tryz.func4, Tryz.ntmps4
  go_wp2_with fail
  refine HL.out.mono ?_
  rintro e w1 ⟨rfl, hb1⟩
  have HB1 := Lib.hid hb1
  clear hb1 HL
  go_wp2_with fail
  refine (HV.out w1).mono ?_
  rintro e w2 ⟨rfl, hb2⟩
  have hb3 := HB1.out.alloc HB1.out.size (.cells #[.string s, .string t] 23)
  have HB := Lib.hid (hb3.trans (hb2.mono hb3.size))
  clear hb2 hb3 HV HB1
  go_wp2_with fail
  refine (P0.out _ HB.out).mono ?_
  rintro e u0 ⟨rfl, hb⟩
  replace HB := Lib.hid (HB.out.trans (hb.mono HB.out.size))
  clear hb P0
  go_wp2_with fail
  refine (R0.out _).mono ?_
  rintro e v0 ⟨rfl, hb⟩
  replace HB := Lib.hid (HB.out.trans (hb.mono HB.out.size))
  clear hb R0
  go_wp2_with fail
  refine (P1.out _ HB.out).mono ?_
  rintro e u1 ⟨rfl, hb⟩
  replace HB := Lib.hid (HB.out.trans (hb.mono HB.out.size))
  clear hb P1
  go_wp2_with fail
  refine (R1.out _).mono ?_
  rintro e v1 ⟨rfl, hb⟩
  replace HB := Lib.hid (HB.out.trans (hb.mono HB.out.size))
  clear hb R1
  go_wp2_with fail
  refine (P2.out _ HB.out).mono ?_
  rintro e u2 ⟨rfl, hb⟩
  replace HB := Lib.hid (HB.out.trans (hb.mono HB.out.size))
  clear hb P2
  go_wp2_with fail
  refine (R2.out _).mono ?_
  rintro e v2 ⟨rfl, hb⟩
  replace HB := Lib.hid (HB.out.trans (hb.mono HB.out.size))
  clear hb R2
  go_wp2_with fail
  refine (P3.out _ HB.out).mono ?_
  rintro e u3 ⟨rfl, hb⟩
  replace HB := Lib.hid (HB.out.trans (hb.mono HB.out.size))
  clear hb P3
  go_wp2_with fail
  refine (R3.out _).mono ?_
  rintro e v3 ⟨rfl, hb⟩
  replace HB := Lib.hid (HB.out.trans (hb.mono HB.out.size))
  clear hb R3
  go_wp2_with fail
  refine (same_yes _ _ _).mono ?_
  rintro e ww ⟨rfl, rfl⟩
  go_wp2_with fail
  refine (same_yes _ _ _).mono ?_
  rintro e ww ⟨rfl, rfl⟩
  go_wp2_with fail
  refine (same_yes _ _ _).mono ?_
  rintro e ww ⟨rfl, rfl⟩
  go_wp2_with fail
  refine (same_yes _ _ _).mono ?_
  rintro e ww ⟨rfl, rfl⟩
  go_wp2_with fail
  refine (P4.out _ HB.out).mono ?_
  rintro e u4 ⟨rfl, hb⟩
  replace HB := Lib.hid (HB.out.trans (hb.mono HB.out.size))
  clear hb P4
  go_wp2_with fail
  refine (R4.out _).mono ?_
  rintro e v4 ⟨rfl, hb⟩
  replace HB := Lib.hid (HB.out.trans (hb.mono HB.out.size))
  clear hb R4
  go_wp2_with fail
  refine (P5.out _ HB.out).mono ?_
  rintro e u5 ⟨rfl, hb⟩
  replace HB := Lib.hid (HB.out.trans (hb.mono HB.out.size))
  clear hb P5
  go_wp2_with fail
  refine (R5.out _).mono ?_
  rintro e v5 ⟨rfl, hb⟩
  replace HB := Lib.hid (HB.out.trans (hb.mono HB.out.size))
  clear hb R5
  go_wp2_with fail
  refine (P6.out _ HB.out).mono ?_
  rintro e u6 ⟨rfl, hb⟩
  replace HB := Lib.hid (HB.out.trans (hb.mono HB.out.size))
  clear hb P6
  go_wp2_with fail
  refine (R6.out _).mono ?_
  rintro e v6 ⟨rfl, hb⟩
  replace HB := Lib.hid (HB.out.trans (hb.mono HB.out.size))
  clear hb R6
  go_wp2_with fail
  refine (P7.out _ HB.out).mono ?_
  rintro e u7 ⟨rfl, hb⟩
  replace HB := Lib.hid (HB.out.trans (hb.mono HB.out.size))
  clear hb P7
  go_wp2_with fail
  refine (R7.out _).mono ?_
  rintro e v7 ⟨rfl, hb⟩
  replace HB := Lib.hid (HB.out.trans (hb.mono HB.out.size))
  clear hb R7
  go_wp2_with fail
  refine (same_yes _ _ _).mono ?_
  rintro e ww ⟨rfl, rfl⟩
  go_wp2_with fail
  refine (same_yes _ _ _).mono ?_
  rintro e ww ⟨rfl, rfl⟩
  go_wp2_with fail
  refine (same_yes _ _ _).mono ?_
  rintro e ww ⟨rfl, rfl⟩
  go_wp2_with fail
  go_ret
  exact ⟨rfl, HB.out⟩

end Go.Proofs.YtadkijaofmcgfaaGreatDoor
