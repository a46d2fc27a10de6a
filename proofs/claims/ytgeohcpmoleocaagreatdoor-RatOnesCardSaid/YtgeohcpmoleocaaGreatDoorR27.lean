/-
  RatOnes returns true for any text and any two ints.
-/
import Derived.Test.YtgeohcpmoleocaaGreatDoorR26
import Derived.Test.YtgeohcpmoleocaaGreatDoorU20
import Derived.Test.YtgeohcpmoleocaaGreatDoorU21
namespace Go.Proofs.YtgeohcpmoleocaaGreatDoor
open Go.RowKit NV
open Go.Lib (decDigits)

theorem one_cells {w : World} (s : ByteArray) (e : TypeId) : ∀ j, j < [s].length → (w.alloc (.cells #[.string s] e)).cell? ⟨w.heap.size, j, none⟩ = some (.string ([s].getD j ByteArray.empty)) := by
  intro j hj
  rw [Lib.cell_of_heap (heap_alloc_new w _)]
  match j, hj with
  | 0, _ => rfl

theorem allL_size1 {d : Nat} {s : ByteArray} (h : allL d [s] = true) : s.size ≤ d := by
  unfold allL at h
  rw [List.all_eq_true] at h
  simpa using h s (by simp)

theorem both_plain1 {F G : Nat} {args : Array Value} (h : ∃ T : ByteArray × Nat, (∀ w, Tab w → ML w → Calls Tryz.prog F args w (PR T w)) ∧ (∀ w, Calls Tryz.prog G args w (PR T w))) :
    ∃ (a : ByteArray) (c : Int), (∀ w, Tab w → ML w → Calls Tryz.prog F args w fun e w' => e = .returned (.tuple #[.string a, .int .i64 c]) ∧ Below w.heap.size w w') ∧ (∀ w, Calls Tryz.prog G args w fun e w' => e = .returned (.tuple #[.string a, .int .i64 c]) ∧ Below w.heap.size w w') := both_plain h

set_option maxHeartbeats 6400000 in
set_option maxRecDepth 100000 in
theorem ones_no (s : ByteArray) (n m : Int) (w : World) (htab : Tab w) (hm : ML w) (hs : s.size ≤ 140737488351232) (hv : allL 8100 [s] = false) :
    Calls Tryz.prog 3 #[.string s, .int .i64 n, .int .i64 m] w fun e w' => e = .returned (.bool true) ∧ Below w.heap.size w w' := by
  have HL := Lib.hid (lives2_any w htab hm)
  have HV := Lib.hid (fun (W : World) => light_any (W.alloc (.cells #[.string s] 22)) W.heap.size 8100 [s] (by simp) (by simp) (by omega) (by intro x hx; simp at hx; rcases hx with rfl; assumption) (one_cells s _))
  rw [hv] at HV
  clear htab hm hv hs
  go_enter Tryz.func3, Tryz.ntmps3
  go_wp2_with fail
  refine HL.out.mono ?_
  rintro e w1 ⟨rfl, hb1⟩
  have HB1 := Lib.hid hb1
  clear hb1 HL
  go_wp2_with fail
  refine (HV.out w1).mono ?_
  rintro e w2 ⟨rfl, hb2⟩
  have hb3 := HB1.out.alloc HB1.out.size (.cells #[.string s] 22)
  have HB := Lib.hid (hb3.trans (hb2.mono hb3.size))
  clear hb2 hb3 HV HB1
  go_wp2_with fail
  go_ret
  exact ⟨rfl, HB.out⟩

set_option maxHeartbeats 6400000 in
set_option maxRecDepth 100000 in
theorem ones_yes (s : ByteArray) (n m : Int) (w : World) (htab : Tab w) (hm : ML w) (hs : s.size ≤ 140737488351232) (hv : allL 8100 [s] = true)
    (n0 : -9223372036854775808 ≤ n) (n1 : n ≤ 9223372036854775807) (m0 : -9223372036854775808 ≤ m) (m1 : m ≤ 9223372036854775807) :
    Calls Tryz.prog 3 #[.string s, .int .i64 n, .int .i64 m] w fun e w' => e = .returned (.bool true) ∧ Below w.heap.size w w' := by
  have HL := Lib.hid (lives2_any w htab hm)
  have HV := Lib.hid (fun (W : World) => light_any (W.alloc (.cells #[.string s] 22)) W.heap.size 8100 [s] (by simp) (by simp) (by omega) (by intro x hx; simp at hx; rcases hx with rfl; assumption) (one_cells s _))
  rw [hv] at HV
  have hsz := allL_size1 hv
  obtain ⟨a0, c0, hp, hr⟩ := both_plain1 (both_Neg s (by omega))
  have P0 := Lib.hid (fun W (h : Below w.heap.size w W) => hp W (htab.below h) (ml_keep hm (ml_pos hm) h))
  have R0 := Lib.hid hr
  clear hp hr
  obtain ⟨a1, c1, hp, hr⟩ := both_plain1 (both_Abs s (by omega))
  have P1 := Lib.hid (fun W (h : Below w.heap.size w W) => hp W (htab.below h) (ml_keep hm (ml_pos hm) h))
  have R1 := Lib.hid hr
  clear hp hr
  obtain ⟨a2, c2, hp, hr⟩ := both_plain1 (both_Inv s (by omega))
  have P2 := Lib.hid (fun W (h : Below w.heap.size w W) => hp W (htab.below h) (ml_keep hm (ml_pos hm) h))
  have R2 := Lib.hid hr
  clear hp hr
  obtain ⟨a3, c3, hp, hr⟩ := both_plain1 (both_Pow s n (by omega) n0 n1)
  have P3 := Lib.hid (fun W (h : Below w.heap.size w W) => hp W (htab.below h) (ml_keep hm (ml_pos hm) h))
  have R3 := Lib.hid hr
  clear hp hr
  obtain ⟨a4, c4, hp, hr⟩ := both_plain1 (both_Floor s (by omega))
  have P4 := Lib.hid (fun W (h : Below w.heap.size w W) => hp W (htab.below h) (ml_keep hm (ml_pos hm) h))
  have R4 := Lib.hid hr
  clear hp hr
  obtain ⟨a5, c5, hp, hr⟩ := both_plain1 (both_Ceil s (by omega))
  have P5 := Lib.hid (fun W (h : Below w.heap.size w W) => hp W (htab.below h) (ml_keep hm (ml_pos hm) h))
  have R5 := Lib.hid hr
  clear hp hr
  obtain ⟨a6, b6, c6, hp, hr⟩ := both_Parts s (by omega)
  have P6 := Lib.hid (fun W (h : Below w.heap.size w W) => hp W (ml_keep hm (ml_pos hm) h))
  have R6 := Lib.hid hr
  clear hp hr
  obtain ⟨a7, c7, hp, hr⟩ := both_Sign s (by omega)
  have P7 := Lib.hid (fun W (h : Below w.heap.size w W) => hp W (ml_keep hm (ml_pos hm) h))
  have R7 := Lib.hid hr
  clear hp hr
  obtain ⟨c8, hp, hr⟩ := both_Check s (by omega)
  have P8 := Lib.hid (fun W (h : Below w.heap.size w W) => hp W (ml_keep hm (ml_pos hm) h))
  have R8 := Lib.hid hr
  clear hp hr
  obtain ⟨a9, hp, hr⟩ := both_Int m m0 m1
  have P9 := Lib.hid (fun W (h : Below w.heap.size w W) => hp W (htab.below h))
  have R9 := Lib.hid hr
  clear hp hr
  clear hsz n0 n1 m0 m1
  clear htab hm hv hs
  go_enter Tryz.func3, Tryz.ntmps3
  go_wp2_with fail
  refine HL.out.mono ?_
  rintro e w1 ⟨rfl, hb1⟩
  have HB1 := Lib.hid hb1
  clear hb1 HL
  go_wp2_with fail
  refine (HV.out w1).mono ?_
  rintro e w2 ⟨rfl, hb2⟩
  have hb3 := HB1.out.alloc HB1.out.size (.cells #[.string s] 22)
  have HB := Lib.hid (hb3.trans (hb2.mono hb3.size))
  clear hb2 hb3 HV HB1
  go_wp2_with fail
  refine (P0.out _ HB.out).mono ?_
  rintro e u0 ⟨rfl, hb⟩
  replace HB := Lib.hid (HB.out.trans (hb.mono HB.out.size))
  clear hb P0
  go_wp2_with fail
  refine (R0.out _).mono ?_
  rintro e v0 ⟨rfl, hb⟩
  replace HB := Lib.hid (HB.out.trans (hb.mono HB.out.size))
  clear hb R0
  go_wp2_with fail
  refine (P1.out _ HB.out).mono ?_
  rintro e u1 ⟨rfl, hb⟩
  replace HB := Lib.hid (HB.out.trans (hb.mono HB.out.size))
  clear hb P1
  go_wp2_with fail
  refine (R1.out _).mono ?_
  rintro e v1 ⟨rfl, hb⟩
  replace HB := Lib.hid (HB.out.trans (hb.mono HB.out.size))
  clear hb R1
  go_wp2_with fail
  refine (P2.out _ HB.out).mono ?_
  rintro e u2 ⟨rfl, hb⟩
  replace HB := Lib.hid (HB.out.trans (hb.mono HB.out.size))
  clear hb P2
  go_wp2_with fail
  refine (R2.out _).mono ?_
  rintro e v2 ⟨rfl, hb⟩
  replace HB := Lib.hid (HB.out.trans (hb.mono HB.out.size))
  clear hb R2
  go_wp2_with fail
  refine (P3.out _ HB.out).mono ?_
  rintro e u3 ⟨rfl, hb⟩
  replace HB := Lib.hid (HB.out.trans (hb.mono HB.out.size))
  clear hb P3
  go_wp2_with fail
  refine (R3.out _).mono ?_
  rintro e v3 ⟨rfl, hb⟩
  replace HB := Lib.hid (HB.out.trans (hb.mono HB.out.size))
  clear hb R3
  go_wp2_with fail
  refine (same_yes _ _ _).mono ?_
  rintro e ww ⟨rfl, rfl⟩
  go_wp2_with fail
  refine (same_yes _ _ _).mono ?_
  rintro e ww ⟨rfl, rfl⟩
  go_wp2_with fail
  refine (same_yes _ _ _).mono ?_
  rintro e ww ⟨rfl, rfl⟩
  go_wp2_with fail
  refine (same_yes _ _ _).mono ?_
  rintro e ww ⟨rfl, rfl⟩
  go_wp2_with fail
  refine (P4.out _ HB.out).mono ?_
  rintro e u4 ⟨rfl, hb⟩
  replace HB := Lib.hid (HB.out.trans (hb.mono HB.out.size))
  clear hb P4
  go_wp2_with fail
  refine (R4.out _).mono ?_
  rintro e v4 ⟨rfl, hb⟩
  replace HB := Lib.hid (HB.out.trans (hb.mono HB.out.size))
  clear hb R4
  go_wp2_with fail
  refine (P5.out _ HB.out).mono ?_
  rintro e u5 ⟨rfl, hb⟩
  replace HB := Lib.hid (HB.out.trans (hb.mono HB.out.size))
  clear hb P5
  go_wp2_with fail
  refine (R5.out _).mono ?_
  rintro e v5 ⟨rfl, hb⟩
  replace HB := Lib.hid (HB.out.trans (hb.mono HB.out.size))
  clear hb R5
  go_wp2_with fail
  refine (P6.out _ HB.out).mono ?_
  rintro e u6 ⟨rfl, hb⟩
  replace HB := Lib.hid (HB.out.trans (hb.mono HB.out.size))
  clear hb P6
  go_wp2_with fail
  refine (R6.out _).mono ?_
  rintro e v6 ⟨rfl, hb⟩
  replace HB := Lib.hid (HB.out.trans (hb.mono HB.out.size))
  clear hb R6
  go_wp2_with fail
  refine (P7.out _ HB.out).mono ?_
  rintro e u7 ⟨rfl, hb⟩
  replace HB := Lib.hid (HB.out.trans (hb.mono HB.out.size))
  clear hb P7
  go_wp2_with fail
  refine (R7.out _).mono ?_
  rintro e v7 ⟨rfl, hb⟩
  replace HB := Lib.hid (HB.out.trans (hb.mono HB.out.size))
  clear hb R7
  go_wp2_with fail
  refine (same_yes _ _ _).mono ?_
  rintro e ww ⟨rfl, rfl⟩
  go_wp2_with fail
  refine (same_yes _ _ _).mono ?_
  rintro e ww ⟨rfl, rfl⟩
  go_wp2_with fail
  refine (P8.out _ HB.out).mono ?_
  rintro e u8 ⟨rfl, hb⟩
  replace HB := Lib.hid (HB.out.trans (hb.mono HB.out.size))
  clear hb P8
  go_wp2_with fail
  refine (R8.out _).mono ?_
  rintro e v8 ⟨rfl, hb⟩
  replace HB := Lib.hid (HB.out.trans (hb.mono HB.out.size))
  clear hb R8
  go_wp2_with fail
  refine (P9.out _ HB.out).mono ?_
  rintro e u9 ⟨rfl, hb⟩
  replace HB := Lib.hid (HB.out.trans (hb.mono HB.out.size))
  clear hb P9
  go_wp2_with fail
  refine (R9.out _).mono ?_
  rintro e v9 ⟨rfl, hb⟩
  replace HB := Lib.hid (HB.out.trans (hb.mono HB.out.size))
  clear hb R9
  go_wp2_with fail
  go_ret
  exact ⟨ret_bool (by simp), HB.out⟩

end Go.Proofs.YtgeohcpmoleocaaGreatDoor
