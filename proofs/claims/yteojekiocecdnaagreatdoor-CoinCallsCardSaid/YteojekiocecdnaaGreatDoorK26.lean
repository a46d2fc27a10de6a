/-
  CoinCalls returns true for any texts and int.
-/
import Derived.Test.YteojekiocecdnaaGreatDoorKG
import Derived.Test.YteojekiocecdnaaGreatDoorKH
import Derived.Test.YteojekiocecdnaaGreatDoorKE
import Derived.Test.YteojekiocecdnaaGreatDoorKF
namespace Go.Proofs.YteojekiocecdnaaGreatDoor
open Go.RowKit NV
open Go.Lib (decDigits)

theorem schk_c4 {b : ByteArray} (hc : schk b = 0) : IsBits b.data.toList ∧ b.size ≤ 256 := by
  have hb : IsBits b.data.toList := by
    rcases Classical.em (IsBits b.data.toList) with h | h
    · exact h
    · unfold schk at hc; rw [bchk_no h, if_pos (by omega)] at hc; omega
  refine ⟨hb, ?_⟩
  unfold schk at hc
  rw [bchk_yes hb, if_neg (by omega)] at hc
  rcases Nat.lt_or_ge 256 b.size with h | h
  · rw [if_pos h] at hc; omega
  · exact h

/-- The program's Draw and the reference's return the same. -/
theorem both_Draw4 {s b : ByteArray} (hs : s.size ≤ 1000000) (hb : b.size ≤ 1000000) : ∃ (d : Bool) (v u c : Int),
    (∀ W, Tab W → ML W → Calls Tryz.prog 11 #[.string s, .string b] W fun e w' => e = .returned (.tuple #[.agg #[.bool d, .int .i64 v, .int .i64 u], .int .i64 c]) ∧ Below W.heap.size W w') ∧
    (∀ W, Calls Tryz.prog 12 #[.string s, .string b] W fun e w' => e = .returned (.tuple #[.agg #[.bool d, .int .i64 v, .int .i64 u], .int .i64 c]) ∧ Below W.heap.size W w') := by
  by_cases hp : prE s = 0
  · obtain ⟨q, rfl, op, _, _, _, hpe⟩ := prob_cases hp
    by_cases hc : schk b = 0
    · obtain ⟨h1, h2⟩ := schk_c4 hc
      exact ⟨_, _, _, _, fun W ht hm => Draw_ok op hpe h1 h2 W ht hm, fun W => rDraw_ok op hpe h1 h2 W⟩
    · exact ⟨_, _, _, _, fun W _ hm => Draw_b op hpe hc (by omega) W hm, fun W => rDraw_b hs hp hc (by omega) W⟩
  · exact ⟨_, _, _, _, fun W _ hm => Draw_p hs hp W hm, fun W => rDraw_p hs hp W⟩

theorem both_Late4 {s : ByteArray} (hs : s.size ≤ 1000000) (n : Int) : ∃ (t : ByteArray) (c : Int),
    (∀ W, Tab W → ML W → Calls Tryz.prog 13 #[.string s, .int .i64 n] W fun e w' => e = .returned (.tuple #[.string t, .int .i64 c]) ∧ Below W.heap.size W w') ∧
    (∀ W, Calls Tryz.prog 14 #[.string s, .int .i64 n] W fun e w' => e = .returned (.tuple #[.string t, .int .i64 c]) ∧ Below W.heap.size W w') := by
  by_cases hp : prE s = 0
  · by_cases hn : n < 0 ∨ 256 < n
    · obtain ⟨q, hq, op, _, _, _, hpe⟩ := prob_cases hp
      refine ⟨_, _, fun W _ hm => ?_, fun W => rLate_err hs (.inr ⟨hp, hn, rfl⟩) W⟩
      rw [hq]; exact Late_r op hpe n hn W hm
    · obtain ⟨q, rfl, op, _, _, _, hpe⟩ := prob_cases hp
      obtain ⟨k, rfl⟩ := Int.eq_ofNat_of_zero_le (show 0 ≤ n by omega)
      exact ⟨_, _, fun W ht hm => Late_ok op hpe (by omega) W ht hm, fun W => rLate_ok op hpe (by omega) W⟩
  · exact ⟨_, _, fun W _ hm => Late_p hs hp n W hm, fun W => rLate_err hs (.inl ⟨hp, rfl⟩) W⟩

theorem both_Law4 {s : ByteArray} (hs : s.size ≤ 1000000) (n : Int) : ∃ (L : List (ByteArray × ByteArray)) (c : Int), L.length ≤ 3 ∧
    (∀ W, Tab W → ML W → Calls Tryz.prog 15 #[.string s, .int .i64 n] W fun e w' => ∃ v, e = .returned (.tuple #[v, .int .i64 c]) ∧ w'.ownsRow W.heap.size 38 2 v L.length (cellsM L) ∧ Below W.heap.size W w') ∧
    (∀ W, Calls Tryz.prog 16 #[.string s, .int .i64 n] W fun e w' => ∃ v, e = .returned (.tuple #[v, .int .i64 c]) ∧ w'.ownsRow W.heap.size 38 2 v L.length (cellsM L) ∧ Below W.heap.size W w') := by
  have nil : ∀ (f : Nat) (c : Int) (W : World), (Calls Tryz.prog f #[.string s, .int .i64 n] W fun e w' => e = .returned (.tuple #[.slice none 0 0, .int .i64 c]) ∧ Below W.heap.size W w') →
      Calls Tryz.prog f #[.string s, .int .i64 n] W fun e w' => ∃ v, e = .returned (.tuple #[v, .int .i64 c]) ∧ w'.ownsRow W.heap.size 38 2 v ([] : List (ByteArray × ByteArray)).length (cellsM []) ∧ Below W.heap.size W w' :=
    fun f c W h => h.mono fun e w' ⟨h1, h2⟩ => ⟨_, h1, World.ownsRow_nil _ _ _ _, h2⟩
  by_cases hp : prE s = 0
  · by_cases hn : n < 0 ∨ 256 < n
    · obtain ⟨q, hq, op, _, _, _, hpe⟩ := prob_cases hp
      refine ⟨[], 2, by simp, fun W _ hm => nil _ _ W ?_, fun W => nil _ _ W (rLaw_err hs (.inr ⟨hp, hn, rfl⟩) W)⟩
      rw [hq]; exact Law_r op hpe n hn W hm
    · obtain ⟨q, rfl, op, _, _, _, hpe⟩ := prob_cases hp
      obtain ⟨k, rfl⟩ := Int.eq_ofNat_of_zero_le (show 0 ≤ n by omega)
      exact ⟨_, _, Nat.le_trans (fltM_len _) (by simp [lawM]), fun W ht hm => Law_ok op hpe (by omega) W ht hm, fun W => rLaw_ok op hpe (by omega) W⟩
  · exact ⟨[], _, by simp, fun W _ hm => nil _ _ W (Law_p hs hp n W hm), fun W => nil _ _ W (rLaw_err hs (.inl ⟨hp, rfl⟩) W)⟩

set_option maxHeartbeats 3200000 in
set_option maxRecDepth 100000 in
theorem ccalls_far1 {s b : ByteArray} {n : Int} (h1 : 1100 < s.size) (w : World) (htab : Tab w) (hm : ML w) :
    Calls Tryz.prog 3 #[.string s, .string b, .int .i64 n] w fun e w' => e = .returned (.bool true) ∧ Below w.heap.size w w' := by
  have HL := Lib.hid (lives4_any w htab hm)
  clear htab hm
  go_enter Tryz.func3, Tryz.ntmps3
  go_wp2_with fail
  refine HL.out.mono ?_
  rintro e w1 ⟨rfl, hb1⟩
  have HB := Lib.hid hb1
  clear hb1 HL
  go_wp2_with fail
  go_ret
  exact ⟨rfl, HB.out⟩

set_option maxHeartbeats 3200000 in
set_option maxRecDepth 100000 in
theorem ccalls_far2 {s b : ByteArray} {n : Int} (h1 : ¬ 1100 < s.size) (h2 : 300 < b.size) (w : World) (htab : Tab w) (hm : ML w) :
    Calls Tryz.prog 3 #[.string s, .string b, .int .i64 n] w fun e w' => e = .returned (.bool true) ∧ Below w.heap.size w w' := by
  have HL := Lib.hid (lives4_any w htab hm)
  clear htab hm
  go_enter Tryz.func3, Tryz.ntmps3
  go_wp2_with fail
  refine HL.out.mono ?_
  rintro e w1 ⟨rfl, hb1⟩
  have HB := Lib.hid hb1
  clear hb1 HL
  go_wp2_with fail
  go_ret
  exact ⟨rfl, HB.out⟩

set_option maxHeartbeats 12800000 in
set_option maxRecDepth 100000 in
theorem ccalls_yes {s b : ByteArray} {n : Int} (h1 : ¬ 1100 < s.size) (h2 : ¬ 300 < b.size) (w : World) (htab : Tab w) (hm : ML w) :
    Calls Tryz.prog 3 #[.string s, .string b, .int .i64 n] w fun e w' => e = .returned (.bool true) ∧ Below w.heap.size w w' := by
  have HL := Lib.hid (lives4_any w htab hm)
  have HTAB := Lib.hid (fun W (h : Below w.heap.size w W) => And.intro (htab.below h) (ml_keep hm (ml_pos hm) h))
  obtain ⟨d, v, u, c, g1, g2⟩ := both_Draw4 (s := s) (b := b) (by omega) (by omega)
  obtain ⟨t, c2, g3, g4⟩ := both_Late4 (s := s) (by omega) n
  obtain ⟨L, c3, hL, g5, g6⟩ := both_Law4 (s := s) (by omega) n
  have HE := Lib.hid (fun W => (eq_draw d d v u v u W).trans (show _ = Result.ok (Value.bool true) W by simp))
  have H1 := Lib.hid (fun W (h : Below w.heap.size w W) => g1 W (HTAB.out W h).1 (HTAB.out W h).2)
  have H2 := Lib.hid g2
  have H3 := Lib.hid (fun W (h : Below w.heap.size w W) => g3 W (HTAB.out W h).1 (HTAB.out W h).2)
  have H4 := Lib.hid g4
  have H5 := Lib.hid (fun W (h : Below w.heap.size w W) => g5 W (HTAB.out W h).1 (HTAB.out W h).2)
  have H6 := Lib.hid g6
  have HLN := Lib.hid hL
  clear g1 g2 g3 g4 g5 g6 hL htab hm HTAB
  go_enter Tryz.func3, Tryz.ntmps3
  go_wp2_with fail
  refine HL.out.mono ?_
  rintro e w1 ⟨rfl, hb1⟩
  have HB := Lib.hid hb1
  clear hb1 HL
  go_wp2_with fail
  refine (H1.out _ HB.out).mono ?_
  rintro e w2 ⟨rfl, hb⟩
  have HD1 := Lib.hid (DB.newv w2 d v u)
  replace HB := Lib.hid (HB.out.trans ((hb.alloc hb.size (.cells #[.bool d, .int .i64 v, .int .i64 u] 26)).mono HB.out.size))
  clear hb H1
  go_wp2_with fail
  refine (H2.out _).mono ?_
  rintro e w3 ⟨rfl, hb⟩
  replace HD1 := Lib.hid (HD1.out.below (hb.alloc hb.size (.cells #[.bool d, .int .i64 v, .int .i64 u] 26)))
  have HD2 := Lib.hid (DB.newv w3 d v u)
  replace HB := Lib.hid (HB.out.trans ((hb.alloc hb.size (.cells #[.bool d, .int .i64 v, .int .i64 u] 26)).mono HB.out.size))
  clear hb H2
  go_wp2_with fail
  refine (H3.out _ HB.out).mono ?_
  rintro e w4 ⟨rfl, hb⟩
  replace HD1 := Lib.hid (HD1.out.below hb)
  replace HD2 := Lib.hid (HD2.out.below hb)
  replace HB := Lib.hid (HB.out.trans (hb.mono HB.out.size))
  clear hb H3
  go_wp2_with fail
  refine (H4.out _).mono ?_
  rintro e w5 ⟨rfl, hb⟩
  replace HD1 := Lib.hid (HD1.out.below hb)
  replace HD2 := Lib.hid (HD2.out.below hb)
  replace HB := Lib.hid (HB.out.trans (hb.mono HB.out.size))
  clear hb H4
  go_wp2_with fail
  refine (H5.out _ HB.out).mono ?_
  rintro e w6 ⟨v1, rfl, hr, hb⟩
  replace HD1 := Lib.hid (HD1.out.below hb)
  replace HD2 := Lib.hid (HD2.out.below hb)
  replace HB := Lib.hid (HB.out.trans (hb.mono HB.out.size))
  have HR1 := Lib.hid hr
  clear hb hr H5
  go_wp2_with fail
  refine (H6.out _).mono ?_
  rintro e w7 ⟨v2, rfl, hr, hb⟩
  replace HD1 := Lib.hid (HD1.out.below hb)
  replace HD2 := Lib.hid (HD2.out.below hb)
  replace HB := Lib.hid (HB.out.trans (hb.mono HB.out.size))
  have HS := Lib.hid (Same_mass (row_below2 HR1.out hb) hr (Nat.le_trans HLN.out (by omega)))
  clear hb hr H6 HR1
  obtain ⟨c00, c01, c02⟩ := HD1.out.cells
  obtain ⟨c10, c11, c12⟩ := HD2.out.cells
  have he := HE.out
  go_wp2_with fail
  refine HS.out.mono ?_
  rintro e w8 ⟨rfl, hb⟩
  replace HB := Lib.hid (HB.out.trans (hb.mono HB.out.size))
  clear hb
  go_wp2_with fail
  go_ret
  exact ⟨ret_bool (by simp), HB.out⟩

theorem ccalls_any (s b : ByteArray) (n : Int) (w : World) (htab : Tab w) (hm : ML w) :
    Calls Tryz.prog 3 #[.string s, .string b, .int .i64 n] w fun e w' => e = .returned (.bool true) ∧ Below w.heap.size w w' := by
  by_cases h1 : 1100 < s.size
  · exact ccalls_far1 h1 w htab hm
  · by_cases h2 : 300 < b.size
    · exact ccalls_far2 h1 h2 w htab hm
    · exact ccalls_yes h1 h2 w htab hm

end Go.Proofs.YteojekiocecdnaaGreatDoor
