/-
  CoinLonger returns true for any texts. CoinLonger, put together.
-/
import Derived.Test.YtgeohcpmoleocaaGreatDoorKB
namespace Go.Proofs.YtgeohcpmoleocaaGreatDoor
open Go.RowKit NV
open Go.Lib (decDigits)

theorem neq_draw (d e : Bool) (u v x y : Int) (W : World) : (binOp .neq 61 (.agg #[.bool d, .int .i64 u, .int .i64 v]) (.agg #[.bool e, .int .i64 x, .int .i64 y])).run Tryz.prog W = .ok (.bool (!(d == e && (u == x && v == y)))) W := by
  rw [run_neq_struct, eqIn_draw]; rfl

/-- What a call of Draw returns. -/
abbrev DrawIs (s b : ByteArray) (d : Bool) (v u : Int) (c : Int) (w : World) : Prop :=
  Calls Tryz.prog 60 #[.string s, .string b] w fun e w' => e = .returned (.tuple #[.agg #[.bool d, .int .i64 v, .int .i64 u], .int .i64 c]) ∧ Below w.heap.size w w'
theorem draw_is {q : Rat} {b : ByteArray} {d : Bool} {v u : Nat} (op : QOk q) (hp : probE q = 0) (hb : IsBits b.data.toList) (hs : b.size ≤ 256) (hT : tossF q.den b.data.toList (tp q) 0 = (d, v, u)) (w : World) (htab : Tab w) (hm : ML w) : DrawIs (qstr q) b d (v : Nat) (u : Nat) 0 w := by
  have h := Draw_ok op hp hb hs w htab hm
  rw [hT] at h
  exact h
abbrev dObj (d : Bool) (v u : Int) : Obj := .cells #[.bool d, .int .i64 v, .int .i64 u] 61

theorem take_extract (b : ByteArray) (n : Nat) : (b.extract 0 n).data.toList = b.data.toList.take n := by
  rw [Go.Lib.extract_data, List.drop_zero, Nat.sub_zero]

set_option maxHeartbeats 3200000 in
set_option maxRecDepth 100000 in
theorem longer_long1 (p b m : ByteArray) (hp : 100 < p.size) (w : World) (htab : Tab w) (hm : ML w) :
    Calls Tryz.prog 13 #[.string p, .string b, .string m] w fun e w' => e = .returned (.bool true) ∧ Below w.heap.size w w' := by
  have HL := Lib.hid (lives4_any w htab hm)
  clear htab hm
  go_enter Tryz.func13, Tryz.ntmps13
  go_wp2_with fail
  refine HL.out.mono ?_
  rintro e w1 ⟨rfl, hb1⟩
  have HB := Lib.hid hb1
  clear hb1 HL
  go_wp2_with fail
  go_ret
  exact ⟨rfl, HB.out⟩

set_option maxHeartbeats 3200000 in
set_option maxRecDepth 100000 in
theorem longer_long2 (p b m : ByteArray) (hp : ¬ 100 < p.size) (hb : 120 < b.size) (w : World) (htab : Tab w) (hm : ML w) :
    Calls Tryz.prog 13 #[.string p, .string b, .string m] w fun e w' => e = .returned (.bool true) ∧ Below w.heap.size w w' := by
  have HL := Lib.hid (lives4_any w htab hm)
  clear htab hm
  go_enter Tryz.func13, Tryz.ntmps13
  go_wp2_with fail
  refine HL.out.mono ?_
  rintro e w1 ⟨rfl, hb1⟩
  have HB := Lib.hid hb1
  clear hb1 HL
  go_wp2_with fail
  go_ret
  exact ⟨rfl, HB.out⟩

set_option maxHeartbeats 3200000 in
set_option maxRecDepth 100000 in
theorem longer_long3 (p b m : ByteArray) (hp : ¬ 100 < p.size) (hb : ¬ 120 < b.size) (hmm : 120 < m.size) (w : World) (htab : Tab w) (hm : ML w) :
    Calls Tryz.prog 13 #[.string p, .string b, .string m] w fun e w' => e = .returned (.bool true) ∧ Below w.heap.size w w' := by
  have HL := Lib.hid (lives4_any w htab hm)
  clear htab hm
  go_enter Tryz.func13, Tryz.ntmps13
  go_wp2_with fail
  refine HL.out.mono ?_
  rintro e w1 ⟨rfl, hb1⟩
  have HB := Lib.hid hb1
  clear hb1 HL
  go_wp2_with fail
  go_ret
  exact ⟨rfl, HB.out⟩

set_option maxHeartbeats 6400000 in
set_option maxRecDepth 100000 in
theorem longer_err2 (p b m : ByteArray) {c1 c2 : Int} (g1 : (c1 != 0) = true) (g2 : (c2 == 0) = false) (g3 : (c1 == 0) = false) (hp : ¬ 100 < p.size) (hb : ¬ 120 < b.size) (hm1 : ¬ 120 < m.size) (w : World) (htab : Tab w) (hm : ML w)
    (h1 : ∀ W, Below w.heap.size w W → DrawIs p b false 0 0 c1 W) (h2 : ∀ W, Below w.heap.size w W → DrawIs p (b ++ m) false 0 0 c2 W) :
    Calls Tryz.prog 13 #[.string p, .string b, .string m] w fun e w' => e = .returned (.bool true) ∧ Below w.heap.size w w' := by
  have HL := Lib.hid (lives4_any w htab hm)
  clear htab hm
  have H1 := Lib.hid h1
  clear h1
  have H2 := Lib.hid h2
  clear h2
  go_enter Tryz.func13, Tryz.ntmps13
  go_wp2_with fail
  refine HL.out.mono ?_
  rintro e w1 ⟨rfl, hb1⟩
  have HB := Lib.hid hb1
  clear hb1 HL
  go_wp2_with fail
  refine (H1.out _ HB.out).mono ?_
  rintro e w2 ⟨rfl, hb⟩
  have HD1 := Lib.hid (DB.newv w2 false 0 0)
  replace HB := Lib.hid (HB.out.trans ((hb.alloc hb.size (dObj false 0 0)).mono HB.out.size))
  clear hb H1
  go_wp2_with fail
  refine (H2.out _ HB.out).mono ?_
  rintro e w3 ⟨rfl, hb⟩
  replace HD1 := Lib.hid (HD1.out.below (hb.alloc hb.size (dObj false 0 0)))
  have HD2 := Lib.hid (DB.newv w3 false 0 0)
  replace HB := Lib.hid (HB.out.trans ((hb.alloc hb.size (dObj false 0 0)).mono HB.out.size))
  clear hb H2
  obtain ⟨c10, c11, c12⟩ := HD1.out.cells
  obtain ⟨c20, c21, c22⟩ := HD2.out.cells
  have he := eq_draw false false 0 0 0 0
  go_wp2_with fail
  go_ret
  exact ⟨rfl, HB.out⟩

set_option maxHeartbeats 6400000 in
set_option maxRecDepth 100000 in
theorem longer_err1 (p b m : ByteArray) {d : Bool} {v u : Int} {c2 : Int} (g2 : (c2 == 0) = false) (g4 : (c2 != 0) = true) (hp : ¬ 100 < p.size) (hb : ¬ 120 < b.size) (hm1 : ¬ 120 < m.size) (w : World) (htab : Tab w) (hm : ML w)
    (h1 : ∀ W, Below w.heap.size w W → DrawIs p b d v u 0 W) (h2 : ∀ W, Below w.heap.size w W → DrawIs p (b ++ m) false 0 0 c2 W) :
    Calls Tryz.prog 13 #[.string p, .string b, .string m] w fun e w' => e = .returned (.bool true) ∧ Below w.heap.size w w' := by
  have HL := Lib.hid (lives4_any w htab hm)
  clear htab hm
  have H1 := Lib.hid h1
  clear h1
  have H2 := Lib.hid h2
  clear h2
  go_enter Tryz.func13, Tryz.ntmps13
  go_wp2_with fail
  refine HL.out.mono ?_
  rintro e w1 ⟨rfl, hb1⟩
  have HB := Lib.hid hb1
  clear hb1 HL
  go_wp2_with fail
  refine (H1.out _ HB.out).mono ?_
  rintro e w2 ⟨rfl, hb⟩
  have HD1 := Lib.hid (DB.newv w2 d v u)
  replace HB := Lib.hid (HB.out.trans ((hb.alloc hb.size (dObj d v u)).mono HB.out.size))
  clear hb H1
  go_wp2_with fail
  refine (H2.out _ HB.out).mono ?_
  rintro e w3 ⟨rfl, hb⟩
  replace HD1 := Lib.hid (HD1.out.below (hb.alloc hb.size (dObj false 0 0)))
  have HD2 := Lib.hid (DB.newv w3 false 0 0)
  replace HB := Lib.hid (HB.out.trans ((hb.alloc hb.size (dObj false 0 0)).mono HB.out.size))
  clear hb H2
  obtain ⟨c10, c11, c12⟩ := HD1.out.cells
  obtain ⟨c20, c21, c22⟩ := HD2.out.cells
  have he := eq_draw false false 0 0 0 0
  go_wp2_with fail
  go_ret
  exact ⟨rfl, HB.out⟩

set_option maxHeartbeats 6400000 in
set_option maxRecDepth 100000 in
theorem longer_open (p b m : ByteArray) {d : Bool} {v u : Int} (hd : d = true → (b.size : Int) < u) (hp : ¬ 100 < p.size) (hb : ¬ 120 < b.size) (hm1 : ¬ 120 < m.size) (w : World) (htab : Tab w) (hm : ML w)
    (h1 : ∀ W, Below w.heap.size w W → DrawIs p b false 0 (b.size : Int) 0 W) (h2 : ∀ W, Below w.heap.size w W → DrawIs p (b ++ m) d v u 0 W) :
    Calls Tryz.prog 13 #[.string p, .string b, .string m] w fun e w' => e = .returned (.bool true) ∧ Below w.heap.size w w' := by
  have HL := Lib.hid (lives4_any w htab hm)
  clear htab hm
  have H1 := Lib.hid h1
  clear h1
  have H2 := Lib.hid h2
  clear h2
  go_enter Tryz.func13, Tryz.ntmps13
  go_wp2_with fail
  refine HL.out.mono ?_
  rintro e w1 ⟨rfl, hb1⟩
  have HB := Lib.hid hb1
  clear hb1 HL
  go_wp2_with fail
  refine (H1.out _ HB.out).mono ?_
  rintro e w2 ⟨rfl, hb⟩
  have HD1 := Lib.hid (DB.newv w2 false 0 (b.size : Int))
  replace HB := Lib.hid (HB.out.trans ((hb.alloc hb.size (dObj false 0 (b.size : Int))).mono HB.out.size))
  clear hb H1
  go_wp2_with fail
  refine (H2.out _ HB.out).mono ?_
  rintro e w3 ⟨rfl, hb⟩
  replace HD1 := Lib.hid (HD1.out.below (hb.alloc hb.size (dObj d v u)))
  have HD2 := Lib.hid (DB.newv w3 d v u)
  replace HB := Lib.hid (HB.out.trans ((hb.alloc hb.size (dObj d v u)).mono HB.out.size))
  clear hb H2
  obtain ⟨c10, c11, c12⟩ := HD1.out.cells
  obtain ⟨c20, c21, c22⟩ := HD2.out.cells
  cases d with
  | false =>
    go_wp2_with fail
    go_ret
    exact ⟨rfl, HB.out⟩
  | true =>
    have hu := hd rfl
    clear hd
    go_wp2_with fail
    go_ret
    exact ⟨ret_bool (by simp), HB.out⟩

set_option maxHeartbeats 6400000 in
set_option maxRecDepth 100000 in
theorem longer_none (p b m : ByteArray) {v : Int} {U : Nat} (hU0 : ((U : Int) == 0) = true) (hU : U ≤ b.size) (h01 : (p.toList == [48]) = true ∨ (p.toList == [48]) = false ∧ (p.toList == [49]) = true) (hp : ¬ 100 < p.size) (hb : ¬ 120 < b.size) (hm1 : ¬ 120 < m.size) (w : World) (htab : Tab w) (hm : ML w)
    (h1 : ∀ W, Below w.heap.size w W → DrawIs p b true v (U : Int) 0 W) (h2 : ∀ W, Below w.heap.size w W → DrawIs p (b ++ m) true v (U : Int) 0 W) (h3 : ∀ W, Below w.heap.size w W → DrawIs p (b.extract 0 U) true v (U : Int) 0 W) :
    Calls Tryz.prog 13 #[.string p, .string b, .string m] w fun e w' => e = .returned (.bool true) ∧ Below w.heap.size w w' := by
  have HL := Lib.hid (lives4_any w htab hm)
  clear htab hm
  have H1 := Lib.hid h1
  clear h1
  have H2 := Lib.hid h2
  clear h2
  have H3 := Lib.hid h3
  clear h3
  have H01 := Lib.hid h01
  clear h01
  go_enter Tryz.func13, Tryz.ntmps13
  go_wp2_with fail
  refine HL.out.mono ?_
  rintro e w1 ⟨rfl, hb1⟩
  have HB := Lib.hid hb1
  clear hb1 HL
  go_wp2_with fail
  refine (H1.out _ HB.out).mono ?_
  rintro e w2 ⟨rfl, hb⟩
  have HD1 := Lib.hid (DB.newv w2 true v (U : Int))
  replace HB := Lib.hid (HB.out.trans ((hb.alloc hb.size (dObj true v (U : Int))).mono HB.out.size))
  clear hb H1
  go_wp2_with fail
  refine (H2.out _ HB.out).mono ?_
  rintro e w3 ⟨rfl, hb⟩
  replace HD1 := Lib.hid (HD1.out.below (hb.alloc hb.size (dObj true v (U : Int))))
  have HD2 := Lib.hid (DB.newv w3 true v (U : Int))
  replace HB := Lib.hid (HB.out.trans ((hb.alloc hb.size (dObj true v (U : Int))).mono HB.out.size))
  clear hb H2
  obtain ⟨c10, c11, c12⟩ := HD1.out.cells
  obtain ⟨c20, c21, c22⟩ := HD2.out.cells
  go_wp2_with fail
  clear c10 c11 c12 c20 c21 c22
  refine (H3.out _ HB.out).mono ?_
  rintro e w4 ⟨rfl, hb⟩
  replace HD1 := Lib.hid (HD1.out.below (hb.alloc hb.size (dObj true v (U : Int))))
  replace HD2 := Lib.hid (HD2.out.below (hb.alloc hb.size (dObj true v (U : Int))))
  have HD3 := Lib.hid (DB.newv w4 true v (U : Int))
  replace HB := Lib.hid (HB.out.trans ((hb.alloc hb.size (dObj true v (U : Int))).mono HB.out.size))
  clear hb H3
  obtain ⟨c10, c11, c12⟩ := HD1.out.cells
  obtain ⟨c20, c21, c22⟩ := HD2.out.cells
  obtain ⟨c30, c31, c32⟩ := HD3.out.cells
  have he := neq_draw true true v (U : Int) v (U : Int)
  rcases H01.out with h01 | ⟨h01, h02⟩
  · go_wp2_with fail
    go_ret
    exact ⟨rfl, HB.out⟩
  · go_wp2_with fail
    go_ret
    exact ⟨rfl, HB.out⟩

set_option maxHeartbeats 6400000 in
set_option maxRecDepth 100000 in
theorem longer_some (p b m : ByteArray) {v v2 u2 : Int} {U : Nat} (hU : U + 1 ≤ b.size) (hp : ¬ 100 < p.size) (hb : ¬ 120 < b.size) (hm1 : ¬ 120 < m.size) (w : World) (htab : Tab w) (hm : ML w)
    (h1 : ∀ W, Below w.heap.size w W → DrawIs p b true v ((U : Int) + 1) 0 W) (h2 : ∀ W, Below w.heap.size w W → DrawIs p (b ++ m) true v ((U : Int) + 1) 0 W) (h3 : ∀ W, Below w.heap.size w W → DrawIs p (b.extract 0 (U + 1)) true v ((U : Int) + 1) 0 W) (h4 : ∀ W, Below w.heap.size w W → DrawIs p (b.extract 0 U) false v2 u2 0 W) :
    Calls Tryz.prog 13 #[.string p, .string b, .string m] w fun e w' => e = .returned (.bool true) ∧ Below w.heap.size w w' := by
  have HL := Lib.hid (lives4_any w htab hm)
  clear htab hm
  have H1 := Lib.hid h1
  clear h1
  have H2 := Lib.hid h2
  clear h2
  have H3 := Lib.hid h3
  clear h3
  have H4 := Lib.hid h4
  clear h4
  go_enter Tryz.func13, Tryz.ntmps13
  go_wp2_with fail
  refine HL.out.mono ?_
  rintro e w1 ⟨rfl, hb1⟩
  have HB := Lib.hid hb1
  clear hb1 HL
  go_wp2_with fail
  refine (H1.out _ HB.out).mono ?_
  rintro e w2 ⟨rfl, hb⟩
  have HD1 := Lib.hid (DB.newv w2 true v ((U : Int) + 1))
  replace HB := Lib.hid (HB.out.trans ((hb.alloc hb.size (dObj true v ((U : Int) + 1))).mono HB.out.size))
  clear hb H1
  go_wp2_with fail
  refine (H2.out _ HB.out).mono ?_
  rintro e w3 ⟨rfl, hb⟩
  replace HD1 := Lib.hid (HD1.out.below (hb.alloc hb.size (dObj true v ((U : Int) + 1))))
  have HD2 := Lib.hid (DB.newv w3 true v ((U : Int) + 1))
  replace HB := Lib.hid (HB.out.trans ((hb.alloc hb.size (dObj true v ((U : Int) + 1))).mono HB.out.size))
  clear hb H2
  obtain ⟨c10, c11, c12⟩ := HD1.out.cells
  obtain ⟨c20, c21, c22⟩ := HD2.out.cells
  go_wp2_with fail
  clear c10 c11 c12 c20 c21 c22
  refine (H3.out _ HB.out).mono ?_
  rintro e w4 ⟨rfl, hb⟩
  replace HD1 := Lib.hid (HD1.out.below (hb.alloc hb.size (dObj true v ((U : Int) + 1))))
  replace HD2 := Lib.hid (HD2.out.below (hb.alloc hb.size (dObj true v ((U : Int) + 1))))
  have HD3 := Lib.hid (DB.newv w4 true v ((U : Int) + 1))
  replace HB := Lib.hid (HB.out.trans ((hb.alloc hb.size (dObj true v ((U : Int) + 1))).mono HB.out.size))
  clear hb H3
  obtain ⟨c10, c11, c12⟩ := HD1.out.cells
  obtain ⟨c20, c21, c22⟩ := HD2.out.cells
  obtain ⟨c30, c31, c32⟩ := HD3.out.cells
  have he := neq_draw true true v ((U : Int) + 1) v ((U : Int) + 1)
  go_wp2_with fail
  clear c10 c11 c12 c20 c21 c22 c30 c31 c32
  refine (H4.out _ HB.out).mono ?_
  rintro e w5 ⟨rfl, hb⟩
  have HD4 := Lib.hid (DB.newv w5 false v2 u2)
  replace HB := Lib.hid (HB.out.trans ((hb.alloc hb.size (dObj false v2 u2)).mono HB.out.size))
  clear hb H4
  obtain ⟨c40, c41, c42⟩ := HD4.out.cells
  go_wp2_with fail
  go_ret
  exact ⟨rfl, HB.out⟩

open Go.RowKit NV
open Go.Lib (decDigits)

theorem qstr_int {q : Rat} (hn : ng q = false) (hd : q.den = 1) : qstr q = dstr (tp q) := by
  unfold qstr; rw [rstr_eq, if_pos hd, hn]; rfl
theorem prob_ends {q : Rat} (hn : ng q = false) (hle : tp q ≤ q.den) (h : tp q = 0 ∨ q.den ≤ tp q) : ((qstr q).toList == [48]) = true ∨ ((qstr q).toList == [48]) = false ∧ ((qstr q).toList == [49]) = true := by
  have hg := qcop q
  rcases h with h | h
  · rw [h, Nat.gcd_zero_left] at hg
    left
    rw [qstr_int hn hg, h, zero_is]; rfl
  · have he : tp q = q.den := by omega
    rw [he, Nat.gcd_self] at hg
    right
    rw [qstr_int hn hg, he, hg, zero_is, dstr_is 1 49 (by decide)]
    exact ⟨rfl, rfl⟩

theorem draw_bad_p {s b : ByteArray} (hs : s.size ≤ 1000000) (hp : prE s ≠ 0) (w : World) (hm : ML w) : DrawIs s b false 0 0 ((prE s : Nat) : Int) w := Draw_p hs hp w hm
theorem draw_bad_b {q : Rat} {b : ByteArray} (op : QOk q) (hp : probE q = 0) (hb : schk b ≠ 0) (hbs : b.size ≤ 140737488351232) (w : World) (hm : ML w) : DrawIs (qstr q) b false 0 0 ((schk b : Nat) : Int) w := Draw_b op hp hb hbs w hm
theorem schk_formK {s : ByteArray} (h : ¬ IsBits s.data.toList) : schk s = 3 := by unfold schk; rw [bchk_no h, if_pos (by omega)]
theorem app_bits {a b : ByteArray} : IsBits (a ++ b).data.toList ↔ IsBits a.data.toList ∧ IsBits b.data.toList := by
  rw [app_list]
  exact ⟨fun h => ⟨fun c hc => h c (List.mem_append.2 (.inl hc)), fun c hc => h c (List.mem_append.2 (.inr hc))⟩, fun h c hc => (List.mem_append.1 hc).elim (h.1 c) (h.2 c)⟩

theorem longer_any (p b m : ByteArray) (w : World) (htab : Tab w) (hm : ML w) :
    Calls Tryz.prog 13 #[.string p, .string b, .string m] w fun e w' => e = .returned (.bool true) ∧ Below w.heap.size w w' := by
  by_cases h1 : 100 < p.size
  · exact longer_long1 p b m h1 w htab hm
  by_cases h2 : 120 < b.size
  · exact longer_long2 p b m h1 h2 w htab hm
  by_cases h3 : 120 < m.size
  · exact longer_long3 p b m h1 h2 h3 w htab hm
  have hT := fun W (h : Below w.heap.size w W) => htab.below h
  have hM := fun W (h : Below w.heap.size w W) => ml_keep hm (ml_pos hm) h
  have hbm : (b ++ m).size = b.size + m.size := ByteArray.size_append
  by_cases hE : prE p = 0
  · obtain ⟨q, rfl, op, hn, hle, _, hpe⟩ := prob_cases hE
    by_cases hB : IsBits b.data.toList
    · by_cases hMm : IsBits m.data.toList
      · have hBM : IsBits (b ++ m).data.toList := app_bits.2 ⟨hB, hMm⟩
        have hd2 := fun W h => draw_is op hpe hBM (by omega) (d := (tossF q.den (b ++ m).data.toList (tp q) 0).1) (v := (tossF q.den (b ++ m).data.toList (tp q) 0).2.1) (u := (tossF q.den (b ++ m).data.toList (tp q) 0).2.2) rfl W (hT W h) (hM W h)
        have hmore := toss_more (D := q.den) b.data.toList m.data.toList (tp q) 0
        rw [← app_list] at hmore
        have hlen : b.data.toList.length = b.size := (Go.Lib.size_eq b).symm
        rw [hlen, Nat.zero_add] at hmore
        cases hd : (tossF q.den b.data.toList (tp q) 0).1 with
        | false =>
          have ho := toss_open (D := q.den) b.data.toList (tp q) 0 hd
          rw [hlen, Nat.zero_add] at ho
          exact longer_open (qstr q) b m (fun e => by have := hmore.2 hd e; omega) h1 h2 h3 w htab hm (fun W h => draw_is op hpe hB (by omega) ho W (hT W h) (hM W h)) hd2
        | true =>
          obtain ⟨l1, l2, l3⟩ := toss_least (D := q.den) b.data.toList (tp q) 0 hd
          have he := hmore.1 hd
          have hu := (toss_used (D := q.den) b.data.toList (tp q) 0).2
          rw [hlen, Nat.zero_add] at hu
          rw [he] at hd2
          obtain ⟨v, U, hTT⟩ : ∃ v U, tossF q.den b.data.toList (tp q) 0 = (true, v, U) := ⟨_, _, Prod.ext hd rfl⟩
          rw [hTT] at hd2 l1 l2 l3 hu
          simp only [Nat.sub_zero] at l1 l2 l3 hu
          have hd1 := fun W h => draw_is op hpe hB (by omega) hTT W (hT W h) (hM W h)
          have hd3 := fun W h => draw_is (b := b.extract 0 U) (d := true) (v := v) (u := U) op hpe (by rw [take_extract]; exact hB.take U) (by rw [ByteArray.size_extract]; omega) (by rw [take_extract]; exact l1) W (hT W h) (hM W h)
          cases U with
          | zero => exact longer_none (qstr q) b m (by simp) (Nat.zero_le _) (prob_ends hn hle (l3 rfl)) h1 h2 h3 w htab hm hd1 hd2 hd3
          | succ U =>
            have hd4 := fun W h => draw_is (b := b.extract 0 U) (d := false) op hpe (by rw [take_extract]; exact hB.take U) (by rw [ByteArray.size_extract]; omega) (by rw [take_extract]; exact Prod.ext (l2 U (Nat.lt_succ_self _)) rfl) W (hT W h) (hM W h)
            exact longer_some (qstr q) b m hu h1 h2 h3 w htab hm hd1 hd2 hd3 hd4
      · have hc : schk (b ++ m) ≠ 0 := by rw [schk_formK (fun h => hMm (app_bits.1 h).2)]; decide
        exact longer_err1 (qstr q) b m (by rw [beq_eq_false_iff_ne]; omega) (errne hc) h1 h2 h3 w htab hm
          (fun W h => draw_is op hpe hB (by omega) (d := (tossF q.den b.data.toList (tp q) 0).1) (v := (tossF q.den b.data.toList (tp q) 0).2.1) (u := (tossF q.den b.data.toList (tp q) 0).2.2) rfl W (hT W h) (hM W h)) (fun W h => draw_bad_b op hpe hc (by omega) W (hM W h))
    · have hc1 : schk b ≠ 0 := by rw [schk_formK hB]; decide
      have hc : schk (b ++ m) ≠ 0 := by rw [schk_formK (fun h => hB (app_bits.1 h).1)]; decide
      exact longer_err2 (qstr q) b m (errne hc1) (by rw [beq_eq_false_iff_ne]; omega) (by rw [beq_eq_false_iff_ne]; omega) h1 h2 h3 w htab hm (fun W h => draw_bad_b op hpe hc1 (by omega) W (hM W h)) (fun W h => draw_bad_b op hpe hc (by omega) W (hM W h))
  · exact longer_err2 p b m (errne hE) (by rw [beq_eq_false_iff_ne]; omega) (by rw [beq_eq_false_iff_ne]; omega) h1 h2 h3 w htab hm (fun W h => draw_bad_p (by omega) hE W (hM W h)) (fun W h => draw_bad_p (by omega) hE W (hM W h))

end Go.Proofs.YtgeohcpmoleocaaGreatDoor
