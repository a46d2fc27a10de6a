/-
  pick.Draw and pick.Below. lives of layer 5.
-/
import Derived.Test.YtpkbppfgmpcpcaaGreatDoorE10
import Derived.Laws.StructEq
namespace Go.Proofs.YtpkbppfgmpcpcaaGreatDoor
open Go.RowKit NV
open Go.Lib (decDigits)

set_option maxHeartbeats 3200000 in
set_option maxRecDepth 100000 in
theorem cell_err {m g c : Nat} {cb : Array Value} {b : ByteArray} (hc : schk b = c) (h0 : c ≠ 0) (hs : b.size ≤ 140737488351232) (w : World) :
    Calls Tryz.prog 205 #[scV m g cb, .string b] w fun e w' => e = .returned (.tuple #[.agg #[.string ⟨#[]⟩, .string ⟨#[]⟩], .int .i64 (c : Int)]) ∧ Below w.heap.size w w' := by
  have HN := Lib.hid (fun W => Number_err hc h0 hs W)
  have h2 := SPB.new (w.alloc (scO m g cb)) ⟨#[]⟩ ⟨#[]⟩
  rw [World.size_alloc] at h2
  have HB := Lib.hid (((Below.refl w.heap.size w).alloc (Nat.le_refl _) (scO m g cb)).alloc (by simp) (spO ⟨#[]⟩ ⟨#[]⟩))
  have HSP := Lib.hid h2
  have hne := errneP h0
  clear hc h0 hs h2
  go_enter Tryz.func205, Tryz.ntmps205
  go_wp2_with fail
  refine (HN.out _).mono ?_
  rintro e w1 ⟨rfl, hb⟩
  replace HB := Lib.hid (HB.out.trans (hb.mono HB.out.size))
  replace HSP := Lib.hid (HSP.out.below hb)
  obtain ⟨d0, d1⟩ := HSP.out.c
  have f0 := HSP.out.f 0
  have f1 := HSP.out.f 1
  clear hb HN
  go_wp2_with fail
  exact bodyPost_ret ((HSP.out.st ⟨#[]⟩ ⟨#[]⟩).resultC rfl rfl) rfl ⟨rfl, below_st2 HB.out (by omega) _ _⟩

set_option maxHeartbeats 3200000 in
set_option maxRecDepth 100000 in
theorem draw_err {m g c : Nat} {cb : Array Value} {b : ByteArray} (hc : schk b = c) (h0 : c ≠ 0) (hs : b.size ≤ 140737488351232) (w : World) :
    Calls Tryz.prog 125 #[scV m g cb, .string b] w fun e w' => e = .returned (.tuple #[.agg #[.bool false, .int .i64 0, .int .i64 0], .int .i64 (c : Int)]) ∧ Below w.heap.size w w' := by
  have HC := Lib.hid (fun W => cell_err (m := m) (g := g) (cb := cb) hc h0 hs W)
  have hne := errneP h0
  clear hc h0 hs
  obtain ⟨w1, hw1⟩ : ∃ w1, ((w.alloc (scO m g cb)).alloc (.cells #[.string b] 22)).alloc (drO false 0 0) = w1 := ⟨_, rfl⟩
  have hb1 : Below w.heap.size w w1 := by rw [← hw1]; exact (((Below.refl w.heap.size w).alloc (Nat.le_refl _) _).alloc (by simp) _).alloc (by simp; omega) _
  have hsc : SCB w1 w.heap.size m g cb := by rw [← hw1]; exact ((SCB.new w m g cb).below ((Below.refl _ _).alloc (Nat.le_refl _) _)).below ((Below.refl _ _).alloc (Nat.le_refl _) _)
  have hbb : Boxed w1 (w.heap.size + 1) 22 (.string b) := by
    rw [← hw1]; have := (Boxed.new (w.alloc (scO m g cb)) 22 (.string b)).alloc (drO false 0 0); rwa [World.size_alloc] at this
  have hdr : DR w1 (w.heap.size + 2) false 0 0 := by
    rw [← hw1]; have := DR.new ((w.alloc (scO m g cb)).alloc (.cells #[.string b] 22)) false 0 0; rw [World.size_alloc, World.size_alloc] at this; exact this
  obtain ⟨c0, c1⟩ := hsc.c
  have c2 := hbb.cell
  have HB := Lib.hid hb1
  have HDR := Lib.hid hdr
  clear hb1 hsc hbb hdr
  go_enter Tryz.func125, Tryz.ntmps125
  go_wp2_with fail
  refine (HC.out _).mono ?_
  rintro e w2 ⟨rfl, hb⟩
  have hb3 := hb.alloc hb.size (spO ⟨#[]⟩ ⟨#[]⟩)
  replace HB := Lib.hid (HB.out.trans (hb3.mono HB.out.size))
  replace HDR := Lib.hid (HDR.out.below hb3)
  obtain ⟨g0, g1, g2⟩ := HDR.out.c
  have f0 := HDR.out.f 0
  have f1 := HDR.out.f 1
  have f2 := HDR.out.f 2
  clear hw1 c0 c1 c2 hb hb3 HC
  go_wp2_with fail
  exact bodyPost_ret ((HDR.out.st false 0 0).result rfl rfl rfl) rfl ⟨rfl, below_sr3 HB.out (by omega) _ _ _⟩

/-- What pick.Draw returns. -/
def PDraws (ao : Option Addr) (N cap : Nat) (b : ByteArray) (d : Bool) (v u c : Int) (w : World) : Prop :=
  Calls Tryz.prog 43 #[.slice ao N cap, .string b] w fun e w' => e = .returned (.tuple #[.agg #[.bool d, .int .i64 v, .int .i64 u], .int .i64 c]) ∧ Below w.heap.size w w'

set_option maxHeartbeats 3200000 in
set_option maxRecDepth 100000 in
theorem pDraw_w {ao : Option Addr} {N cap : Nat} {f : Nat → ByteArray} {b : ByteArray} {w : World} (h : PRow w ao N f) (hs : ∀ j, j < N → (f j).size ≤ 140737488351232) (he : pickE f N ≠ 0) : PDraws ao N cap b false 0 0 ((pickE f N : Nat) : Int) w := by
  have HC := Lib.hid (fun W (hb : Below w.heap.size w W) => wcheck_any (cap := cap) (h.below hb) hs)
  have HB := Lib.hid ((Below.refl w.heap.size w).alloc (Nat.le_refl _) (drO false 0 0))
  have HD := Lib.hid (DR.new w false 0 0)
  have hne := errneP he
  generalize pickE f N = c at *
  clear h hs he
  unfold PDraws
  go_enter Tryz.func43, Tryz.ntmps43
  go_wp2_with fail
  refine (HC.out _ HB.out).mono ?_
  rintro e w1 ⟨rfl, rfl⟩
  obtain ⟨g0, g1, g2⟩ := HD.out.c
  have f0 := HD.out.f 0
  have f1 := HD.out.f 1
  have f2 := HD.out.f 2
  clear HC
  go_wp2_with fail
  exact bodyPost_ret (HD.out.result rfl rfl rfl) rfl ⟨rfl, HB.out⟩

set_option maxHeartbeats 3200000 in
set_option maxRecDepth 100000 in
theorem pDraw_x {ao : Option Addr} {N cap : Nat} {f : Nat → ByteArray} {b : ByteArray} {w : World} {d : Bool} {v u c : Int} (h : PRow w ao N f) (hw : WOk f N) (htab : Tab w)
    (hx : ∀ W, Below w.heap.size w W → ∀ bB, ScAt W 204 #[.pointer (some ⟨bB, 0, none⟩)] (wsum (wN f)) N → Calls Tryz.prog 125 #[scV N 204 #[.pointer (some ⟨bB, 0, none⟩)], .string b] W fun e w' => e = .returned (.tuple #[.agg #[.bool d, .int .i64 v, .int .i64 u], .int .i64 c]) ∧ Below W.heap.size W w') : PDraws ao N cap b d v u c w := by
  have h1 := hw.one
  have hsz : ∀ j, j < N → (f j).size ≤ 140737488351232 := fun j hj => by rw [hw.text j hj]; have := hw.short j hj; omega
  have hz := pickE_of hw
  obtain ⟨a, rfl, hal, hcell⟩ := h.form (by omega)
  have hck := fun W (hb : Below w.heap.size w W) => wcheck_any (cap := cap) (h.below hb) hsz
  rw [hz] at hck
  have HC := Lib.hid hck
  have HW := Lib.hid (fun W (hb : Below w.heap.size w W) => weighted_any (cap := cap) (Nat.lt_of_lt_of_le hal hb.size) (fun j hj => by rw [← hw.text j hj]; exact (hb.cell (p := a.add j) (by rw [add_blockP]; exact hal)).trans (hcell j hj)) hw.most hw.ok (big_self hw.big) (htab.below hb))
  have HX := Lib.hid hx
  have HB := Lib.hid ((Below.refl w.heap.size w).alloc (Nat.le_refl _) (drO false 0 0))
  have HD := Lib.hid (DR.new w false 0 0)
  clear h hw htab hx h1 hsz hz hal hcell hck
  unfold PDraws
  go_enter Tryz.func43, Tryz.ntmps43
  go_wp2_with fail
  refine (HC.out _ HB.out).mono ?_
  rintro e w1 ⟨rfl, rfl⟩
  clear HC
  go_wp2_with fail
  refine (HW.out _ HB.out).mono ?_
  rintro e w2 ⟨bB, rfl, hsc, hb⟩
  replace HB := Lib.hid (HB.out.trans (hb.mono HB.out.size))
  replace HD := Lib.hid (HD.out.below hb)
  have HXX := Lib.hid (HX.out w2 HB.out bB hsc)
  clear hsc hb HW HX
  go_wp2_with fail
  refine HXX.out.mono ?_
  rintro e w3 ⟨rfl, hb⟩
  replace HB := Lib.hid (HB.out.trans (hb.mono HB.out.size))
  replace HD := Lib.hid (HD.out.below hb)
  obtain ⟨g0, g1, g2⟩ := HD.out.c
  have f0 := HD.out.f 0
  have f1 := HD.out.f 1
  have f2 := HD.out.f 2
  clear hb HXX
  go_wp2_with fail
  exact bodyPost_ret ((HD.out.st d v u).result rfl rfl rfl) rfl ⟨rfl, below_sr3 HB.out (by omega) _ _ _⟩

theorem pDraw_ok {ao : Option Addr} {N cap : Nat} {f : Nat → ByteArray} {b : ByteArray} {w : World} {d : Bool} {v u : Nat} (h : PRow w ao N f) (hw : WOk f N) (htab : Tab w) (hb : IsBits b.data.toList) (hsz : b.size ≤ 256) (hT : PickIs (wsum (wN f)) N b.data.toList d v u) : PDraws ao N cap b d (v : Int) (u : Int) 0 w :=
  pDraw_x h hw htab (fun _ hbW _ hsc => draw_any hsc hw.sc hw.big hb hsz (htab.below hbW) (by have := hw.most; omega) hT)
theorem pDraw_b {ao : Option Addr} {N cap : Nat} {f : Nat → ByteArray} {b : ByteArray} {w : World} (h : PRow w ao N f) (hw : WOk f N) (htab : Tab w) (hc : schk b ≠ 0) (hs : b.size ≤ 140737488351232) : PDraws ao N cap b false 0 0 ((schk b : Nat) : Int) w :=
  pDraw_x h hw htab (fun W _ _ _ => draw_err rfl hc hs W)

/-- What pick.Below returns. -/
def PBelow (m : Int) (b : ByteArray) (d : Bool) (v u c : Int) (w : World) : Prop :=
  Calls Tryz.prog 45 #[.int .i64 m, .string b] w fun e w' => e = .returned (.tuple #[.agg #[.bool d, .int .i64 v, .int .i64 u], .int .i64 c]) ∧ Below w.heap.size w w'

set_option maxHeartbeats 3200000 in
set_option maxRecDepth 100000 in
theorem pBelow_far {m : Int} {b : ByteArray} (hm : m < 1 ∨ 1000000 < m) (w : World) : PBelow m b false 0 0 2 w := by
  have HB := Lib.hid ((Below.refl w.heap.size w).alloc (Nat.le_refl _) (drO false 0 0))
  have HD := Lib.hid (DR.new w false 0 0)
  obtain ⟨g0, g1, g2⟩ := HD.out.c
  have f0 := HD.out.f 0
  have f1 := HD.out.f 1
  have f2 := HD.out.f 2
  unfold PBelow
  go_enter Tryz.func45, Tryz.ntmps45
  by_cases h1 : m < 1
  · clear hm
    go_wp2_with fail
    exact bodyPost_ret (HD.out.result rfl rfl rfl) rfl ⟨rfl, HB.out⟩
  · have h2 : 1000000 < m := by omega
    clear hm
    go_wp2_with fail
    exact bodyPost_ret (HD.out.result rfl rfl rfl) rfl ⟨rfl, HB.out⟩

set_option maxHeartbeats 3200000 in
set_option maxRecDepth 100000 in
theorem pBelow_x {m : Nat} {b : ByteArray} {w : World} {d : Bool} {v u c : Int} (h1 : 1 ≤ m) (h2 : m ≤ 1000000)
    (hx : ∀ W, Below w.heap.size w W → Calls Tryz.prog 125 #[scV m 211 #[], .string b] W fun e w' => e = .returned (.tuple #[.agg #[.bool d, .int .i64 v, .int .i64 u], .int .i64 c]) ∧ Below W.heap.size W w') : PBelow (m : Int) b d v u c w := by
  have HU := Lib.hid (fun W => uniform_any m W)
  have HX := Lib.hid hx
  have HB := Lib.hid ((Below.refl w.heap.size w).alloc (Nat.le_refl _) (drO false 0 0))
  have HD := Lib.hid (DR.new w false 0 0)
  have k1 : ¬ (m : Int) < 1 := by omega
  have k2 : ¬ (1000000 : Int) < (m : Int) := by omega
  clear hx h1 h2
  unfold PBelow
  go_enter Tryz.func45, Tryz.ntmps45
  go_wp2_with fail
  refine (HU.out _).mono ?_
  rintro e w2 ⟨rfl, hb⟩
  replace HB := Lib.hid (HB.out.trans (hb.mono HB.out.size))
  replace HD := Lib.hid (HD.out.below hb)
  clear hb HU
  go_wp2_with fail
  refine (HX.out _ HB.out).mono ?_
  rintro e w3 ⟨rfl, hb⟩
  replace HB := Lib.hid (HB.out.trans (hb.mono HB.out.size))
  replace HD := Lib.hid (HD.out.below hb)
  obtain ⟨g0, g1, g2⟩ := HD.out.c
  have f0 := HD.out.f 0
  have f1 := HD.out.f 1
  have f2 := HD.out.f 2
  clear hb HX
  go_wp2_with fail
  exact bodyPost_ret ((HD.out.st d v u).result rfl rfl rfl) rfl ⟨rfl, below_sr3 HB.out (by omega) _ _ _⟩

theorem id_sc {m : Nat} (h : 1 ≤ m) : ScF (fun i => i) m := ⟨rfl, fun _ _ h _ => h, h⟩
theorem id_big {m : Nat} (h : m ≤ 1000000) : Ok (m * 2 ^ 256 + 1) := by
  refine big_of ⟨3800, rfl, ?_⟩
  obtain ⟨K, hK⟩ : ∃ K, K = 3800 := ⟨_, rfl⟩
  rw [← hK]
  have : 10 ^ 6 ≤ 10 ^ K := Nat.pow_le_pow_right (by omega) (by omega)
  omega
theorem pBelow_ok {m : Nat} {b : ByteArray} {w : World} {d : Bool} {v u : Nat} (h1 : 1 ≤ m) (h2 : m ≤ 1000000) (htab : Tab w) (hb : IsBits b.data.toList) (hsz : b.size ≤ 256) (hT : PickIs (fun i => i) m b.data.toList d v u) : PBelow (m : Int) b d (v : Int) (u : Int) 0 w :=
  pBelow_x h1 h2 (fun _ hbW => draw_any (uniform_sc m h2 (htab.below hbW)) (id_sc h1) (id_big h2) hb hsz (htab.below hbW) h2 hT)
theorem pBelow_b {m : Nat} {b : ByteArray} {w : World} (h1 : 1 ≤ m) (h2 : m ≤ 1000000) (hc : schk b ≠ 0) (hs : b.size ≤ 140737488351232) : PBelow (m : Int) b false 0 0 ((schk b : Nat) : Int) w :=
  pBelow_x h1 h2 (fun W _ => draw_err rfl hc hs W)

open Go.RowKit NV
open Go.Lib (decDigits)

theorem held_dr : Tryz.prog.stoodInHeld 44 = false := by kernel_rfl
theorem struct_dr : Tryz.prog.underlying 44 = some (.struct (Tryz.prog.fieldsOf 44)) := by kernel_rfl
def fieldsDr : List (String × Nat × Nat) := [("Done", 4, 0), ("Value", 3, 1), ("Used", 3, 2)]
theorem fields_dr : (Tryz.prog.fieldsOf 44).toList.map (fun f => (f.name, f.type, f.offset)) = fieldsDr := by kernel_rfl
theorem part_boolP (cs : Array Value) (off : Nat) (v : Value) (h : cs[off]? = some v) (W : World) : (part 4 cs off).run Tryz.prog W = .ok v W := by
  simp [part, isAgg, run_underlying Tryz.underlying4, h]
theorem part_intP (cs : Array Value) (off : Nat) (v : Value) (h : cs[off]? = some v) (W : World) : (part 3 cs off).run Tryz.prog W = .ok v W := by
  simp [part, isAgg, run_underlying Tryz.underlying3, h]
theorem list_threeP {α : Type} {l : List α} (h : l.length = 3) : ∃ a b c, l = [a, b, c] := by
  match l, h with
  | [a, b, c], _ => exact ⟨a, b, c, rfl⟩
theorem eqIn_dr (d e : Bool) (u v x y : Int) (W : World) : (Op.equalIn 10000 44 (.agg #[.bool d, .int .i64 u, .int .i64 v]) (.agg #[.bool e, .int .i64 x, .int .i64 y])).run Tryz.prog W = .ok (d == e && (u == x && v == y)) W := by
  rw [run_equalIn_agg W 9999 _ _ _ struct_dr held_dr]
  have hf := fields_dr
  generalize (Tryz.prog.fieldsOf 44).toList = l at hf ⊢
  unfold fieldsDr at hf
  obtain ⟨f0, f1, f2, rfl⟩ := list_threeP (show l.length = 3 by have := congrArg List.length hf; simpa using this)
  simp only [List.map_cons, List.map_nil, List.cons.injEq, Prod.mk.injEq, and_true] at hf
  obtain ⟨⟨n0, t0, o0⟩, ⟨n1, t1, o1⟩, ⟨n2, t2, o2⟩⟩ := hf
  simp only [Op.eqFields, n0, t0, o0, n1, t1, o1, n2, t2, o2]
  simp [Sem.run_bind, part_boolP #[.bool d, .int .i64 u, .int .i64 v] 0 (.bool d) rfl, part_boolP #[.bool e, .int .i64 x, .int .i64 y] 0 (.bool e) rfl,
    part_intP #[.bool d, .int .i64 u, .int .i64 v] 1 (.int .i64 u) rfl, part_intP #[.bool e, .int .i64 x, .int .i64 y] 1 (.int .i64 x) rfl,
    part_intP #[.bool d, .int .i64 u, .int .i64 v] 2 (.int .i64 v) rfl, part_intP #[.bool e, .int .i64 x, .int .i64 y] 2 (.int .i64 y) rfl,
    run_equalIn_bool' _ _ _ _ _ Tryz.underlying4, run_equalIn_int _ _ _ _ _ _ _ Tryz.underlying3]
  by_cases h0 : d = e <;> by_cases h1 : u = x <;> by_cases h2 : v = y <;> simp [h0, h1, h2]
theorem eq_dr (d e : Bool) (u v x y : Int) (W : World) : (binOp .eql 44 (.agg #[.bool d, .int .i64 u, .int .i64 v]) (.agg #[.bool e, .int .i64 x, .int .i64 y])).run Tryz.prog W = .ok (.bool (d == e && (u == x && v == y))) W := by
  rw [run_eql_struct, eqIn_dr]; rfl

/-- The texts of a list, by place. -/
def lF (l : List ByteArray) (j : Nat) : ByteArray := l.getD j ⟨#[]⟩
def lCells (l : List ByteArray) : List Value := l.map Value.string
theorem PRow.lit {w : World} {g : Nat} {l : List ByteArray} (h : w.heap[g]? = some (.cells (lCells l).toArray 23 (0, 0))) : PRow w (some ⟨g, 0, none⟩) l.length (lF l) := by
  refine .inr ⟨_, rfl, (Array.getElem?_eq_some_iff.1 h).1, fun j hj => ?_⟩
  rw [Addr.add_lit, Nat.zero_add, cell_of_row w g j _ _ _ h]
  unfold lCells lF
  simp [hj]
theorem bits_litP {l : List UInt8} (h : bitsB l = true) : IsBits l := bitsB_iff.1 h
instance pickIs_dec (f : Nat → Nat) (m : Nat) (l : List UInt8) (d : Bool) (v u : Nat) : Decidable (PickIs f m l d v u) := inferInstanceAs (Decidable (_ ∨ _))
theorem wE_of {s : ByteArray} {n : Nat} (h : s = dstr n) (hn : n ≤ 1000000) : chk s.data.toList = 0 ∧ s.size ≤ 3800 := by
  have ho : Ok n := ok_two (n := 20) (by omega) (by omega)
  rw [h, dstr_list, ho.chk]
  refine ⟨rfl, ?_⟩
  rw [dstr_size]
  have := (dec_len_le (n := n) (k := 7) (by omega)).2 (by omega)
  omega
/-- Weights that are given as numbers. -/
theorem WOk.lit {l : List Nat} (h1 : 1 ≤ l.length) (h2 : l.length ≤ 64) (h3 : ∀ j, j < l.length → l.getD j 0 ≤ 1000000) (h4 : 0 < wsum (fun j => l.getD j 0) l.length) : WOk (lF (l.map dstr)) l.length ∧ ∀ j, j < l.length → wN (lF (l.map dstr)) j = l.getD j 0 := by
  have ht : ∀ j, j < l.length → lF (l.map dstr) j = dstr (l.getD j 0) := fun j hj => by unfold lF; simp [hj]
  have hn : ∀ j, j < l.length → wN (lF (l.map dstr)) j = l.getD j 0 := fun j hj => by unfold wN; rw [ht j hj, dstr_list, dv_dec]
  refine ⟨⟨h1, h2, fun j hj => by rw [hn j hj]; exact ht j hj, fun j hj => by rw [hn j hj]; exact ok_two (n := 20) (by omega) (by have := h3 j hj; omega), fun j hj => ?_, by rw [wsum_congr hn]; exact h4⟩, hn⟩
  rw [hn j hj]; exact (wE_of rfl (h3 j hj)).2
theorem digit_strP {n : Nat} (h : n < 10) : dstr n = ⟨#[UInt8.ofNat (48 + n)]⟩ := by rw [dstr, dec_small h]
/-- A draw depends on its borders alone. -/
theorem pick_congr {f g : Nat → Nat} {m : Nat} {l : List UInt8} {d : Bool} {v u : Nat} (hg : ∀ i, i ≤ m → g i = f i) (h : PickIs f m l d v u) : PickIs g m l d v u :=
  pick_scale (c := 1) (by omega) (fun i hi => by rw [Nat.one_mul, hg i hi]) h

theorem w121 : WOk (lF ([1, 2, 1].map dstr)) 3 ∧ ∀ i, i ≤ 3 → wsum (wN (lF ([1, 2, 1].map dstr))) i = wsum (fun j => [1, 2, 1].getD j 0) i := by
  obtain ⟨h1, h2⟩ := WOk.lit (l := [1, 2, 1]) (by decide) (by decide) (by decide) (by decide)
  exact ⟨h1, fun i hi => wsum_congr (fun j hj => h2 j (show j < 3 by omega))⟩
theorem c121 : lCells ([1, 2, 1].map dstr) = [.string ⟨#[49]⟩, .string ⟨#[50]⟩, .string ⟨#[49]⟩] := by
  unfold lCells
  simp only [List.map_cons, List.map_nil]
  rw [digit_strP (n := 1) (by omega), digit_strP (n := 2) (by omega)]; rfl

set_option maxHeartbeats 3200000 in
set_option maxRecDepth 100000 in
theorem lives5_any (w : World) (htab : Tab w) : Calls Tryz.prog 40 #[] w fun e w' => e = .returned (.bool true) ∧ Below w.heap.size w w' := by
  have h1 := fun W (h : Below w.heap.size w W) (g : Nat) (hg : W.heap[g]? = some (.cells #[.string ⟨#[49]⟩, .string ⟨#[50]⟩, .string ⟨#[49]⟩] 23 (0, 0))) =>
    pDraw_ok (cap := 3) (b := ⟨#[48, 49]⟩) (d := true) (v := 1) (u := 2) (PRow.lit (l := [1, 2, 1].map dstr) (by rw [c121]; exact hg)) w121.1 (htab.below h) (bits_litP (by decide)) (by decide) (pick_congr w121.2 (by decide))
  have h2 := fun W (h : Below w.heap.size w W) => pBelow_ok (m := 6) (b := ⟨#[49, 49, 49, 49]⟩) (d := true) (v := 5) (u := 3) (by omega) (by omega) (htab.below h) (bits_litP (by decide)) (by decide) (by decide)
  have H1 := Lib.hid h1
  have H2 := Lib.hid h2
  have HB0 := Lib.hid ((Below.refl w.heap.size w).alloc (Nat.le_refl _) (.cells #[.string ⟨#[49]⟩, .string ⟨#[50]⟩, .string ⟨#[49]⟩] 23))
  clear h1 h2 htab
  go_enter Tryz.func40, Tryz.ntmps40
  go_wp2_with fail
  refine (H1.out _ HB0.out _ (heap_alloc_new _ _)).mono ?_
  rintro e w1 ⟨rfl, hb1⟩
  have HB := Lib.hid (HB0.out.trans ((hb1.alloc hb1.size (drO true 1 2)).mono HB0.out.size))
  have HD := Lib.hid (DR.new w1 true 1 2)
  clear hb1 H1
  go_wp2_with fail
  refine (H2.out _ HB.out).mono ?_
  rintro e w2 ⟨rfl, hb2⟩
  obtain ⟨c0, c1, c2⟩ := (HD.out.below (hb2.alloc hb2.size (drO true 5 3))).c
  obtain ⟨d0, d1, d2⟩ := (DR.new w2 true 5 3).c
  replace HB := Lib.hid (HB.out.trans ((hb2.alloc hb2.size (drO true 5 3)).mono HB.out.size))
  clear hb2 H2 HD HB0
  have he1 := eq_dr true true 1 2 1 2
  have he2 := eq_dr true true 5 3 5 3
  go_wp2_with fail
  go_ret
  exact ⟨rfl, HB.out⟩

end Go.Proofs.YtpkbppfgmpcpcaaGreatDoor
