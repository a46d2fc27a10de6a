/-
  Package moment: Fits of a curve that is at most another one.
-/
import Derived.Test.YtjpepjooefkbkaaGreatDoorH14
namespace Go.Proofs.YtjpepjooefkbkaaGreatDoor
open Go.RowKit NV Go.Shelf Op
open Go.Lib (decDigits)
set_option maxHeartbeats 3200000 in
set_option maxRecDepth 100000 in
theorem fits1_ok {k bs bB : Nat} {x y : ByteArray} {b : Nat → ByteArray} {W : World} (hk : k < 7) (h : SO W bs) (hb : ARR W bB 8 35 b)
  (hm : ∀ V, Below W.heap.size W V → Calls Tryz.prog 40 #[.string x, .string (b k)] V fun e w' => e = .returned (.tuple #[.string y, .int .i64 0]) ∧ Below V.heap.size V w') :
  Calls Tryz.prog 39 (#[.int .i64 (2 + (k : Int)), .string x] ++ #[.pointer (some ⟨bs, 0, none⟩), .pointer (some ⟨bB, 0, none⟩)]) W (Stp y bs W) := by
 have HO := Lib.hid (bof_any b hk W)
 have HM := Lib.hid hm
 have HS := Lib.hid h
 have b0 := hb.cell (j := 0) (by omega)
 have b1 := hb.cell (j := 1) (by omega)
 have b2 := hb.cell (j := 2) (by omega)
 have b3 := hb.cell (j := 3) (by omega)
 have b4 := hb.cell (j := 4) (by omega)
 have b5 := hb.cell (j := 5) (by omega)
 have b6 := hb.cell (j := 6) (by omega)
 clear h hb hm
 go_enter Tryz.func39, Tryz.ntmps39
 go_wp2_with fail
 refine HO.out.mono ?_
 rintro e W1 ⟨rfl, hb1⟩
 have HB := Lib.hid hb1
 clear hb1 HO b0 b1 b2 b3 b4 b5 b6
 go_wp2_with fail
 refine (HM.out _ HB.out).mono ?_
 rintro e W2 ⟨rfl, hb2⟩
 have HB2 := Lib.hid (HB.out.trans (hb2.mono HB.out.size))
 clear hb2 HM HB
 have HN := Lib.hid (next_ok (x := y) (HS.out.below HB2.out))
 go_wp2_with fail
 refine HN.out.mono ?_
 rintro e W3 ⟨rfl, hc, hs⟩
 have HC := Lib.hid (And.intro ((Ch.below HB2.out).trans hc) hs)
 clear hc hs HN HB2
 go_wp2_with fail
 go_ret
 exact ⟨rfl, HC.out.1, HC.out.2⟩
theorem und_bounds : Tryz.prog.underlying 73 = some (.array 7 23) := by kernel_rfl
theorem part_nm (xs : Array Value) (i : Nat) (v : Value) (h : xs[i]? = some v) (W : World) : (part 23 xs i).run Tryz.prog W = .ok v W := part_numZ xs i v h W
theorem size_num (W : World) : (sizeOf 23).run Tryz.prog W = .ok 1 W := by kernel_rfl
theorem eq_same (a : ByteArray) (d : Nat) (W : World) : (Op.equalIn (d+1) 23 (.string a) (.string a)).run Tryz.prog W = .ok true W := by
 rw [run_equalIn_string _ _ _ _ _ Tryz.underlying23]; simp
theorem eql_b7 (b : Nat → ByteArray) (W : World) : (binOp .eql 73 (.agg #[.string (b 0), .string (b 1), .string (b 2), .string (b 3), .string (b 4), .string (b 5), .string (b 6)]) (.agg #[.string (b 0), .string (b 1), .string (b 2), .string (b 3), .string (b 4), .string (b 5), .string (b 6)])).run Tryz.prog W = .ok (.bool true) W := by
 rw [run_eql_struct]
 have h0 : ∀ W, (part 23 #[.string (b 0), .string (b 1), .string (b 2), .string (b 3), .string (b 4), .string (b 5), .string (b 6)] 0).run Tryz.prog W = .ok (.string (b 0)) W := fun W => part_nm _ 0 _ rfl W
 have h1 : ∀ W, (part 23 #[.string (b 0), .string (b 1), .string (b 2), .string (b 3), .string (b 4), .string (b 5), .string (b 6)] 1).run Tryz.prog W = .ok (.string (b 1)) W := fun W => part_nm _ 1 _ rfl W
 have h2 : ∀ W, (part 23 #[.string (b 0), .string (b 1), .string (b 2), .string (b 3), .string (b 4), .string (b 5), .string (b 6)] 2).run Tryz.prog W = .ok (.string (b 2)) W := fun W => part_nm _ 2 _ rfl W
 have h3 : ∀ W, (part 23 #[.string (b 0), .string (b 1), .string (b 2), .string (b 3), .string (b 4), .string (b 5), .string (b 6)] 3).run Tryz.prog W = .ok (.string (b 3)) W := fun W => part_nm _ 3 _ rfl W
 have h4 : ∀ W, (part 23 #[.string (b 0), .string (b 1), .string (b 2), .string (b 3), .string (b 4), .string (b 5), .string (b 6)] 4).run Tryz.prog W = .ok (.string (b 4)) W := fun W => part_nm _ 4 _ rfl W
 have h5 : ∀ W, (part 23 #[.string (b 0), .string (b 1), .string (b 2), .string (b 3), .string (b 4), .string (b 5), .string (b 6)] 5).run Tryz.prog W = .ok (.string (b 5)) W := fun W => part_nm _ 5 _ rfl W
 have h6 : ∀ W, (part 23 #[.string (b 0), .string (b 1), .string (b 2), .string (b 3), .string (b 4), .string (b 5), .string (b 6)] 6).run Tryz.prog W = .ok (.string (b 6)) W := fun W => part_nm _ 6 _ rfl W
 have e : (Op.equalIn 10000 73 (.agg #[.string (b 0), .string (b 1), .string (b 2), .string (b 3), .string (b 4), .string (b 5), .string (b 6)]) (.agg #[.string (b 0), .string (b 1), .string (b 2), .string (b 3), .string (b 4), .string (b 5), .string (b 6)])).run Tryz.prog W = .ok true W := by
  rw [show 10000 = 9999 + 1 from rfl]
  unfold Op.equalIn
  simp only [Sem.run_bind, run_underlying und_bounds, Result.andThen_ok, size_num, Std.Legacy.Range.forIn_eq_forIn_range', Std.Legacy.Range.size, Nat.sub_zero, Nat.add_sub_cancel, Nat.div_one, List.range'_succ, List.range'_zero, List.forIn_cons, List.forIn_nil, Nat.zero_add, Nat.reduceAdd]
  simp only [Sem.run_bind, Nat.mul_one, h0, h1, h2, h3, h4, h5, h6, Result.andThen_ok, eq_same, Bool.not_true, Bool.false_eq_true, if_false, Sem.run_pure]
 rw [e]
 rfl
section
variable {P : Program} {ops : Array Oper} {Q : Exit → Act → World → Prop} {md : Region.Mode} {S : World → Prop}
theorem takeG15 {i : Nat} {oi : Oper} {v : Value} {d fuel : Nat} {listed : Array Bool} {a : Act} {w : World} (hi : ops[i]? = some oi) (hd : oi.dst = some d)
  (hs : Region.noSelect ops = true) (hf : Region.free md ops listed i = true) (hr : (Region.ready md ops listed).contains i = true)
  (hQ : ∀ c a w, Q (.panic c) (a.put (some d) v) w → Q (.panic c) a w) (hg : Region.wanted oi (yielded ops a.tmps) = true) (hy : ∀ w, S w → (execOp a.eval oi).run P w = .ok (.value v) w) (hS : S w)
  (h : wpAnyH P md ops Q S fuel (listed.setIfInBounds i true) (a.put (some d) v) w) : wpAnyH P md ops Q S (fuel + 1) listed a w :=
 wpAnyH_take hi hs hf hr (hd ▸ hQ) (.inl ⟨hg, hy⟩) hS (hd ▸ h)
end
theorem eqs15 (s : ByteArray) (W : World) : (binOp .eql 23 (.string s) (.string s)).run Tryz.prog W = .ok (.bool true) W := by simp [go_sem]
set_option maxHeartbeats 1600000 in
theorem unlessB_ok (b : Bool) (w : World) : Calls Tryz.prog 42 #[.int .i64 0, .bool b] w fun e w' => e = .returned (.tuple #[.bool b, .int .i64 0]) ∧ Below w.heap.size w w' := by
 go_enter Tryz.func42, Tryz.ntmps42
 go_wp2_with fail
 go_ret2
 exact ⟨rfl, Below.refl _ _⟩
set_option maxHeartbeats 6400000 in
set_option maxRecDepth 100000 in
theorem mFits_ok {a b : Nat → ByteArray} {w : World} (hk : ∀ W, Below w.heap.size w W → Calls Tryz.prog 38 #[.agg #[.string (a 0), .string (a 1), .string (a 2), .string (a 3), .string (a 4), .string (a 5), .string (a 6), .string (a 7)], .agg #[.string (b 0), .string (b 1), .string (b 2), .string (b 3), .string (b 4), .string (b 5), .string (b 6), .string (b 7)]] W (Er 0 W))
  (hm : ∀ k W, k < 7 → Below w.heap.size w W → Calls Tryz.prog 40 #[.string (a k), .string (b k)] W fun e w' => e = .returned (.tuple #[.string (b k), .int .i64 0]) ∧ Below W.heap.size W w')
  (ha : ∀ W, Below w.heap.size w W → Calls Tryz.prog 40 #[.string (a 7), .string (b 7)] W fun e w' => e = .returned (.tuple #[.string (b 7), .int .i64 0]) ∧ Below W.heap.size W w') :
  Calls Tryz.prog 14 #[.agg #[.string (a 0), .string (a 1), .string (a 2), .string (a 3), .string (a 4), .string (a 5), .string (a 6), .string (a 7)], .agg #[.string (b 0), .string (b 1), .string (b 2), .string (b 3), .string (b 4), .string (b 5), .string (b 6), .string (b 7)]] w fun e w' => e = .returned (.tuple #[.bool true, .int .i64 0]) ∧ Below w.heap.size w w' := by
 have hmf : ∀ (fn : Fn) (first cap : Array Value) (w : World), (Instr.makeFunc fn first cap).run Tryz.prog w = .ok (.func fn first cap) w := fun _ _ _ _ => rfl
 have K := Lib.hid hk
 have HM := Lib.hid hm
 have HA := Lib.hid ha
 obtain ⟨V1, hV1⟩ : ∃ V1, V1 = w.alloc (.cells #[.string (a 0), .string (a 1), .string (a 2), .string (a 3), .string (a 4), .string (a 5), .string (a 6), .string (a 7)] 35) := ⟨_, rfl⟩
 obtain ⟨V2, hV2⟩ : ∃ V2, V2 = V1.alloc (.cells #[.string (b 0), .string (b 1), .string (b 2), .string (b 3), .string (b 4), .string (b 5), .string (b 6), .string (b 7)] 35) := ⟨_, rfl⟩
 have s1 : V1.heap.size = w.heap.size + 1 := by rw [hV1]; simp
 have a1 : ARR V1 w.heap.size 8 35 a := by rw [hV1]; exact ARR.new8
 have a2 : ARR V2 (w.heap.size + 1) 8 35 b := by rw [hV2, ← s1]; exact ARR.new8
 have i1 : Below w.heap.size w V1 := by rw [hV1]; exact (Below.refl w.heap.size w).alloc (Nat.le_refl _) _
 have i2 : Below V1.heap.size V1 V2 := by rw [hV2]; exact (Below.refl _ V1).alloc (Nat.le_refl _) _
 have HB0 := Lib.hid (i1.trans (i2.mono i1.size))
 have HR := Lib.hid (And.intro (a1.below i2) a2)
 clear i1 i2 a1 a2 s1 hk hm ha
 subst hV2
 subst hV1
 have p0 := HR.out.1.cell (j := 0) (by omega)
 have p1 := HR.out.1.cell (j := 1) (by omega)
 have p2 := HR.out.1.cell (j := 2) (by omega)
 have p3 := HR.out.1.cell (j := 3) (by omega)
 have p4 := HR.out.1.cell (j := 4) (by omega)
 have p5 := HR.out.1.cell (j := 5) (by omega)
 have p6 := HR.out.1.cell (j := 6) (by omega)
 have p7 := HR.out.1.cell (j := 7) (by omega)
 have q0 := HR.out.2.cell (j := 0) (by omega)
 have q1 := HR.out.2.cell (j := 1) (by omega)
 have q2 := HR.out.2.cell (j := 2) (by omega)
 have q3 := HR.out.2.cell (j := 3) (by omega)
 have q4 := HR.out.2.cell (j := 4) (by omega)
 have q5 := HR.out.2.cell (j := 5) (by omega)
 have q6 := HR.out.2.cell (j := 6) (by omega)
 have q7 := HR.out.2.cell (j := 7) (by omega)
 go_enter Tryz.func14, Tryz.ntmps14
 go_wp2_with fail
 clear p0 q0 p1 q1 p2 q2 p3 q3 p4 q4 p5 q5 p6 q6 p7 q7
 refine (K.out _ HB0.out).mono ?_
 rintro e w1 ⟨rfl, hb⟩
 obtain ⟨v, hv⟩ : ∃ v, v = w1.alloc (.cells #[.int .i64 0] 71) := ⟨_, rfl⟩
 have ib : Below w1.heap.size w1 v := by rw [hv]; exact (Below.refl _ w1).alloc (Nat.le_refl _) _
 have hso : SO v w1.heap.size := by rw [hv]; exact SO.new
 have HB1 := Lib.hid (HB0.out.trans (hb.mono HB0.out.size))
 have HBV := Lib.hid (HB1.out.trans (ib.mono HB1.out.size))
 have HV := Lib.hid (And.intro ((HR.out.1.below hb).below ib) ((HR.out.2.below hb).below ib))
 have HLT := Lib.hid (show w.heap.size + 2 ≤ w1.heap.size from Nat.le_trans (by simp) hb.size)
 have HI := Lib.hid (show IV v w1.heap.size v from ⟨hso, Ch.refl _ _⟩)
 have HG := Lib.hid (changed_any (g := 39) (cap := #[.pointer (some ⟨w1.heap.size, 0, none⟩), .pointer (some ⟨w.heap.size + 1, 0, none⟩)]) (c := a) (d := b) (bs := w1.heap.size) (w := v) (IV v w1.heap.size) hso.lt (fun W W' h hc => h.keep hc (fun j hj => hj) hso.lt) HI.out (enters_of Tryz.func39 (by kernel_rfl) rfl) (fun k W hk hi hl =>
  (fits1_ok (y := b k) hk hi.so (hi.arr HV.out.2 (by have := HLT.out; omega)) (fun V hV => HM.out k V hk ((hi.bel HBV.out HB1.out.size).trans (hV.mono (hi.bel HBV.out HB1.out.size).size)))).mono (by
   rintro e w' ⟨rfl, hc, hs⟩
   exact ⟨rfl, hc, hi.step hc hs⟩)))
 clear hb ib hso K HM HR HB0
 have p0 := HV.out.1.cell (j := 0) (by omega)
 have p1 := HV.out.1.cell (j := 1) (by omega)
 have p2 := HV.out.1.cell (j := 2) (by omega)
 have p3 := HV.out.1.cell (j := 3) (by omega)
 have p4 := HV.out.1.cell (j := 4) (by omega)
 have p5 := HV.out.1.cell (j := 5) (by omega)
 have p6 := HV.out.1.cell (j := 6) (by omega)
 subst hv
 go_wp2_with fail
 refine HG.out.mono ?_
 rintro e w2 ⟨rfl, _, hi⟩
 have i3 := (Below.refl w2.heap.size w2).alloc (Nat.le_refl _) (.cells #[.string (b 0), .string (b 1), .string (b 2), .string (b 3), .string (b 4), .string (b 5), .string (b 6)] 73)
 have HI2 := Lib.hid (hi.below i3)
 have HZ2 := Lib.hid (show w1.heap.size < w2.heap.size from hi.so.lt)
 have H8 := Lib.hid (show ARR (w2.alloc (.cells #[.string (b 0), .string (b 1), .string (b 2), .string (b 3), .string (b 4), .string (b 5), .string (b 6)] 73)) w2.heap.size 7 73 b from ARR.new7)
 clear hi i3 HG HI p0 p1 p2 p3 p4 p5 p6
 have la := (HI2.out.arr HV.out.1 (by have := HLT.out; omega)).cell (j := 7) (by omega)
 have lb := (HI2.out.arr HV.out.2 (by have := HLT.out; omega)).cell (j := 7) (by omega)
 go_wp2_with fail
 refine (HA.out _ (HI2.out.bel HBV.out HB1.out.size)).mono ?_
 rintro e w3 ⟨rfl, hb⟩
 have HI3 := Lib.hid (HI2.out.below hb)
 have H83 := Lib.hid (H8.out.below hb)
 clear hb la lb HI2 H8 HA
 have HN3 := Lib.hid (next_ok (x := b 7) HI3.out.so)
 go_wp2_with fail
 refine HN3.out.mono ?_
 rintro e w4 ⟨rfl, hc, hs⟩
 have HI4 := Lib.hid (HI3.out.step hc hs)
 have h84 := H83.out.ch hc (by have := HZ2.out; omega)
 have HU := Lib.hid (fun W => unlessB_ok true W)
 have heq := eql_b7 b
 have heqs := eqs15 (b 7)
 have H84 := Lib.hid h84
 clear hc hs h84 HI3 HN3 H83
 go_wp2_with fail
 refine wp_world (Below.refl w4.heap.size w4) (fun wx hbx => ?_)
 have HI5 := Lib.hid (HI4.out.below hbx)
 have HLD := Lib.hid (fun W (hW : Below wx.heap.size wx W) => And.intro (HI5.out.below hW) (And.intro (H84.out.ch (Ch.below (S := fun _ => False) hbx) (fun h => h)) True.intro))
 have H85 := Lib.hid (H84.out.below hbx)
 clear hbx HI4 H84
 refine wp_region_held (S := fun W => Below wx.heap.size wx W) (by kernel_rfl) ?_
 change wpAnyH _ _ _ _ _ 17 _ _ wx.drew
 have hD0 := (Below.refl wx.heap.size wx).drew
 generalize wx.drew = W at *
 refine takeG15 (i := 0) (d := 28) (v := .pointer (some ⟨w1.heap.size, 0, none⟩)) rfl rfl (by kernel_rfl) (by kernel_rfl) (by kernel_rfl) (fun _ _ _ h => h) (by kernel_rfl) (fun W hW => by go_simp) hD0 ?_
 simp only [Act.put, sA, sB, sC]
 refine takeG15 (i := 1) (d := 29) (v := .int .i64 0) rfl rfl (by kernel_rfl) (by kernel_rfl) (by kernel_rfl) (fun _ _ _ h => h) (by kernel_rfl) (fun W hW => by have e0 := (HI5.out.below hW).so.c; go_simp) hD0 ?_
 simp only [Act.put, sA, sB, sC]
 refine takeG15 (i := 2) (d := 30) (v := .agg #[.string (b 0), .string (b 1), .string (b 2), .string (b 3), .string (b 4), .string (b 5), .string (b 6)]) rfl rfl (by kernel_rfl) (by kernel_rfl) (by kernel_rfl) (fun _ _ _ h => h) (by kernel_rfl) (fun W hW => by have hh := H85.out.below hW; have e0 := hh.cell (j := 0) (by omega); have e1 := hh.cell (j := 1) (by omega); have e2 := hh.cell (j := 2) (by omega); have e3 := hh.cell (j := 3) (by omega); have e4 := hh.cell (j := 4) (by omega); have e5 := hh.cell (j := 5) (by omega); have e6 := hh.cell (j := 6) (by omega); go_simp) hD0 ?_
 simp only [Act.put, sA, sB, sC]
 refine takeG15 (i := 3) (d := 31) (v := .pointer (some ⟨w.heap.size + 1, 0, none⟩)) rfl rfl (by kernel_rfl) (by kernel_rfl) (by kernel_rfl) (fun _ _ _ h => h) (by kernel_rfl) (fun W hW => by go_simp) hD0 ?_
 simp only [Act.put, sA, sB, sC]
 refine takeG15 (i := 4) (d := 32) (v := .agg #[.string (b 0), .string (b 1), .string (b 2), .string (b 3), .string (b 4), .string (b 5), .string (b 6)]) rfl rfl (by kernel_rfl) (by kernel_rfl) (by kernel_rfl) (fun _ _ _ h => h) (by kernel_rfl) (fun W hW => by have hh := ((HI5.out.below hW).arr HV.out.2 (by have := HLT.out; omega)); have e0 := hh.cell (j := 0) (by omega); have e1 := hh.cell (j := 1) (by omega); have e2 := hh.cell (j := 2) (by omega); have e3 := hh.cell (j := 3) (by omega); have e4 := hh.cell (j := 4) (by omega); have e5 := hh.cell (j := 5) (by omega); have e6 := hh.cell (j := 6) (by omega); have e7 := hh.cell (j := 7) (by omega); go_simp) hD0 ?_
 simp only [Act.put, sA, sB, sC]
 refine takeG15 (i := 5) (d := 33) (v := .bool true) rfl rfl (by kernel_rfl) (by kernel_rfl) (by kernel_rfl) (fun _ _ _ h => h) (by kernel_rfl) (fun W hW => by have e0 := eql_b7 b; go_simp) hD0 ?_
 simp only [Act.put, sA, sB, sC]
 refine takeG15 (i := 6) (d := 34) (v := .bool true) rfl rfl (by kernel_rfl) (by kernel_rfl) (by kernel_rfl) (fun _ _ _ h => h) (by kernel_rfl) (fun W hW => by go_simp) hD0 ?_
 simp only [Act.put, sA, sB, sC]
 refine takeG15 (i := 7) (d := 35) (v := .string (b 7)) rfl rfl (by kernel_rfl) (by kernel_rfl) (by kernel_rfl) (fun _ _ _ h => h) (by kernel_rfl) (fun W hW => by go_simp) hD0 ?_
 simp only [Act.put, sA, sB, sC]
 refine takeG15 (i := 8) (d := 36) (v := .pointer (some ⟨w.heap.size + 1, 7, none⟩)) rfl rfl (by kernel_rfl) (by kernel_rfl) (by kernel_rfl) (fun _ _ _ h => h) (by kernel_rfl) (fun W hW => by go_simp) hD0 ?_
 simp only [Act.put, sA, sB, sC]
 refine takeG15 (i := 9) (d := 37) (v := .string (b 7)) rfl rfl (by kernel_rfl) (by kernel_rfl) (by kernel_rfl) (fun _ _ _ h => h) (by kernel_rfl) (fun W hW => by have e0 := ((HI5.out.below hW).arr HV.out.2 (by have := HLT.out; omega)).cell (j := 7) (by omega); go_simp) hD0 ?_
 simp only [Act.put, sA, sB, sC]
 refine takeG15 (i := 10) (d := 38) (v := .bool true) rfl rfl (by kernel_rfl) (by kernel_rfl) (by kernel_rfl) (fun _ _ _ h => h) (by kernel_rfl) (fun W hW => by have e0 := eqs15 (b 7); go_simp) hD0 ?_
 simp only [Act.put, sA, sB, sC]
 refine takeG15 (i := 11) (d := 39) (v := .bool true) rfl rfl (by kernel_rfl) (by kernel_rfl) (by kernel_rfl) (fun _ _ _ h => h) (by kernel_rfl) (fun W hW => by go_simp) hD0 ?_
 simp only [Act.put, sA, sB, sC]
 refine wpHz_one (i := 12) (by kernel_rfl) ?_
 refine wpOz_run rfl rfl (wpz_enter (d := 40) rfl (by go_simp) ((HU.out _).mono ?_))
 rintro e u1 ⟨rfl, hb⟩
 have hD1 : Below wx.heap.size wx u1 := hD0.trans (hb.mono hD0.size)
 clear hb
 refine ⟨_, rfl, hD1, ?_⟩
 simp only [Act.put, sA, sB, sC]
 refine wpHz_take (i := 13) (d := 41) (v := .bool true) rfl rfl (by kernel_rfl) (by kernel_rfl) (by kernel_rfl) (fun _ _ _ h => h) rfl (fun W _ => by go_simp) hD1 ?_
 simp only [Act.put, sA, sB, sC]
 refine wpHz_take (i := 14) (d := 42) (v := .int .i64 0) rfl rfl (by kernel_rfl) (by kernel_rfl) (by kernel_rfl) (fun _ _ _ h => h) rfl (fun W _ => by go_simp) hD1 ?_
 simp only [Act.put, sA, sB, sC]
 refine wpHz_take (i := 15) (d := 4) (v := .bool true) rfl rfl (by kernel_rfl) (by kernel_rfl) (by kernel_rfl) (fun _ _ _ h => h) rfl (fun W _ => by go_simp) hD1 ?_
 simp only [Act.put, sA, sB, sC]
 refine wpHz_take (i := 16) (d := 5) (v := .int .i64 0) rfl rfl (by kernel_rfl) (by kernel_rfl) (by kernel_rfl) (fun _ _ _ h => h) rfl (fun W _ => by go_simp) hD1 ?_
 simp only [Act.put, sA, sB, sC]
 refine wpAnyH_done (by kernel_rfl) ?_ _
 have HX := Lib.hid ((HI5.out.below hD1).bel HBV.out HB1.out.size)
 clear hD0 hD1 HI5 H85 HLD HU heq heqs
 go_wp2_with fail
 go_ret2
 exact ⟨rfl, HX.out⟩
end Go.Proofs.YtjpepjooefkbkaaGreatDoor
