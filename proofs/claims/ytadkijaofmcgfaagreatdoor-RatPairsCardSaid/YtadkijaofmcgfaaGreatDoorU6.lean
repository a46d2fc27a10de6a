/-
  The reference of rat: two.
-/
import Derived.Test.YtadkijaofmcgfaaGreatDoorU5
namespace Go.Proofs.YtadkijaofmcgfaaGreatDoor
open Go.RowKit NV
open Go.Lib (decDigits)

theorem QR.resW {w : World} {b g : Nat} {m1 m2 : Bool} {x1 y1 x2 y2 v : Value} {tmps : Array Value} (h1 : QR w b m1 x1 y1) (h2 : QR w g m2 x2 y2) (ht : tmps.getD 4 undef = .pointer (some ⟨b, 0, none⟩)) (hg : tmps.getD 5 undef = .pointer (some ⟨g, 0, none⟩)) (hv : tmps.getD 6 undef = v) :
    (results Tryz.f92 tmps).run Tryz.prog w = .ok (.tuple #[.agg #[.bool m1, x1, y1], .agg #[.bool m2, x2, y2], v]) w := by
  have l1 := h1.load
  have l2 := h2.load
  have ht' : tmps[4]?.getD undef = .pointer (some ⟨b, 0, none⟩) := by rw [← ht]; simp
  have hg' : tmps[5]?.getD undef = .pointer (some ⟨g, 0, none⟩) := by rw [← hg]; simp
  have hv' : tmps[6]?.getD undef = v := by rw [← hv]; simp
  simp [results, ht', hg', hv', asAddr, l1, l2]

theorem QR.drew {w : World} {b : Nat} {m : Bool} {x y : Value} (h : QR w b m x y) : QR w.drew b m x y := h
theorem QR.s3 {w : World} {b : Nat} {m : Bool} {x y : Value} (h : QR w b m x y) : w.cell? ⟨b, 0, none⟩ = some (.bool m) ∧ w.cell? ⟨b, 1, none⟩ = some x ∧ w.cell? ⟨b, 2, none⟩ = some y := ⟨h.c0, h.c1, h.c2⟩

theorem two_st {W : World} {b g : Nat} {n1 n2 : Bool} {u1 v1 u2 v2 : Value} (h1 : QR W b n1 u1 v1) (h2 : QR W g n2 u2 v2) (hne : b ≠ g) (m1 m2 : Bool) (x1 y1 x2 y2 : Value) :
    QR (st3 (st3 W b m1 x1 y1) g m2 x2 y2) b m1 x1 y1 ∧ QR (st3 (st3 W b m1 x1 y1) g m2 x2 y2) g m2 x2 y2 ∧ (∀ v n, INum W v n → INum (st3 (st3 W b m1 x1 y1) g m2 x2 y2) v n) ∧
    ∀ B w, Below B w W → B ≤ b → B ≤ g → Below B w (st3 (st3 W b m1 x1 y1) g m2 x2 y2) := by
  have q1 := h1.st m1 x1 y1
  have q2 := h2.stOther (Ne.symm hne) m1 x1 y1
  exact ⟨q1.stOther hne m2 x2 y2, q2.st m2 x2 y2, fun v n h => (h.st3 h1 m1 x1 y1).st3 q2 m2 x2 y2, fun B w h hb hg => below_st3 (below_st3 h hb m1 x1 y1) hg m2 x2 y2⟩

theorem INum.drew {w : World} {v : Value} {n : Nat} (h : INum w v n) : INum w.drew v n := h

theorem both6 {a b c d e f : Prop} (h : a ∧ b ∧ c) (k : d ∧ e ∧ f) : a ∧ b ∧ c ∧ d ∧ e ∧ f := ⟨h.1, h.2.1, h.2.2, k⟩

/-- What two returns: two numbers of whatever value, and an error. -/
def TRet (c : Int) (e : Ending) : Prop := ∃ m1 a1 L1 k1 b1 M1 l1 m2 a2 L2 k2 b2 M2 l2, e = .returned (.tuple #[.agg #[.bool m1, .slice a1 L1 k1, .slice b1 M1 l1], .agg #[.bool m2, .slice a2 L2 k2, .slice b2 M2 l2], .int .i64 c])

theorem errne {c : Nat} (h : c ≠ 0) : (((c : Nat) : Int) != 0) = true := by rw [bne_iff_ne]; omega

set_option maxHeartbeats 6400000 in
set_option maxRecDepth 100000 in
theorem two_e1 {s t : ByteArray} (w : World) (hs : s.size ≤ 140737488351232) (hc : rchk s ≠ 0) :
    Calls Tryz.prog 92 #[.string s, .string t] w fun e w' => TRet ((rchk s : Nat) : Int) e ∧ Below w.heap.size w w' := by
  obtain ⟨hb0, hq1, hq2⟩ := two_newQ w false false (.slice none 0 0) (.slice none 0 0) (.slice none 0 0) (.slice none 0 0)
  have HB := Lib.hid hb0
  have HQ1 := Lib.hid hq1
  have HQ2 := Lib.hid hq2
  have HR := Lib.hid (fun W => rread_any s W hs)
  have hne := errne hc
  unfold RRet at HR
  generalize rchk s = c at HR hne ⊢
  clear hb0 hq1 hq2 hs hc
  go_enter Tryz.func92, Tryz.ntmps92
  go_wp2_with fail
  generalize (w.alloc (.cells #[.bool false, .slice none 0 0, .slice none 0 0] 78)).alloc (.cells #[.bool false, .slice none 0 0, .slice none 0 0] 78) = w0 at HB HQ1 HQ2 ⊢
  refine (HR.out w0).mono ?_
  rintro e w1 ⟨⟨m, a1, L1, k1, a2, L2, k2, rfl⟩, hb1⟩
  replace HB := Lib.hid (HB.out.trans (hb1.mono HB.out.size))
  replace HQ1 := Lib.hid (HQ1.out.keep hb1)
  replace HQ2 := Lib.hid (HQ2.out.keep hb1)
  have hw1 := HQ2.out.lt
  clear hb1 HR
  have hb2 : Below w1.heap.size w1 (w1.alloc (.cells #[.bool m, .slice a1 L1 k1, .slice a2 L2 k2] 78)) := (Below.refl _ _).alloc (Nat.le_refl _) _
  have HQ3 := Lib.hid (QR.new w1 m (.slice a1 L1 k1) (.slice a2 L2 k2))
  have HB2 := Lib.hid hb2
  clear hb2
  go_wp2_with fail
  generalize w1.alloc (.cells #[.bool m, .slice a1 L1 k1, .slice a2 L2 k2] 78) = w2 at HQ3 HB2 ⊢
  replace HB := Lib.hid (HB.out.trans (HB2.out.mono HB.out.size))
  replace HQ1 := Lib.hid (HQ1.out.keep HB2.out)
  replace HQ2 := Lib.hid (HQ2.out.keep HB2.out)
  have hne12 : w.heap.size ≠ w.heap.size + 1 := by omega
  have hne13 : w.heap.size ≠ w1.heap.size := by omega
  have hne23 : w.heap.size + 1 ≠ w1.heap.size := by omega
  have q12 := HQ2.out.stOther (Ne.symm hne12) m (.slice a1 L1 k1) (.slice a2 L2 k2)
  have HFA := Lib.hid (two_st HQ1.out HQ2.out hne12 m m (.slice a1 L1 k1) (.slice a2 L2 k2) (.slice a1 L1 k1) (.slice a2 L2 k2))
  have q31 := HQ3.out.stOther (Ne.symm hne13) m (.slice a1 L1 k1) (.slice a2 L2 k2)
  have q32 := q31.stOther (Ne.symm hne23) m (.slice a1 L1 k1) (.slice a2 L2 k2)
  have kk0 := HQ3.out.drew.s3
  have kk1 := q31.drew.s3
  have kk2 := q32.drew.s3
  unfold st3 at kk1 kk2
  have HK0 := Lib.hid kk0
  have HK1 := Lib.hid kk1
  have HK2 := Lib.hid kk2
  clear q31 q32 kk0 kk1 kk2
  have ec0 := HQ1.out.c0
  have ez0 := HQ1.out.z0
  have ec1 := HQ1.out.c1
  have ez1 := HQ1.out.z1
  have ec2 := HQ1.out.c2
  have ez2 := HQ1.out.z2
  have fc0 := HQ2.out.c0
  have fz0 := HQ2.out.z0
  have fc1 := HQ2.out.c1
  have fz1 := HQ2.out.z1
  have fc2 := HQ2.out.c2
  have fz2 := HQ2.out.z2
  have gc0 := q12.c0
  have gz0 := q12.z0
  have gc1 := q12.c1
  have gz1 := q12.z1
  have gc2 := q12.c2
  have gz2 := q12.z2
  unfold st3 at gc0 gc1 gc2 gz0 gz1 gz2
  clear q12
  go_region_held3 (fun W => W.cell? ⟨w1.heap.size, 0, none⟩ = some (.bool m) ∧ W.cell? ⟨w1.heap.size, 1, none⟩ = some (.slice a1 L1 k1) ∧ W.cell? ⟨w1.heap.size, 2, none⟩ = some (.slice a2 L2 k2))
    (first | with_reducible exact HK0.out | with_reducible exact HK1.out | with_reducible exact HK2.out)
    (fail)
  go_wp2_with fail
  exact bodyPost_ret (QR.resW HFA.out.1.drew HFA.out.2.1.drew rfl rfl rfl) rfl ⟨⟨_, _, _, _, _, _, _, _, _, _, _, _, _, _, rfl⟩, (HFA.out.2.2.2 _ _ HB.out (Nat.le_refl _) (Nat.le_succ _)).drew⟩

set_option maxHeartbeats 6400000 in
set_option maxRecDepth 100000 in
theorem two_e2 {p : Rat} {t : ByteArray} (w : World) (op : QOk p) (ht : t.size ≤ 140737488351232) :
    Calls Tryz.prog 92 #[.string (qstr p), .string t] w fun e w' => TRet ((rchk t : Nat) : Int) e ∧ Below w.heap.size w w' := by
  have HP := Lib.hid (fun W => rread_q op W)
  have HR := Lib.hid (fun W => rread_any t W ht)
  unfold RRet at HR
  generalize rchk t = c at HR ⊢
  obtain ⟨hb0, hq1, hq2⟩ := two_newQ w false false (.slice none 0 0) (.slice none 0 0) (.slice none 0 0) (.slice none 0 0)
  have HB := Lib.hid hb0
  have HQ1 := Lib.hid hq1
  have HQ2 := Lib.hid hq2
  clear hb0 hq1 hq2 op ht
  generalize qstr p = sp at HP ⊢
  go_enter Tryz.func92, Tryz.ntmps92
  go_wp2_with fail
  generalize (w.alloc (.cells #[.bool false, .slice none 0 0, .slice none 0 0] 78)).alloc (.cells #[.bool false, .slice none 0 0, .slice none 0 0] 78) = w0 at HB HQ1 HQ2 ⊢
  refine (HP.out w0).mono ?_
  rintro e w1 ⟨v, rfl, hv, hb1⟩
  obtain ⟨a1, k1, a2, k2, rfl⟩ := hv.form
  replace HB := Lib.hid (HB.out.trans (hb1.mono HB.out.size))
  replace HQ1 := Lib.hid (HQ1.out.keep hb1)
  replace HQ2 := Lib.hid (HQ2.out.keep hb1)
  have hw1 := HQ2.out.lt
  have hb2 : Below w1.heap.size w1 (w1.alloc (.cells #[.bool (ng p), .slice a1 (ln (tp p)) k1, .slice a2 (ln p.den) k2] 78)) := (Below.refl _ _).alloc (Nat.le_refl _) _
  have HV := Lib.hid (hv.below hb2)
  have HQ3 := Lib.hid (QR.new w1 (ng p) (.slice a1 (ln (tp p)) k1) (.slice a2 (ln p.den) k2))
  have HB2 := Lib.hid hb2
  clear hb1 HP hb2 hv
  go_wp2_with fail
  generalize w1.alloc (.cells #[.bool (ng p), .slice a1 (ln (tp p)) k1, .slice a2 (ln p.den) k2] 78) = w2 at HQ3 HB2 HV ⊢
  replace HB := Lib.hid (HB.out.trans (HB2.out.mono HB.out.size))
  replace HQ1 := Lib.hid (HQ1.out.keep HB2.out)
  replace HQ2 := Lib.hid (HQ2.out.keep HB2.out)
  refine (HR.out w2).mono ?_
  rintro e w3 ⟨⟨m, a3, L3, k3, a4, L4, k4, rfl⟩, hb3⟩
  replace HB := Lib.hid (HB.out.trans (hb3.mono HB.out.size))
  replace HQ1 := Lib.hid (HQ1.out.keep hb3)
  replace HQ2 := Lib.hid (HQ2.out.keep hb3)
  replace HQ3 := Lib.hid (HQ3.out.keep hb3)
  replace HV := Lib.hid (HV.out.below hb3)
  have hw3 := HQ3.out.lt
  have hb4 : Below w3.heap.size w3 (w3.alloc (.cells #[.bool m, .slice a3 L3 k3, .slice a4 L4 k4] 78)) := (Below.refl _ _).alloc (Nat.le_refl _) _
  have HQ4 := Lib.hid (QR.new w3 m (.slice a3 L3 k3) (.slice a4 L4 k4))
  have HB4 := Lib.hid hb4
  clear hb3 HR hb4
  go_wp2_with fail
  generalize w3.alloc (.cells #[.bool m, .slice a3 L3 k3, .slice a4 L4 k4] 78) = w4 at HQ4 HB4 ⊢
  replace HB := Lib.hid (HB.out.trans (HB4.out.mono HB.out.size))
  replace HQ1 := Lib.hid (HQ1.out.keep HB4.out)
  replace HQ2 := Lib.hid (HQ2.out.keep HB4.out)
  replace HQ3 := Lib.hid (HQ3.out.keep HB4.out)
  replace HV := Lib.hid (HV.out.below HB4.out)
  have hne12 : w.heap.size ≠ w.heap.size + 1 := by omega
  have hne13 : w.heap.size ≠ w1.heap.size := by omega
  have hne23 : w.heap.size + 1 ≠ w1.heap.size := by omega
  have hne14 : w.heap.size ≠ w3.heap.size := by omega
  have hne24 : w.heap.size + 1 ≠ w3.heap.size := by omega
  have HFA := Lib.hid (two_st HQ1.out HQ2.out hne12 (ng p) m (.slice a1 (ln (tp p)) k1) (.slice a2 (ln p.den) k2) (.slice a3 L3 k3) (.slice a4 L4 k4))
  have q12 := HQ2.out.stOther (Ne.symm hne12) (ng p) (.slice a1 (ln (tp p)) k1) (.slice a2 (ln p.den) k2)
  have q31 := HQ3.out.stOther (Ne.symm hne13) (ng p) (.slice a1 (ln (tp p)) k1) (.slice a2 (ln p.den) k2)
  have q32 := q31.stOther (Ne.symm hne23) m (.slice a3 L3 k3) (.slice a4 L4 k4)
  have q41 := HQ4.out.stOther (Ne.symm hne14) (ng p) (.slice a1 (ln (tp p)) k1) (.slice a2 (ln p.den) k2)
  have q42 := q41.stOther (Ne.symm hne24) m (.slice a3 L3 k3) (.slice a4 L4 k4)
  have kk0 := both6 HQ3.out.drew.s3 HQ4.out.drew.s3
  have kk1 := both6 q31.drew.s3 q41.drew.s3
  have kk2 := both6 q32.drew.s3 q42.drew.s3
  unfold st3 at kk1 kk2
  have HK0 := Lib.hid kk0
  have HK1 := Lib.hid kk1
  have HK2 := Lib.hid kk2
  clear q31 q32 q41 q42 kk0 kk1 kk2
  have ec0 := HQ1.out.c0
  have ez0 := HQ1.out.z0
  have ec1 := HQ1.out.c1
  have ez1 := HQ1.out.z1
  have ec2 := HQ1.out.c2
  have ez2 := HQ1.out.z2
  have fc0 := HQ2.out.c0
  have fz0 := HQ2.out.z0
  have fc1 := HQ2.out.c1
  have fz1 := HQ2.out.z1
  have fc2 := HQ2.out.c2
  have fz2 := HQ2.out.z2
  have gc0 := q12.c0
  have gz0 := q12.z0
  have gc1 := q12.c1
  have gz1 := q12.z1
  have gc2 := q12.c2
  have gz2 := q12.z2
  unfold st3 at gc0 gc1 gc2 gz0 gz1 gz2
  clear q12
  go_region_held3 (fun W => W.cell? ⟨w1.heap.size, 0, none⟩ = some (.bool (ng p)) ∧ W.cell? ⟨w1.heap.size, 1, none⟩ = some (.slice a1 (ln (tp p)) k1) ∧ W.cell? ⟨w1.heap.size, 2, none⟩ = some (.slice a2 (ln p.den) k2) ∧ W.cell? ⟨w3.heap.size, 0, none⟩ = some (.bool m) ∧ W.cell? ⟨w3.heap.size, 1, none⟩ = some (.slice a3 L3 k3) ∧ W.cell? ⟨w3.heap.size, 2, none⟩ = some (.slice a4 L4 k4))
    (first | with_reducible exact HK0.out | with_reducible exact HK1.out | with_reducible exact HK2.out)
    (fail)
  go_wp2_with fail
  exact bodyPost_ret (QR.resW HFA.out.1.drew HFA.out.2.1.drew rfl rfl rfl) rfl ⟨⟨_, _, _, _, _, _, _, _, _, _, _, _, _, _, rfl⟩, (HFA.out.2.2.2 _ _ HB.out (Nat.le_refl _) (Nat.le_succ _)).drew⟩

set_option maxHeartbeats 6400000 in
set_option maxRecDepth 100000 in
theorem two_q {p q : Rat} (w : World) (op : QOk p) (oq : QOk q) :
    Calls Tryz.prog 92 #[.string (qstr p), .string (qstr q)] w fun e w' => ∃ v u, e = .returned (.tuple #[v, u, .int .i64 0]) ∧ QQ w' v p ∧ QQ w' u q ∧ Below w.heap.size w w' := by
  have HP := Lib.hid (fun W => rread_q op W)
  have HR := Lib.hid (fun W => rread_q oq W)
  obtain ⟨hb0, hq1, hq2⟩ := two_newQ w false false (.slice none 0 0) (.slice none 0 0) (.slice none 0 0) (.slice none 0 0)
  have HB := Lib.hid hb0
  have HQ1 := Lib.hid hq1
  have HQ2 := Lib.hid hq2
  clear hb0 hq1 hq2 op oq
  generalize qstr p = sp at HP ⊢
  generalize qstr q = sq at HR ⊢
  go_enter Tryz.func92, Tryz.ntmps92
  go_wp2_with fail
  generalize (w.alloc (.cells #[.bool false, .slice none 0 0, .slice none 0 0] 78)).alloc (.cells #[.bool false, .slice none 0 0, .slice none 0 0] 78) = w0 at HB HQ1 HQ2 ⊢
  refine (HP.out w0).mono ?_
  rintro e w1 ⟨v, rfl, hv, hb1⟩
  obtain ⟨a1, k1, a2, k2, rfl⟩ := hv.form
  replace HB := Lib.hid (HB.out.trans (hb1.mono HB.out.size))
  replace HQ1 := Lib.hid (HQ1.out.keep hb1)
  replace HQ2 := Lib.hid (HQ2.out.keep hb1)
  have hw1 := HQ2.out.lt
  have hb2 : Below w1.heap.size w1 (w1.alloc (.cells #[.bool (ng p), .slice a1 (ln (tp p)) k1, .slice a2 (ln p.den) k2] 78)) := (Below.refl _ _).alloc (Nat.le_refl _) _
  have HV := Lib.hid (hv.below hb2)
  have HQ3 := Lib.hid (QR.new w1 (ng p) (.slice a1 (ln (tp p)) k1) (.slice a2 (ln p.den) k2))
  have HB2 := Lib.hid hb2
  clear hb1 HP hb2 hv
  go_wp2_with fail
  generalize w1.alloc (.cells #[.bool (ng p), .slice a1 (ln (tp p)) k1, .slice a2 (ln p.den) k2] 78) = w2 at HQ3 HB2 HV ⊢
  replace HB := Lib.hid (HB.out.trans (HB2.out.mono HB.out.size))
  replace HQ1 := Lib.hid (HQ1.out.keep HB2.out)
  replace HQ2 := Lib.hid (HQ2.out.keep HB2.out)
  refine (HR.out w2).mono ?_
  rintro e w3 ⟨u, rfl, hu, hb3⟩
  obtain ⟨a3, k3, a4, k4, rfl⟩ := hu.form
  replace HB := Lib.hid (HB.out.trans (hb3.mono HB.out.size))
  replace HQ1 := Lib.hid (HQ1.out.keep hb3)
  replace HQ2 := Lib.hid (HQ2.out.keep hb3)
  replace HQ3 := Lib.hid (HQ3.out.keep hb3)
  replace HV := Lib.hid (HV.out.below hb3)
  have hw3 := HQ3.out.lt
  have hb4 : Below w3.heap.size w3 (w3.alloc (.cells #[.bool (ng q), .slice a3 (ln (tp q)) k3, .slice a4 (ln q.den) k4] 78)) := (Below.refl _ _).alloc (Nat.le_refl _) _
  have HU := Lib.hid (hu.below hb4)
  have HQ4 := Lib.hid (QR.new w3 (ng q) (.slice a3 (ln (tp q)) k3) (.slice a4 (ln q.den) k4))
  have HB4 := Lib.hid hb4
  clear hb3 HR hb4 hu
  go_wp2_with fail
  generalize w3.alloc (.cells #[.bool (ng q), .slice a3 (ln (tp q)) k3, .slice a4 (ln q.den) k4] 78) = w4 at HQ4 HB4 HU ⊢
  replace HB := Lib.hid (HB.out.trans (HB4.out.mono HB.out.size))
  replace HQ1 := Lib.hid (HQ1.out.keep HB4.out)
  replace HQ2 := Lib.hid (HQ2.out.keep HB4.out)
  replace HQ3 := Lib.hid (HQ3.out.keep HB4.out)
  replace HV := Lib.hid (HV.out.below HB4.out)
  have hne12 : w.heap.size ≠ w.heap.size + 1 := by omega
  have hne13 : w.heap.size ≠ w1.heap.size := by omega
  have hne23 : w.heap.size + 1 ≠ w1.heap.size := by omega
  have hne14 : w.heap.size ≠ w3.heap.size := by omega
  have hne24 : w.heap.size + 1 ≠ w3.heap.size := by omega
  have HFA := Lib.hid (two_st HQ1.out HQ2.out hne12 (ng p) (ng q) (.slice a1 (ln (tp p)) k1) (.slice a2 (ln p.den) k2) (.slice a3 (ln (tp q)) k3) (.slice a4 (ln q.den) k4))
  have q12 := HQ2.out.stOther (Ne.symm hne12) (ng p) (.slice a1 (ln (tp p)) k1) (.slice a2 (ln p.den) k2)
  have q31 := HQ3.out.stOther (Ne.symm hne13) (ng p) (.slice a1 (ln (tp p)) k1) (.slice a2 (ln p.den) k2)
  have q32 := q31.stOther (Ne.symm hne23) (ng q) (.slice a3 (ln (tp q)) k3) (.slice a4 (ln q.den) k4)
  have q41 := HQ4.out.stOther (Ne.symm hne14) (ng p) (.slice a1 (ln (tp p)) k1) (.slice a2 (ln p.den) k2)
  have q42 := q41.stOther (Ne.symm hne24) (ng q) (.slice a3 (ln (tp q)) k3) (.slice a4 (ln q.den) k4)
  have kk0 := both6 HQ3.out.drew.s3 HQ4.out.drew.s3
  have kk1 := both6 q31.drew.s3 q41.drew.s3
  have kk2 := both6 q32.drew.s3 q42.drew.s3
  unfold st3 at kk1 kk2
  have HK0 := Lib.hid kk0
  have HK1 := Lib.hid kk1
  have HK2 := Lib.hid kk2
  clear q31 q32 q41 q42 kk0 kk1 kk2
  have ec0 := HQ1.out.c0
  have ez0 := HQ1.out.z0
  have ec1 := HQ1.out.c1
  have ez1 := HQ1.out.z1
  have ec2 := HQ1.out.c2
  have ez2 := HQ1.out.z2
  have fc0 := HQ2.out.c0
  have fz0 := HQ2.out.z0
  have fc1 := HQ2.out.c1
  have fz1 := HQ2.out.z1
  have fc2 := HQ2.out.c2
  have fz2 := HQ2.out.z2
  have gc0 := q12.c0
  have gz0 := q12.z0
  have gc1 := q12.c1
  have gz1 := q12.z1
  have gc2 := q12.c2
  have gz2 := q12.z2
  unfold st3 at gc0 gc1 gc2 gz0 gz1 gz2
  clear q12
  go_region_held3 (fun W => W.cell? ⟨w1.heap.size, 0, none⟩ = some (.bool (ng p)) ∧ W.cell? ⟨w1.heap.size, 1, none⟩ = some (.slice a1 (ln (tp p)) k1) ∧ W.cell? ⟨w1.heap.size, 2, none⟩ = some (.slice a2 (ln p.den) k2) ∧ W.cell? ⟨w3.heap.size, 0, none⟩ = some (.bool (ng q)) ∧ W.cell? ⟨w3.heap.size, 1, none⟩ = some (.slice a3 (ln (tp q)) k3) ∧ W.cell? ⟨w3.heap.size, 2, none⟩ = some (.slice a4 (ln q.den) k4))
    (first | with_reducible exact HK0.out | with_reducible exact HK1.out | with_reducible exact HK2.out)
    (fail)
  go_wp2_with fail
  exact bodyPost_ret (QR.resW HFA.out.1.drew HFA.out.2.1.drew rfl rfl rfl) rfl ⟨_, _, rfl, ⟨_, _, rfl, (HFA.out.2.2.1 _ _ HV.out.nums.2.1).drew, (HFA.out.2.2.1 _ _ HV.out.nums.2.2).drew⟩, ⟨_, _, rfl, (HFA.out.2.2.1 _ _ HU.out.nums.2.1).drew, (HFA.out.2.2.1 _ _ HU.out.nums.2.2).drew⟩, (HFA.out.2.2.2 _ _ HB.out (Nat.le_refl _) (Nat.le_succ _)).drew⟩

end Go.Proofs.YtadkijaofmcgfaaGreatDoor
