/-
  The reference of rat: Add, Sub, Mul, Div, Cmp.
-/
import Derived.Test.YtadkijaofmcgfaaGreatDoorU6
import Derived.Test.YtadkijaofmcgfaaGreatDoorU3
namespace Go.Proofs.YtadkijaofmcgfaaGreatDoor
open Go.RowKit NV
open Go.Lib (decDigits)

/-- What two gives of the errors. -/
theorem two_err {s t : ByteArray} (w : World) (hs : s.size ≤ 140737488351232) (ht : t.size ≤ 140737488351232) {c : Nat} (hc : (if rchk s ≠ 0 then rchk s else rchk t) = c) :
    Calls Tryz.prog 92 #[.string s, .string t] w fun e w' => TRet ((c : Nat) : Int) e ∧ Below w.heap.size w w' := by
  by_cases h : rchk s = 0
  · rw [if_neg (by simp [h])] at hc
    obtain ⟨p, rfl, op⟩ := rchk_rat h
    rw [← hc]
    exact two_e2 w op ht
  · rw [if_pos h] at hc
    rw [← hc]
    exact two_e1 w hs h

/-- What a function of two numbers returns of a wrong text. -/
def E2 (c : Nat) (w : World) (e : Ending) (w' : World) : Prop := e = .returned (.tuple #[.string ⟨#[]⟩, .int .i64 ((c : Nat) : Int)]) ∧ Below w.heap.size w w'
def E2i (c : Nat) (w : World) (e : Ending) (w' : World) : Prop := e = .returned (.tuple #[.int .i64 0, .int .i64 ((c : Nat) : Int)]) ∧ Below w.heap.size w w'

set_option maxHeartbeats 1600000 in
set_option maxRecDepth 100000 in
theorem rAdd_err {s t : ByteArray} (w : World) (hs : s.size ≤ 140737488351232) (ht : t.size ≤ 140737488351232) {c : Nat} (hc : (if rchk s ≠ 0 then rchk s else rchk t) = c) (h0 : c ≠ 0) :
    Calls Tryz.prog 29 #[.string s, .string t] w (E2 c w) := by
  have HT := Lib.hid (two_err w hs ht hc)
  have hne := errne h0
  unfold E2
  clear hs ht hc h0
  go_enter Tryz.func29, Tryz.ntmps29
  go_wp2_with fail
  refine HT.out.mono ?_
  rintro e w1 ⟨⟨m1, a1, L1, k1, b1, M1, l1, m2, a2, L2, k2, b2, M2, l2, rfl⟩, hb1⟩
  have HB := Lib.hid (hb1.trans ((two_newQ w1 m1 m2 (.slice a1 L1 k1) (.slice b1 M1 l1) (.slice a2 L2 k2) (.slice b2 M2 l2)).1.mono hb1.size))
  clear hb1 HT
  go_wp2_with fail
  go_ret2
  exact ⟨rfl, HB.out⟩

set_option maxHeartbeats 1600000 in
set_option maxRecDepth 100000 in
theorem rSub_err {s t : ByteArray} (w : World) (hs : s.size ≤ 140737488351232) (ht : t.size ≤ 140737488351232) {c : Nat} (hc : (if rchk s ≠ 0 then rchk s else rchk t) = c) (h0 : c ≠ 0) :
    Calls Tryz.prog 30 #[.string s, .string t] w (E2 c w) := by
  have HT := Lib.hid (two_err w hs ht hc)
  have hne := errne h0
  unfold E2
  clear hs ht hc h0
  go_enter Tryz.func30, Tryz.ntmps30
  go_wp2_with fail
  refine HT.out.mono ?_
  rintro e w1 ⟨⟨m1, a1, L1, k1, b1, M1, l1, m2, a2, L2, k2, b2, M2, l2, rfl⟩, hb1⟩
  have HB := Lib.hid (hb1.trans ((two_newQ w1 m1 m2 (.slice a1 L1 k1) (.slice b1 M1 l1) (.slice a2 L2 k2) (.slice b2 M2 l2)).1.mono hb1.size))
  clear hb1 HT
  go_wp2_with fail
  go_ret2
  exact ⟨rfl, HB.out⟩

set_option maxHeartbeats 1600000 in
set_option maxRecDepth 100000 in
theorem rMul_err {s t : ByteArray} (w : World) (hs : s.size ≤ 140737488351232) (ht : t.size ≤ 140737488351232) {c : Nat} (hc : (if rchk s ≠ 0 then rchk s else rchk t) = c) (h0 : c ≠ 0) :
    Calls Tryz.prog 31 #[.string s, .string t] w (E2 c w) := by
  have HT := Lib.hid (two_err w hs ht hc)
  have hne := errne h0
  unfold E2
  clear hs ht hc h0
  go_enter Tryz.func31, Tryz.ntmps31
  go_wp2_with fail
  refine HT.out.mono ?_
  rintro e w1 ⟨⟨m1, a1, L1, k1, b1, M1, l1, m2, a2, L2, k2, b2, M2, l2, rfl⟩, hb1⟩
  have HB := Lib.hid (hb1.trans ((two_newQ w1 m1 m2 (.slice a1 L1 k1) (.slice b1 M1 l1) (.slice a2 L2 k2) (.slice b2 M2 l2)).1.mono hb1.size))
  clear hb1 HT
  go_wp2_with fail
  go_ret2
  exact ⟨rfl, HB.out⟩

set_option maxHeartbeats 1600000 in
set_option maxRecDepth 100000 in
theorem rDiv_err {s t : ByteArray} (w : World) (hs : s.size ≤ 140737488351232) (ht : t.size ≤ 140737488351232) {c : Nat} (hc : (if rchk s ≠ 0 then rchk s else rchk t) = c) (h0 : c ≠ 0) :
    Calls Tryz.prog 32 #[.string s, .string t] w (E2 c w) := by
  have HT := Lib.hid (two_err w hs ht hc)
  have hne := errne h0
  unfold E2
  clear hs ht hc h0
  go_enter Tryz.func32, Tryz.ntmps32
  go_wp2_with fail
  refine HT.out.mono ?_
  rintro e w1 ⟨⟨m1, a1, L1, k1, b1, M1, l1, m2, a2, L2, k2, b2, M2, l2, rfl⟩, hb1⟩
  have HB := Lib.hid (hb1.trans ((two_newQ w1 m1 m2 (.slice a1 L1 k1) (.slice b1 M1 l1) (.slice a2 L2 k2) (.slice b2 M2 l2)).1.mono hb1.size))
  clear hb1 HT
  go_wp2_with fail
  go_ret2
  exact ⟨rfl, HB.out⟩

set_option maxHeartbeats 1600000 in
set_option maxRecDepth 100000 in
theorem rCmp_err {s t : ByteArray} (w : World) (hs : s.size ≤ 140737488351232) (ht : t.size ≤ 140737488351232) {c : Nat} (hc : (if rchk s ≠ 0 then rchk s else rchk t) = c) (h0 : c ≠ 0) :
    Calls Tryz.prog 38 #[.string s, .string t] w (E2i c w) := by
  have HT := Lib.hid (two_err w hs ht hc)
  have hne := errne h0
  unfold E2i
  clear hs ht hc h0
  go_enter Tryz.func38, Tryz.ntmps38
  go_wp2_with fail
  refine HT.out.mono ?_
  rintro e w1 ⟨⟨m1, a1, L1, k1, b1, M1, l1, m2, a2, L2, k2, b2, M2, l2, rfl⟩, hb1⟩
  have HB := Lib.hid (hb1.trans ((two_newQ w1 m1 m2 (.slice a1 L1 k1) (.slice b1 M1 l1) (.slice a2 L2 k2) (.slice b2 M2 l2)).1.mono hb1.size))
  clear hb1 HT
  go_wp2_with fail
  go_ret2
  exact ⟨rfl, HB.out⟩

set_option maxHeartbeats 3200000 in
set_option maxRecDepth 100000 in
theorem rAdd_q {p q : Rat} (w : World) (op : QOk p) (oq : QOk q) :
    Calls Tryz.prog 29 #[.string (qstr p), .string (qstr q)] w (RQ (p + q) w) := by
  have HT := Lib.hid (two_q w op oq)
  have HL := Lib.hid (And.intro op.ql oq.ql)
  have HWR := Lib.hid (fun (W : World) (z : Value) (h : QQ W z (p + q)) => rwrite_q h ((op.ql.add oq.ql).mono (by omega)))
  unfold RQ at HWR ⊢
  generalize wQ (p + q) = T at HWR ⊢
  obtain ⟨t1, t2⟩ := T
  clear op oq
  generalize qstr p = sp at HT ⊢
  generalize qstr q = sq at HT ⊢
  go_enter Tryz.func29, Tryz.ntmps29
  go_wp2_with fail
  refine HT.out.mono ?_
  rintro e w1 ⟨v, u, rfl, hv, hu, hb1⟩
  obtain ⟨a1, k1, a2, k2, rfl⟩ := hv.form
  obtain ⟨a3, k3, a4, k4, rfl⟩ := hu.form
  obtain ⟨hb2, hq1, hq2⟩ := two_newQ w1 (ng p) (ng q) (.slice a1 (ln (tp p)) k1) (.slice a2 (ln p.den) k2) (.slice a3 (ln (tp q)) k3) (.slice a4 (ln q.den) k4)
  have HV := Lib.hid (hv.below hb2)
  have HU := Lib.hid (hu.below hb2)
  have HB := Lib.hid (hb1.trans (hb2.mono hb1.size))
  have HQ1 := Lib.hid hq1
  have HQ2 := Lib.hid hq2
  clear hv hu hb1 hb2 hq1 hq2 HT
  go_wp2_with fail
  generalize (w1.alloc (.cells #[.bool (ng p), .slice a1 (ln (tp p)) k1, .slice a2 (ln p.den) k2] 78)).alloc (.cells #[.bool (ng q), .slice a3 (ln (tp q)) k3, .slice a4 (ln q.den) k4] 78) = w2 at HV HU HB HQ1 HQ2 ⊢
  refine (rplus_q HV.out HU.out (HL.out.1.mono (by omega)) (HL.out.2.mono (by omega)) rfl).mono ?_
  rintro e w3 ⟨z, rfl, hz, hb3⟩
  obtain ⟨a5, k5, a6, k6, rfl⟩ := hz.form
  have hy := HWR.out _ _ hz
  replace HB := Lib.hid (HB.out.trans (hb3.mono HB.out.size))
  clear hz hb3 HWR
  go_wp2_with fail
  refine hy.mono ?_
  rintro e w4 ⟨rfl, hb4⟩
  clear hy
  go_wp2_with fail
  go_ret2
  exact ⟨rfl, HB.out.trans (hb4.mono HB.out.size)⟩

set_option maxHeartbeats 3200000 in
set_option maxRecDepth 100000 in
theorem rMul_q {p q : Rat} (w : World) (op : QOk p) (oq : QOk q) :
    Calls Tryz.prog 31 #[.string (qstr p), .string (qstr q)] w (RQ (p * q) w) := by
  have HT := Lib.hid (two_q w op oq)
  have HL := Lib.hid (And.intro op.ql oq.ql)
  have HWR := Lib.hid (fun (W : World) (z : Value) (h : QQ W z (p * q)) => rwrite_q h ((op.ql.mul oq.ql).mono (by omega)))
  unfold RQ at HWR ⊢
  generalize wQ (p * q) = T at HWR ⊢
  obtain ⟨t1, t2⟩ := T
  clear op oq
  generalize qstr p = sp at HT ⊢
  generalize qstr q = sq at HT ⊢
  go_enter Tryz.func31, Tryz.ntmps31
  go_wp2_with fail
  refine HT.out.mono ?_
  rintro e w1 ⟨v, u, rfl, hv, hu, hb1⟩
  obtain ⟨a1, k1, a2, k2, rfl⟩ := hv.form
  obtain ⟨a3, k3, a4, k4, rfl⟩ := hu.form
  obtain ⟨hb2, hq1, hq2⟩ := two_newQ w1 (ng p) (ng q) (.slice a1 (ln (tp p)) k1) (.slice a2 (ln p.den) k2) (.slice a3 (ln (tp q)) k3) (.slice a4 (ln q.den) k4)
  have HV := Lib.hid (hv.below hb2)
  have HU := Lib.hid (hu.below hb2)
  have HB := Lib.hid (hb1.trans (hb2.mono hb1.size))
  have HQ1 := Lib.hid hq1
  have HQ2 := Lib.hid hq2
  clear hv hu hb1 hb2 hq1 hq2 HT
  go_wp2_with fail
  generalize (w1.alloc (.cells #[.bool (ng p), .slice a1 (ln (tp p)) k1, .slice a2 (ln p.den) k2] 78)).alloc (.cells #[.bool (ng q), .slice a3 (ln (tp q)) k3, .slice a4 (ln q.den) k4] 78) = w2 at HV HU HB HQ1 HQ2 ⊢
  refine (rtimes_q HV.out HU.out (HL.out.1.mono (by omega)) (HL.out.2.mono (by omega)) rfl).mono ?_
  rintro e w3 ⟨z, rfl, hz, hb3⟩
  obtain ⟨a5, k5, a6, k6, rfl⟩ := hz.form
  have hy := HWR.out _ _ hz
  replace HB := Lib.hid (HB.out.trans (hb3.mono HB.out.size))
  clear hz hb3 HWR
  go_wp2_with fail
  refine hy.mono ?_
  rintro e w4 ⟨rfl, hb4⟩
  clear hy
  go_wp2_with fail
  go_ret2
  exact ⟨rfl, HB.out.trans (hb4.mono HB.out.size)⟩

set_option maxHeartbeats 3200000 in
set_option maxRecDepth 100000 in
theorem rCmp_q {p q : Rat} (w : World) (op : QOk p) (oq : QOk q) :
    Calls Tryz.prog 38 #[.string (qstr p), .string (qstr q)] w (fun e w' => e = .returned (.tuple #[.int .i64 (cmpQ p q), .int .i64 0]) ∧ Below w.heap.size w w') := by
  have HT := Lib.hid (two_q w op oq)
  have HL := Lib.hid (And.intro op.ql oq.ql)
  clear op oq
  generalize qstr p = sp at HT ⊢
  generalize qstr q = sq at HT ⊢
  go_enter Tryz.func38, Tryz.ntmps38
  go_wp2_with fail
  refine HT.out.mono ?_
  rintro e w1 ⟨v, u, rfl, hv, hu, hb1⟩
  obtain ⟨a1, k1, a2, k2, rfl⟩ := hv.form
  obtain ⟨a3, k3, a4, k4, rfl⟩ := hu.form
  obtain ⟨hb2, hq1, hq2⟩ := two_newQ w1 (ng p) (ng q) (.slice a1 (ln (tp p)) k1) (.slice a2 (ln p.den) k2) (.slice a3 (ln (tp q)) k3) (.slice a4 (ln q.den) k4)
  have HV := Lib.hid (hv.below hb2)
  have HU := Lib.hid (hu.below hb2)
  have HB := Lib.hid (hb1.trans (hb2.mono hb1.size))
  have HQ1 := Lib.hid hq1
  have HQ2 := Lib.hid hq2
  clear hv hu hb1 hb2 hq1 hq2 HT
  go_wp2_with fail
  generalize (w1.alloc (.cells #[.bool (ng p), .slice a1 (ln (tp p)) k1, .slice a2 (ln p.den) k2] 78)).alloc (.cells #[.bool (ng q), .slice a3 (ln (tp q)) k3, .slice a4 (ln q.den) k4] 78) = w2 at HV HU HB HQ1 HQ2 ⊢
  refine (rorder_q HV.out HU.out (HL.out.1.mono (by omega)) (HL.out.2.mono (by omega))).mono ?_
  rintro e w3 ⟨rfl, hb3⟩
  go_wp2_with fail
  go_ret2
  exact ⟨rfl, HB.out.trans (hb3.mono HB.out.size)⟩

end Go.Proofs.YtadkijaofmcgfaaGreatDoor
