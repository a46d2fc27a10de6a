/-
  The reference of rat: Read of a rational number's text. The reference of rat: two. The reference of rat: Add, Sub, Mul, Div, Cmp. The reference of rat: Sub, Div, Min, Max.
-/
import Derived.Test.YtjpepjooefkbkaaGreatDoorHC
import Derived.Laws.StructEq
import Derived.Deep.Cut
import Derived.Deep.CutRange
import Derived.Deep.WholeRow
namespace Go.Proofs.YtjpepjooefkbkaaGreatDoor
open Go.RowKit NV
open Go.Lib (decDigits)
theorem isR_int {s : ByteArray} (h : isR s = true) : intOk (numS s) = true := by
 unfold isR at h
 split at h
 ·simp only [Bool.and_eq_true] at h; exact h.1.1.1.1
 ·exact h
theorem iread_d (n : Nat) (W : World) (h : Ok n) :
  Calls Tryz.prog 58 #[.string (dstr n)] W fun e w' => ∃ v, e = .returned v ∧ INum w' v n ∧ Below W.heap.size W w' := by
 have hl : (dstr n).data.toList = decDigits n := dstr_list n
 have h1 := iread_any (dstr n) W (by rw [dstr_size]; exact List.length_pos_iff.2 (dec_ne_nil n)) (by rw [dstr_size]; unfold Ok at h; omega) (by rw [hl]; exact digs_dec n)
 rw [hl, dv_dec] at h1
 exact h1
set_option maxHeartbeats 3200000 in
set_option maxRecDepth 100000 in
theorem rread_ok {s : ByteArray} {m : Bool} {nm nd : Nat} (w : World) (hs : s.size ≤ 140737488351232) (hR : isR s = true) (hmb : minusB (numS s) = m) (hMS : restS (numS s) = dstr nm) (hDS : denS s = dstr nd) (on : Ok nm) (od : Ok nd) (hg : Nat.gcd nm nd = 1) :
  Calls Tryz.prog 22 #[.string s] w fun e w' => ∃ x y, e = .returned (.tuple #[.agg #[.bool m, x, y], .int .i64 0]) ∧ INum w' x nm ∧ INum w' y nd ∧ Below w.heap.size w w' := by
 have ha : intOk (numS s) = true := isR_int hR
 have HHR := Lib.hid hR
 have HHM := Lib.hid hMS
 have HHD := Lib.hid hDS
 have HHB := Lib.hid hmb
 have hlm : ln nm ≤ 445 := on.ln
 have hld : ln nd ≤ 445 := od.ln
 have HRM := Lib.hid (fun W => iread_d nm W on)
 have HRD := Lib.hid (fun W => iread_d nd W od)
 have HG := Lib.hid hg
 have hz1 : ¬ (4000 : Int) < (((dstr nm).size : Nat) : Int) := by rw [dstr_size]; unfold Ok at on; omega
 have hz2 : ¬ (4000 : Int) < (((dstr nd).size : Nat) : Int) := by rw [dstr_size]; unfold Ok at od; omega
 have HZ := Lib.hid (And.intro hz1 hz2)
 clear hR hmb hMS hDS on od hg hz1 hz2
 have HSL := Lib.hid (fun W => slash_any s W hs)
 obtain ⟨K, hK⟩ : ∃ K, K = cutAt s.data.toList := ⟨_, rfl⟩
 have hKs : K ≤ s.size := by rw [hK, Go.Lib.size_eq]; exact cutAt_le _
 obtain ⟨n0, hn0⟩ : ∃ n0, n0 = s.extract 0 K := ⟨_, rfl⟩
 have hsz : n0.size ≤ 140737488351232 := by rw [hn0, ByteArray.size_extract]; omega
 have HI := Lib.hid (fun W => integer_any n0 W hsz)
 have HN0 := Lib.hid hn0
 have HNS := Lib.hid (show numS s = n0 by rw [numS, ← hK, hn0])
 have HK := Lib.hid hK
 rw [← hK] at HSL
 rw [HNS.out] at ha
 rw [ha] at HI
 have HAT := Lib.hid ha
 clear hK hn0 hsz ha
 go_enter Tryz.func22, Tryz.ntmps22
 go_wp2_with fail
 have hb0 : Below w.heap.size w (w.alloc (.cells #[.bool false, .slice none 0 0, .slice none 0 0] 61)) := (Below.refl _ _).alloc (Nat.le_refl _) _
 have hq0 : QR (w.alloc (.cells #[.bool false, .slice none 0 0, .slice none 0 0] 61)) w.heap.size false (.slice none 0 0) (.slice none 0 0) := heap_alloc_new w _
 have HB0 := Lib.hid hb0
 have HQ0 := Lib.hid hq0
 generalize w.alloc (.cells #[.bool false, .slice none 0 0, .slice none 0 0] 61) = w0 at HB0 HQ0 ⊢
 clear hb0 hq0
 refine (HSL.out _).mono ?_
 rintro e w1 ⟨rfl, rfl⟩
 go_wp2_with fail
 rw [← HN0.out]
 refine (HI.out _).mono ?_
 rintro e w1 ⟨rfl, rfl⟩
 go_upto_if 25 with fail
 go_cut [8, 9] from 25 to 46 (fun s8 s9 wx => s8 = .bool (isR s) ∧ s9 = .string (denS s) ∧ wx = w0)
 case first =>
  by_cases hlt : K < s.size
  ·obtain ⟨D, hD⟩ : ∃ D, D = s.extract (K + 1) s.size := ⟨_, rfl⟩
   have hden : denS s = D := by rw [denS, if_pos (by rw [← HK.out]; exact hlt), ← HK.out, hD]
   have HIS := Lib.hid (show isR s = (intOk n0 && !((restS n0).toList == [48]) && !badB D.data.toList && !(D.toList == [48]) && !(D.toList == [49])) by
    rw [isR, if_pos (by rw [← HK.out]; exact hlt), HNS.out, hden])
   have HDEN := Lib.hid hden
   have hDs : D.size ≤ 140737488351232 := by rw [hD, ByteArray.size_extract]; omega
   have HDG := Lib.hid (fun W => digits2_any D W hDs)
   have HDE := Lib.hid hD
   clear hD hden hDs
   cases hb : (restS n0).toList == [48] with
   | true =>
    go_wp2_with fail
    go_meet
    exact ⟨congrArg Value.bool (by rw [HIS.out, HAT.out, hb]; rfl), by rw [HDEN.out, HDE.out], rfl⟩
   | false =>
    go_wp2_with fail
    rw [← HDE.out]
    refine (HDG.out _).mono ?_
    rintro e w1 ⟨rfl, rfl⟩
    cases hc : badB D.data.toList with
    | true =>
     go_wp2_with fail
     go_meet
     exact ⟨congrArg Value.bool (by rw [HIS.out, HAT.out, hb, hc]; rfl), by rw [HDEN.out], rfl⟩
    | false =>
     cases hd : D.toList == [48] with
     | true =>
      go_wp2_with fail
      go_meet
      exact ⟨congrArg Value.bool (by rw [HIS.out, HAT.out, hb, hc, hd]; rfl), by rw [HDEN.out], rfl⟩
     | false =>
      go_wp2_with fail
      go_meet
      exact ⟨congrArg Value.bool (by rw [HIS.out, HAT.out, hb, hc, hd]; rfl), by rw [HDEN.out], rfl⟩
  ·have HIS := Lib.hid (show isR s = intOk n0 by rw [isR, if_neg (by rw [← HK.out]; exact hlt), HNS.out])
   have HDEN := Lib.hid (show denS s = ⟨#[49]⟩ by rw [denS, if_neg (by rw [← HK.out]; exact hlt)])
   go_wp2_with fail
   go_meet
   exact ⟨congrArg Value.bool (by rw [HIS.out, HAT.out]), by rw [HDEN.out], rfl⟩
 case rest =>
  obtain ⟨rfl, rfl, rfl⟩ := hcut
  have hgl : w.heap.size < wc.heap.size := (Array.getElem?_eq_some_iff.1 HQ0.out).1
  clear HSL HI
  have f0 : wc.frozen? ⟨w.heap.size, 0, none⟩ = false := Lib.frozen_of_heap HQ0.out 0
  have f1 : wc.frozen? ⟨w.heap.size, 1, none⟩ = false := Lib.frozen_of_heap HQ0.out 1
  have f2 : wc.frozen? ⟨w.heap.size, 2, none⟩ = false := Lib.frozen_of_heap HQ0.out 2
  have c0 : wc.cell? ⟨w.heap.size, 0, none⟩ = some (.bool false) := by rw [Lib.cell_of_heap HQ0.out]; rfl
  have c1 : wc.cell? ⟨w.heap.size, 1, none⟩ = some (.slice none 0 0) := by rw [Lib.cell_of_heap HQ0.out]; rfl
  have c2 : wc.cell? ⟨w.heap.size, 2, none⟩ = some (.slice none 0 0) := by rw [Lib.cell_of_heap HQ0.out]; rfl
  rw [HHR.out, HHD.out]
  have HNN := Lib.hid (show restS n0 = dstr nm by rw [← HNS.out]; exact HHM.out)
  have HNB := Lib.hid (show minusB n0 = m by rw [← HNS.out]; exact HHB.out)
  have hz1 := HZ.out.1
  have hz2 := HZ.out.2
  rw [HNN.out, HNB.out]
  go_wp2_with fail
  refine (HRM.out _).mono ?_
  rintro e w2 ⟨v1, rfl, hv1, hb2⟩
  obtain ⟨a1, k1, rfl⟩ := islice_any hv1
  have HV1 := Lib.hid hv1
  have HB2 := Lib.hid hb2
  clear hv1 hb2
  go_wp2_with fail
  refine (HRD.out _).mono ?_
  rintro e w3 ⟨v2, rfl, hv2, hb3⟩
  obtain ⟨a2, k2, rfl⟩ := islice_any hv2
  have HV2 := Lib.hid hv2
  have HB3 := Lib.hid hb3
  clear hv2 hb3
  go_wp2_with fail
  have hq4 : QR (w3.alloc (.cells #[.bool m, .slice a1 (ln nm) k1, .slice a2 (ln nd) k2] 61)) w3.heap.size m (.slice a1 (ln nm) k1) (.slice a2 (ln nd) k2) := heap_alloc_new w3 _
  have hb34 : Below w3.heap.size w3 (w3.alloc (.cells #[.bool m, .slice a1 (ln nm) k1, .slice a2 (ln nd) k2] 61)) := (Below.refl _ _).alloc (Nat.le_refl _) _
  have hv1 := (HV1.out.below HB3.out).below hb34
  have hv2 := HV2.out.below hb34
  have hbc4 := (HB2.out.trans (HB3.out.mono HB2.out.size)).trans (hb34.mono (Nat.le_trans HB2.out.size HB3.out.size))
  have hg3 : wc.heap.size ≤ w3.heap.size := Nat.le_trans HB2.out.size HB3.out.size
  have HI4 := Lib.hid (And.intro hv1 hv2)
  have HCM := Lib.hid (icommon_any hv1 hv2 (by omega) (by omega))
  have HQ4 := Lib.hid hq4
  have HBC4 := Lib.hid hbc4
  generalize hw4 : w3.alloc (.cells #[.bool m, .slice a1 (ln nm) k1, .slice a2 (ln nd) k2] 61) = w4 at HCM HQ4 HBC4 HI4 ⊢
  have hsz4 : w3.heap.size < w4.heap.size := by rw [← hw4]; simp
  clear hq4 hb34 hv1 hv2 hbc4 hw4 HV1 HV2 HB2 HB3 HRM HRD
  refine HCM.out.mono ?_
  rintro e w5 ⟨v, rfl, hv, hb5⟩
  have HV := Lib.hid hv
  have HB5 := Lib.hid hb5
  clear hv hb5 HCM
  go_wp2_with fail
  refine (rone_any w5).mono ?_
  rintro e w6 ⟨o, rfl, ho, hb6⟩
  have hg1 := gcd_ln hlm hld
  have HO := Lib.hid (iorder_any (HV.out.below hb6) ho (by omega) (by rw [ln_one]; omega))
  have HB6 := Lib.hid hb6
  clear ho hb6
  go_wp2_with fail
  refine HO.out.mono ?_
  rintro e w7 ⟨rfl, hb7⟩
  have hbc7 := HBC4.out.trans (((HB5.out.trans (HB6.out.mono HB5.out.size)).trans (hb7.mono (Nat.le_trans HB5.out.size HB6.out.size))).mono HBC4.out.size)
  have hb47 := (HB5.out.trans (HB6.out.mono HB5.out.size)).trans (hb7.mono (Nat.le_trans HB5.out.size HB6.out.size))
  have HQ7 := Lib.hid (show QR w7 w.heap.size false (.slice none 0 0) (.slice none 0 0) from (hbc7.block _ hgl).trans HQ0.out)
  have HQ8 := Lib.hid (show QR w7 w3.heap.size m (.slice a1 (ln nm) k1) (.slice a2 (ln nd) k2) from (hb47.block _ hsz4).trans HQ4.out)
  have HI7 := Lib.hid (And.intro (HI4.out.1.below hb47) (HI4.out.2.below hb47))
  have HBW := Lib.hid (HB0.out.trans (hbc7.mono (Nat.le_of_lt hgl)))
  clear f0 f1 f2 c0 c1 c2 hb7 hbc7 hb47 HV HO HB5 HB6 HBC4 HQ4
  have f0 : w7.frozen? ⟨w.heap.size, 0, none⟩ = false := Lib.frozen_of_heap HQ7.out 0
  have f1 : w7.frozen? ⟨w.heap.size, 1, none⟩ = false := Lib.frozen_of_heap HQ7.out 1
  have f2 : w7.frozen? ⟨w.heap.size, 2, none⟩ = false := Lib.frozen_of_heap HQ7.out 2
  have c0 : w7.cell? ⟨w.heap.size, 0, none⟩ = some (.bool false) := by rw [Lib.cell_of_heap HQ7.out]; rfl
  have c1 : w7.cell? ⟨w.heap.size, 1, none⟩ = some (.slice none 0 0) := by rw [Lib.cell_of_heap HQ7.out]; rfl
  have c2 : w7.cell? ⟨w.heap.size, 2, none⟩ = some (.slice none 0 0) := by rw [Lib.cell_of_heap HQ7.out]; rfl
  rw [HG.out, cmpN_eq]
  have d0 : w7.cell? ⟨w3.heap.size, 0, none⟩ = some (.bool m) := by rw [Lib.cell_of_heap HQ8.out]; rfl
  have d1 : w7.cell? ⟨w3.heap.size, 1, none⟩ = some (.slice a1 (ln nm) k1) := by rw [Lib.cell_of_heap HQ8.out]; rfl
  have d2 : w7.cell? ⟨w3.heap.size, 2, none⟩ = some (.slice a2 (ln nd) k2) := by rw [Lib.cell_of_heap HQ8.out]; rfl
  have HN7 := Lib.hid (And.intro (HI7.out.1.st3 HQ7.out m (.slice a1 (ln nm) k1) (.slice a2 (ln nd) k2)) (HI7.out.2.st3 HQ7.out m (.slice a1 (ln nm) k1) (.slice a2 (ln nd) k2)))
  go_wp2_with fail
  exact bodyPost_ret ((HQ7.out.st m (.slice a1 (ln nm) k1) (.slice a2 (ln nd) k2)).result rfl rfl) rfl ⟨_, _, rfl, HN7.out.1, HN7.out.2, below_st3 HBW.out (Nat.le_refl _) m (.slice a1 (ln nm) k1) (.slice a2 (ln nd) k2)⟩
theorem rread_q {q : Rat} (h : QOk q) (w : World) :
  Calls Tryz.prog 22 #[.string (qstr q)] w fun e w' => ∃ v, e = .returned (.tuple #[v, .int .i64 0]) ∧ QQ w' v q ∧ Below w.heap.size w w' := by
 obtain ⟨_, p2, p3, p4, _, _⟩ := qstr_parts q
 have hsz := qstr_size h
 have hR : isR (qstr q) = true := by
  have := qstr_chk h
  cases hr : isR (qstr q) with
  | true => rfl
  | false => rw [rchk, hr] at this; simp at this
 refine (rread_ok w (by omega) hR p3 p4 p2 h.1 h.2 (qcop q)).mono ?_
 rintro e w' ⟨x, y, rfl, h1, h2, h3⟩
 exact ⟨_, rfl, ⟨x, y, rfl, h1, h2⟩, h3⟩
open Go.RowKit NV
open Go.Lib (decDigits)
theorem QR.resW {w : World} {b g : Nat} {m1 m2 : Bool} {x1 y1 x2 y2 v : Value} {tmps : Array Value} (h1 : QR w b m1 x1 y1) (h2 : QR w g m2 x2 y2) (ht : tmps.getD 4 undef = .pointer (some ⟨b, 0, none⟩)) (hg : tmps.getD 5 undef = .pointer (some ⟨g, 0, none⟩)) (hv : tmps.getD 6 undef = v) :
  (results Tryz.f19 tmps).run Tryz.prog w = .ok (.tuple #[.agg #[.bool m1, x1, y1], .agg #[.bool m2, x2, y2], v]) w := by
 have l1 := h1.load
 have l2 := h2.load
 have ht' : tmps[4]?.getD undef = .pointer (some ⟨b, 0, none⟩) := by rw [← ht]; simp
 have hg' : tmps[5]?.getD undef = .pointer (some ⟨g, 0, none⟩) := by rw [← hg]; simp
 have hv' : tmps[6]?.getD undef = v := by rw [← hv]; simp
 simp [results, ht', hg', hv', asAddr, l1, l2]
theorem QR.drew {w : World} {b : Nat} {m : Bool} {x y : Value} (h : QR w b m x y) : QR w.drew b m x y := h
theorem QR.s3 {w : World} {b : Nat} {m : Bool} {x y : Value} (h : QR w b m x y) : w.cell? ⟨b, 0, none⟩ = some (.bool m) ∧ w.cell? ⟨b, 1, none⟩ = some x ∧ w.cell? ⟨b, 2, none⟩ = some y := ⟨h.c0, h.c1, h.c2⟩
theorem two_st {W : World} {b g : Nat} {n1 n2 : Bool} {u1 v1 u2 v2 : Value} (h1 : QR W b n1 u1 v1) (h2 : QR W g n2 u2 v2) (hne : b ≠ g) (m1 m2 : Bool) (x1 y1 x2 y2 : Value) :
  QR (st3 (st3 W b m1 x1 y1) g m2 x2 y2) b m1 x1 y1 ∧ QR (st3 (st3 W b m1 x1 y1) g m2 x2 y2) g m2 x2 y2 ∧ (∀ v n, INum W v n → INum (st3 (st3 W b m1 x1 y1) g m2 x2 y2) v n) ∧
  ∀ B w, Below B w W → B ≤ b → B ≤ g → Below B w (st3 (st3 W b m1 x1 y1) g m2 x2 y2) := by
 have q1 := h1.st m1 x1 y1
 have q2 := h2.stOther (Ne.symm hne) m1 x1 y1
 exact ⟨q1.stOther hne m2 x2 y2, q2.st m2 x2 y2, fun v n h => (h.st3 h1 m1 x1 y1).st3 q2 m2 x2 y2, fun B w h hb hg => below_st3 (below_st3 h hb m1 x1 y1) hg m2 x2 y2⟩
theorem INum.drew {w : World} {v : Value} {n : Nat} (h : INum w v n) : INum w.drew v n := h
theorem both6 {a b c d e f : Prop} (h : a ∧ b ∧ c) (k : d ∧ e ∧ f) : a ∧ b ∧ c ∧ d ∧ e ∧ f := ⟨h.1, h.2.1, h.2.2, k⟩
def TRet (c : Int) (e : Ending) : Prop := ∃ m1 a1 L1 k1 b1 M1 l1 m2 a2 L2 k2 b2 M2 l2, e = .returned (.tuple #[.agg #[.bool m1, .slice a1 L1 k1, .slice b1 M1 l1], .agg #[.bool m2, .slice a2 L2 k2, .slice b2 M2 l2], .int .i64 c])
theorem errne {c : Nat} (h : c ≠ 0) : (((c : Nat) : Int) != 0) = true := by rw [bne_iff_ne]; omega
set_option maxHeartbeats 6400000 in
set_option maxRecDepth 100000 in
theorem two_e1 {s t : ByteArray} (w : World) (hs : s.size ≤ 140737488351232) (hc : rchk s ≠ 0) :
  Calls Tryz.prog 19 #[.string s, .string t] w fun e w' => TRet ((rchk s : Nat) : Int) e ∧ Below w.heap.size w w' := by
 obtain ⟨hb0, hq1, hq2⟩ := two_newQ w false false (.slice none 0 0) (.slice none 0 0) (.slice none 0 0) (.slice none 0 0)
 have HB := Lib.hid hb0
 have HQ1 := Lib.hid hq1
 have HQ2 := Lib.hid hq2
 have HR := Lib.hid (fun W => rread_any s W hs)
 have hne := errne hc
 unfold RRet at HR
 generalize rchk s = c at HR hne ⊢
 clear hb0 hq1 hq2 hs hc
 go_enter Tryz.func19, Tryz.ntmps19
 go_wp2_with fail
 generalize (w.alloc (.cells #[.bool false, .slice none 0 0, .slice none 0 0] 61)).alloc (.cells #[.bool false, .slice none 0 0, .slice none 0 0] 61) = w0 at HB HQ1 HQ2 ⊢
 refine (HR.out w0).mono ?_
 rintro e w1 ⟨⟨m, a1, L1, k1, a2, L2, k2, rfl⟩, hb1⟩
 replace HB := Lib.hid (HB.out.trans (hb1.mono HB.out.size))
 replace HQ1 := Lib.hid (HQ1.out.keep hb1)
 replace HQ2 := Lib.hid (HQ2.out.keep hb1)
 have hw1 := HQ2.out.lt
 clear hb1 HR
 have hb2 : Below w1.heap.size w1 (w1.alloc (.cells #[.bool m, .slice a1 L1 k1, .slice a2 L2 k2] 61)) := (Below.refl _ _).alloc (Nat.le_refl _) _
 have HQ3 := Lib.hid (QR.new w1 m (.slice a1 L1 k1) (.slice a2 L2 k2))
 have HB2 := Lib.hid hb2
 clear hb2
 go_wp2_with fail
 generalize w1.alloc (.cells #[.bool m, .slice a1 L1 k1, .slice a2 L2 k2] 61) = w2 at HQ3 HB2 ⊢
 replace HB := Lib.hid (HB.out.trans (HB2.out.mono HB.out.size))
 replace HQ1 := Lib.hid (HQ1.out.keep HB2.out)
 replace HQ2 := Lib.hid (HQ2.out.keep HB2.out)
 have hne12 : w.heap.size ≠ w.heap.size + 1 := by omega
 have hne13 : w.heap.size ≠ w1.heap.size := by omega
 have hne23 : w.heap.size + 1 ≠ w1.heap.size := by omega
 have q12 := HQ2.out.stOther (Ne.symm hne12) m (.slice a1 L1 k1) (.slice a2 L2 k2)
 have HFA := Lib.hid (two_st HQ1.out HQ2.out hne12 m m (.slice a1 L1 k1) (.slice a2 L2 k2) (.slice a1 L1 k1) (.slice a2 L2 k2))
 have q31 := HQ3.out.stOther (Ne.symm hne13) m (.slice a1 L1 k1) (.slice a2 L2 k2)
 have q32 := q31.stOther (Ne.symm hne23) m (.slice a1 L1 k1) (.slice a2 L2 k2)
 have kk0 := HQ3.out.drew.s3
 have kk1 := q31.drew.s3
 have kk2 := q32.drew.s3
 unfold st3 at kk1 kk2
 have HK0 := Lib.hid kk0
 have HK1 := Lib.hid kk1
 have HK2 := Lib.hid kk2
 clear q31 q32 kk0 kk1 kk2
 have ec0 := HQ1.out.c0
 have ez0 := HQ1.out.z0
 have ec1 := HQ1.out.c1
 have ez1 := HQ1.out.z1
 have ec2 := HQ1.out.c2
 have ez2 := HQ1.out.z2
 have fc0 := HQ2.out.c0
 have fz0 := HQ2.out.z0
 have fc1 := HQ2.out.c1
 have fz1 := HQ2.out.z1
 have fc2 := HQ2.out.c2
 have fz2 := HQ2.out.z2
 have gc0 := q12.c0
 have gz0 := q12.z0
 have gc1 := q12.c1
 have gz1 := q12.z1
 have gc2 := q12.c2
 have gz2 := q12.z2
 unfold st3 at gc0 gc1 gc2 gz0 gz1 gz2
 clear q12
 go_region_held3 (fun W => W.cell? ⟨w1.heap.size, 0, none⟩ = some (.bool m) ∧ W.cell? ⟨w1.heap.size, 1, none⟩ = some (.slice a1 L1 k1) ∧ W.cell? ⟨w1.heap.size, 2, none⟩ = some (.slice a2 L2 k2))
  (first | with_reducible exact HK0.out | with_reducible exact HK1.out | with_reducible exact HK2.out)
  (fail)
 go_wp2_with fail
 exact bodyPost_ret (QR.resW HFA.out.1.drew HFA.out.2.1.drew rfl rfl rfl) rfl ⟨⟨_, _, _, _, _, _, _, _, _, _, _, _, _, _, rfl⟩, (HFA.out.2.2.2 _ _ HB.out (Nat.le_refl _) (Nat.le_succ _)).drew⟩
set_option maxHeartbeats 6400000 in
set_option maxRecDepth 100000 in
theorem two_e2 {p : Rat} {t : ByteArray} (w : World) (op : QOk p) (ht : t.size ≤ 140737488351232) :
  Calls Tryz.prog 19 #[.string (qstr p), .string t] w fun e w' => TRet ((rchk t : Nat) : Int) e ∧ Below w.heap.size w w' := by
 have HP := Lib.hid (fun W => rread_q op W)
 have HR := Lib.hid (fun W => rread_any t W ht)
 unfold RRet at HR
 generalize rchk t = c at HR ⊢
 obtain ⟨hb0, hq1, hq2⟩ := two_newQ w false false (.slice none 0 0) (.slice none 0 0) (.slice none 0 0) (.slice none 0 0)
 have HB := Lib.hid hb0
 have HQ1 := Lib.hid hq1
 have HQ2 := Lib.hid hq2
 clear hb0 hq1 hq2 op ht
 generalize qstr p = sp at HP ⊢
 go_enter Tryz.func19, Tryz.ntmps19
 go_wp2_with fail
 generalize (w.alloc (.cells #[.bool false, .slice none 0 0, .slice none 0 0] 61)).alloc (.cells #[.bool false, .slice none 0 0, .slice none 0 0] 61) = w0 at HB HQ1 HQ2 ⊢
 refine (HP.out w0).mono ?_
 rintro e w1 ⟨v, rfl, hv, hb1⟩
 obtain ⟨a1, k1, a2, k2, rfl⟩ := hv.form
 replace HB := Lib.hid (HB.out.trans (hb1.mono HB.out.size))
 replace HQ1 := Lib.hid (HQ1.out.keep hb1)
 replace HQ2 := Lib.hid (HQ2.out.keep hb1)
 have hw1 := HQ2.out.lt
 have hb2 : Below w1.heap.size w1 (w1.alloc (.cells #[.bool (ng p), .slice a1 (ln (tp p)) k1, .slice a2 (ln p.den) k2] 61)) := (Below.refl _ _).alloc (Nat.le_refl _) _
 have HV := Lib.hid (hv.below hb2)
 have HQ3 := Lib.hid (QR.new w1 (ng p) (.slice a1 (ln (tp p)) k1) (.slice a2 (ln p.den) k2))
 have HB2 := Lib.hid hb2
 clear hb1 HP hb2 hv
 go_wp2_with fail
 generalize w1.alloc (.cells #[.bool (ng p), .slice a1 (ln (tp p)) k1, .slice a2 (ln p.den) k2] 61) = w2 at HQ3 HB2 HV ⊢
 replace HB := Lib.hid (HB.out.trans (HB2.out.mono HB.out.size))
 replace HQ1 := Lib.hid (HQ1.out.keep HB2.out)
 replace HQ2 := Lib.hid (HQ2.out.keep HB2.out)
 refine (HR.out w2).mono ?_
 rintro e w3 ⟨⟨m, a3, L3, k3, a4, L4, k4, rfl⟩, hb3⟩
 replace HB := Lib.hid (HB.out.trans (hb3.mono HB.out.size))
 replace HQ1 := Lib.hid (HQ1.out.keep hb3)
 replace HQ2 := Lib.hid (HQ2.out.keep hb3)
 replace HQ3 := Lib.hid (HQ3.out.keep hb3)
 replace HV := Lib.hid (HV.out.below hb3)
 have hw3 := HQ3.out.lt
 have hb4 : Below w3.heap.size w3 (w3.alloc (.cells #[.bool m, .slice a3 L3 k3, .slice a4 L4 k4] 61)) := (Below.refl _ _).alloc (Nat.le_refl _) _
 have HQ4 := Lib.hid (QR.new w3 m (.slice a3 L3 k3) (.slice a4 L4 k4))
 have HB4 := Lib.hid hb4
 clear hb3 HR hb4
 go_wp2_with fail
 generalize w3.alloc (.cells #[.bool m, .slice a3 L3 k3, .slice a4 L4 k4] 61) = w4 at HQ4 HB4 ⊢
 replace HB := Lib.hid (HB.out.trans (HB4.out.mono HB.out.size))
 replace HQ1 := Lib.hid (HQ1.out.keep HB4.out)
 replace HQ2 := Lib.hid (HQ2.out.keep HB4.out)
 replace HQ3 := Lib.hid (HQ3.out.keep HB4.out)
 replace HV := Lib.hid (HV.out.below HB4.out)
 have hne12 : w.heap.size ≠ w.heap.size + 1 := by omega
 have hne13 : w.heap.size ≠ w1.heap.size := by omega
 have hne23 : w.heap.size + 1 ≠ w1.heap.size := by omega
 have hne14 : w.heap.size ≠ w3.heap.size := by omega
 have hne24 : w.heap.size + 1 ≠ w3.heap.size := by omega
 have HFA := Lib.hid (two_st HQ1.out HQ2.out hne12 (ng p) m (.slice a1 (ln (tp p)) k1) (.slice a2 (ln p.den) k2) (.slice a3 L3 k3) (.slice a4 L4 k4))
 have q12 := HQ2.out.stOther (Ne.symm hne12) (ng p) (.slice a1 (ln (tp p)) k1) (.slice a2 (ln p.den) k2)
 have q31 := HQ3.out.stOther (Ne.symm hne13) (ng p) (.slice a1 (ln (tp p)) k1) (.slice a2 (ln p.den) k2)
 have q32 := q31.stOther (Ne.symm hne23) m (.slice a3 L3 k3) (.slice a4 L4 k4)
 have q41 := HQ4.out.stOther (Ne.symm hne14) (ng p) (.slice a1 (ln (tp p)) k1) (.slice a2 (ln p.den) k2)
 have q42 := q41.stOther (Ne.symm hne24) m (.slice a3 L3 k3) (.slice a4 L4 k4)
 have kk0 := both6 HQ3.out.drew.s3 HQ4.out.drew.s3
 have kk1 := both6 q31.drew.s3 q41.drew.s3
 have kk2 := both6 q32.drew.s3 q42.drew.s3
 unfold st3 at kk1 kk2
 have HK0 := Lib.hid kk0
 have HK1 := Lib.hid kk1
 have HK2 := Lib.hid kk2
 clear q31 q32 q41 q42 kk0 kk1 kk2
 have ec0 := HQ1.out.c0
 have ez0 := HQ1.out.z0
 have ec1 := HQ1.out.c1
 have ez1 := HQ1.out.z1
 have ec2 := HQ1.out.c2
 have ez2 := HQ1.out.z2
 have fc0 := HQ2.out.c0
 have fz0 := HQ2.out.z0
 have fc1 := HQ2.out.c1
 have fz1 := HQ2.out.z1
 have fc2 := HQ2.out.c2
 have fz2 := HQ2.out.z2
 have gc0 := q12.c0
 have gz0 := q12.z0
 have gc1 := q12.c1
 have gz1 := q12.z1
 have gc2 := q12.c2
 have gz2 := q12.z2
 unfold st3 at gc0 gc1 gc2 gz0 gz1 gz2
 clear q12
 go_region_held3 (fun W => W.cell? ⟨w1.heap.size, 0, none⟩ = some (.bool (ng p)) ∧ W.cell? ⟨w1.heap.size, 1, none⟩ = some (.slice a1 (ln (tp p)) k1) ∧ W.cell? ⟨w1.heap.size, 2, none⟩ = some (.slice a2 (ln p.den) k2) ∧ W.cell? ⟨w3.heap.size, 0, none⟩ = some (.bool m) ∧ W.cell? ⟨w3.heap.size, 1, none⟩ = some (.slice a3 L3 k3) ∧ W.cell? ⟨w3.heap.size, 2, none⟩ = some (.slice a4 L4 k4))
  (first | with_reducible exact HK0.out | with_reducible exact HK1.out | with_reducible exact HK2.out)
  (fail)
 go_wp2_with fail
 exact bodyPost_ret (QR.resW HFA.out.1.drew HFA.out.2.1.drew rfl rfl rfl) rfl ⟨⟨_, _, _, _, _, _, _, _, _, _, _, _, _, _, rfl⟩, (HFA.out.2.2.2 _ _ HB.out (Nat.le_refl _) (Nat.le_succ _)).drew⟩
set_option maxHeartbeats 6400000 in
set_option maxRecDepth 100000 in
theorem two_q {p q : Rat} (w : World) (op : QOk p) (oq : QOk q) :
  Calls Tryz.prog 19 #[.string (qstr p), .string (qstr q)] w fun e w' => ∃ v u, e = .returned (.tuple #[v, u, .int .i64 0]) ∧ QQ w' v p ∧ QQ w' u q ∧ Below w.heap.size w w' := by
 have HP := Lib.hid (fun W => rread_q op W)
 have HR := Lib.hid (fun W => rread_q oq W)
 obtain ⟨hb0, hq1, hq2⟩ := two_newQ w false false (.slice none 0 0) (.slice none 0 0) (.slice none 0 0) (.slice none 0 0)
 have HB := Lib.hid hb0
 have HQ1 := Lib.hid hq1
 have HQ2 := Lib.hid hq2
 clear hb0 hq1 hq2 op oq
 generalize qstr p = sp at HP ⊢
 generalize qstr q = sq at HR ⊢
 go_enter Tryz.func19, Tryz.ntmps19
 go_wp2_with fail
 generalize (w.alloc (.cells #[.bool false, .slice none 0 0, .slice none 0 0] 61)).alloc (.cells #[.bool false, .slice none 0 0, .slice none 0 0] 61) = w0 at HB HQ1 HQ2 ⊢
 refine (HP.out w0).mono ?_
 rintro e w1 ⟨v, rfl, hv, hb1⟩
 obtain ⟨a1, k1, a2, k2, rfl⟩ := hv.form
 replace HB := Lib.hid (HB.out.trans (hb1.mono HB.out.size))
 replace HQ1 := Lib.hid (HQ1.out.keep hb1)
 replace HQ2 := Lib.hid (HQ2.out.keep hb1)
 have hw1 := HQ2.out.lt
 have hb2 : Below w1.heap.size w1 (w1.alloc (.cells #[.bool (ng p), .slice a1 (ln (tp p)) k1, .slice a2 (ln p.den) k2] 61)) := (Below.refl _ _).alloc (Nat.le_refl _) _
 have HV := Lib.hid (hv.below hb2)
 have HQ3 := Lib.hid (QR.new w1 (ng p) (.slice a1 (ln (tp p)) k1) (.slice a2 (ln p.den) k2))
 have HB2 := Lib.hid hb2
 clear hb1 HP hb2 hv
 go_wp2_with fail
 generalize w1.alloc (.cells #[.bool (ng p), .slice a1 (ln (tp p)) k1, .slice a2 (ln p.den) k2] 61) = w2 at HQ3 HB2 HV ⊢
 replace HB := Lib.hid (HB.out.trans (HB2.out.mono HB.out.size))
 replace HQ1 := Lib.hid (HQ1.out.keep HB2.out)
 replace HQ2 := Lib.hid (HQ2.out.keep HB2.out)
 refine (HR.out w2).mono ?_
 rintro e w3 ⟨u, rfl, hu, hb3⟩
 obtain ⟨a3, k3, a4, k4, rfl⟩ := hu.form
 replace HB := Lib.hid (HB.out.trans (hb3.mono HB.out.size))
 replace HQ1 := Lib.hid (HQ1.out.keep hb3)
 replace HQ2 := Lib.hid (HQ2.out.keep hb3)
 replace HQ3 := Lib.hid (HQ3.out.keep hb3)
 replace HV := Lib.hid (HV.out.below hb3)
 have hw3 := HQ3.out.lt
 have hb4 : Below w3.heap.size w3 (w3.alloc (.cells #[.bool (ng q), .slice a3 (ln (tp q)) k3, .slice a4 (ln q.den) k4] 61)) := (Below.refl _ _).alloc (Nat.le_refl _) _
 have HU := Lib.hid (hu.below hb4)
 have HQ4 := Lib.hid (QR.new w3 (ng q) (.slice a3 (ln (tp q)) k3) (.slice a4 (ln q.den) k4))
 have HB4 := Lib.hid hb4
 clear hb3 HR hb4 hu
 go_wp2_with fail
 generalize w3.alloc (.cells #[.bool (ng q), .slice a3 (ln (tp q)) k3, .slice a4 (ln q.den) k4] 61) = w4 at HQ4 HB4 HU ⊢
 replace HB := Lib.hid (HB.out.trans (HB4.out.mono HB.out.size))
 replace HQ1 := Lib.hid (HQ1.out.keep HB4.out)
 replace HQ2 := Lib.hid (HQ2.out.keep HB4.out)
 replace HQ3 := Lib.hid (HQ3.out.keep HB4.out)
 replace HV := Lib.hid (HV.out.below HB4.out)
 have hne12 : w.heap.size ≠ w.heap.size + 1 := by omega
 have hne13 : w.heap.size ≠ w1.heap.size := by omega
 have hne23 : w.heap.size + 1 ≠ w1.heap.size := by omega
 have hne14 : w.heap.size ≠ w3.heap.size := by omega
 have hne24 : w.heap.size + 1 ≠ w3.heap.size := by omega
 have HFA := Lib.hid (two_st HQ1.out HQ2.out hne12 (ng p) (ng q) (.slice a1 (ln (tp p)) k1) (.slice a2 (ln p.den) k2) (.slice a3 (ln (tp q)) k3) (.slice a4 (ln q.den) k4))
 have q12 := HQ2.out.stOther (Ne.symm hne12) (ng p) (.slice a1 (ln (tp p)) k1) (.slice a2 (ln p.den) k2)
 have q31 := HQ3.out.stOther (Ne.symm hne13) (ng p) (.slice a1 (ln (tp p)) k1) (.slice a2 (ln p.den) k2)
 have q32 := q31.stOther (Ne.symm hne23) (ng q) (.slice a3 (ln (tp q)) k3) (.slice a4 (ln q.den) k4)
 have q41 := HQ4.out.stOther (Ne.symm hne14) (ng p) (.slice a1 (ln (tp p)) k1) (.slice a2 (ln p.den) k2)
 have q42 := q41.stOther (Ne.symm hne24) (ng q) (.slice a3 (ln (tp q)) k3) (.slice a4 (ln q.den) k4)
 have kk0 := both6 HQ3.out.drew.s3 HQ4.out.drew.s3
 have kk1 := both6 q31.drew.s3 q41.drew.s3
 have kk2 := both6 q32.drew.s3 q42.drew.s3
 unfold st3 at kk1 kk2
 have HK0 := Lib.hid kk0
 have HK1 := Lib.hid kk1
 have HK2 := Lib.hid kk2
 clear q31 q32 q41 q42 kk0 kk1 kk2
 have ec0 := HQ1.out.c0
 have ez0 := HQ1.out.z0
 have ec1 := HQ1.out.c1
 have ez1 := HQ1.out.z1
 have ec2 := HQ1.out.c2
 have ez2 := HQ1.out.z2
 have fc0 := HQ2.out.c0
 have fz0 := HQ2.out.z0
 have fc1 := HQ2.out.c1
 have fz1 := HQ2.out.z1
 have fc2 := HQ2.out.c2
 have fz2 := HQ2.out.z2
 have gc0 := q12.c0
 have gz0 := q12.z0
 have gc1 := q12.c1
 have gz1 := q12.z1
 have gc2 := q12.c2
 have gz2 := q12.z2
 unfold st3 at gc0 gc1 gc2 gz0 gz1 gz2
 clear q12
 go_region_held3 (fun W => W.cell? ⟨w1.heap.size, 0, none⟩ = some (.bool (ng p)) ∧ W.cell? ⟨w1.heap.size, 1, none⟩ = some (.slice a1 (ln (tp p)) k1) ∧ W.cell? ⟨w1.heap.size, 2, none⟩ = some (.slice a2 (ln p.den) k2) ∧ W.cell? ⟨w3.heap.size, 0, none⟩ = some (.bool (ng q)) ∧ W.cell? ⟨w3.heap.size, 1, none⟩ = some (.slice a3 (ln (tp q)) k3) ∧ W.cell? ⟨w3.heap.size, 2, none⟩ = some (.slice a4 (ln q.den) k4))
  (first | with_reducible exact HK0.out | with_reducible exact HK1.out | with_reducible exact HK2.out)
  (fail)
 go_wp2_with fail
 exact bodyPost_ret (QR.resW HFA.out.1.drew HFA.out.2.1.drew rfl rfl rfl) rfl ⟨_, _, rfl, ⟨_, _, rfl, (HFA.out.2.2.1 _ _ HV.out.nums.2.1).drew, (HFA.out.2.2.1 _ _ HV.out.nums.2.2).drew⟩, ⟨_, _, rfl, (HFA.out.2.2.1 _ _ HU.out.nums.2.1).drew, (HFA.out.2.2.1 _ _ HU.out.nums.2.2).drew⟩, (HFA.out.2.2.2 _ _ HB.out (Nat.le_refl _) (Nat.le_succ _)).drew⟩
open Go.RowKit NV
open Go.Lib (decDigits)
theorem two_err {s t : ByteArray} (w : World) (hs : s.size ≤ 140737488351232) (ht : t.size ≤ 140737488351232) {c : Nat} (hc : (if rchk s ≠ 0 then rchk s else rchk t) = c) :
  Calls Tryz.prog 19 #[.string s, .string t] w fun e w' => TRet ((c : Nat) : Int) e ∧ Below w.heap.size w w' := by
 by_cases h : rchk s = 0
 ·rw [if_neg (by simp [h])] at hc
  obtain ⟨p, rfl, op⟩ := rchk_rat h
  rw [← hc]
  exact two_e2 w op ht
 ·rw [if_pos h] at hc
  rw [← hc]
  exact two_e1 w hs h
def E2i (c : Nat) (w : World) (e : Ending) (w' : World) : Prop := e = .returned (.tuple #[.int .i64 0, .int .i64 ((c : Nat) : Int)]) ∧ Below w.heap.size w w'
set_option maxHeartbeats 1600000 in
set_option maxRecDepth 100000 in
theorem rCmp_err {s t : ByteArray} (w : World) (hs : s.size ≤ 140737488351232) (ht : t.size ≤ 140737488351232) {c : Nat} (hc : (if rchk s ≠ 0 then rchk s else rchk t) = c) (h0 : c ≠ 0) :
  Calls Tryz.prog 18 #[.string s, .string t] w (E2i c w) := by
 have HT := Lib.hid (two_err w hs ht hc)
 have hne := errne h0
 unfold E2i
 clear hs ht hc h0
 go_enter Tryz.func18, Tryz.ntmps18
 go_wp2_with fail
 refine HT.out.mono ?_
 rintro e w1 ⟨⟨m1, a1, L1, k1, b1, M1, l1, m2, a2, L2, k2, b2, M2, l2, rfl⟩, hb1⟩
 have HB := Lib.hid (hb1.trans ((two_newQ w1 m1 m2 (.slice a1 L1 k1) (.slice b1 M1 l1) (.slice a2 L2 k2) (.slice b2 M2 l2)).1.mono hb1.size))
 clear hb1 HT
 go_wp2_with fail
 go_ret2
 exact ⟨rfl, HB.out⟩
set_option maxHeartbeats 3200000 in
set_option maxRecDepth 100000 in
theorem rAdd_q {p q : Rat} (w : World) (op : QOk p) (oq : QOk q) :
  Calls Tryz.prog 7 #[.string (qstr p), .string (qstr q)] w (RQ (p + q) w) := by
 have HT := Lib.hid (two_q w op oq)
 have HL := Lib.hid (And.intro op.ql oq.ql)
 have HWR := Lib.hid (fun (W : World) (z : Value) (h : QQ W z (p + q)) => rwrite_q h ((op.ql.add oq.ql).mono (by omega)))
 unfold RQ at HWR ⊢
 generalize wQ (p + q) = T at HWR ⊢
 obtain ⟨t1, t2⟩ := T
 clear op oq
 generalize qstr p = sp at HT ⊢
 generalize qstr q = sq at HT ⊢
 go_enter Tryz.func7, Tryz.ntmps7
 go_wp2_with fail
 refine HT.out.mono ?_
 rintro e w1 ⟨v, u, rfl, hv, hu, hb1⟩
 obtain ⟨a1, k1, a2, k2, rfl⟩ := hv.form
 obtain ⟨a3, k3, a4, k4, rfl⟩ := hu.form
 obtain ⟨hb2, hq1, hq2⟩ := two_newQ w1 (ng p) (ng q) (.slice a1 (ln (tp p)) k1) (.slice a2 (ln p.den) k2) (.slice a3 (ln (tp q)) k3) (.slice a4 (ln q.den) k4)
 have HV := Lib.hid (hv.below hb2)
 have HU := Lib.hid (hu.below hb2)
 have HB := Lib.hid (hb1.trans (hb2.mono hb1.size))
 have HQ1 := Lib.hid hq1
 have HQ2 := Lib.hid hq2
 clear hv hu hb1 hb2 hq1 hq2 HT
 go_wp2_with fail
 generalize (w1.alloc (.cells #[.bool (ng p), .slice a1 (ln (tp p)) k1, .slice a2 (ln p.den) k2] 61)).alloc (.cells #[.bool (ng q), .slice a3 (ln (tp q)) k3, .slice a4 (ln q.den) k4] 61) = w2 at HV HU HB HQ1 HQ2 ⊢
 refine (rplus_q HV.out HU.out (HL.out.1.mono (by omega)) (HL.out.2.mono (by omega)) rfl).mono ?_
 rintro e w3 ⟨z, rfl, hz, hb3⟩
 obtain ⟨a5, k5, a6, k6, rfl⟩ := hz.form
 have hy := HWR.out _ _ hz
 replace HB := Lib.hid (HB.out.trans (hb3.mono HB.out.size))
 clear hz hb3 HWR
 go_wp2_with fail
 refine hy.mono ?_
 rintro e w4 ⟨rfl, hb4⟩
 clear hy
 go_wp2_with fail
 go_ret2
 exact ⟨rfl, HB.out.trans (hb4.mono HB.out.size)⟩
set_option maxHeartbeats 3200000 in
set_option maxRecDepth 100000 in
theorem rCmp_q {p q : Rat} (w : World) (op : QOk p) (oq : QOk q) :
  Calls Tryz.prog 18 #[.string (qstr p), .string (qstr q)] w (fun e w' => e = .returned (.tuple #[.int .i64 (cmpQ p q), .int .i64 0]) ∧ Below w.heap.size w w') := by
 have HT := Lib.hid (two_q w op oq)
 have HL := Lib.hid (And.intro op.ql oq.ql)
 clear op oq
 generalize qstr p = sp at HT ⊢
 generalize qstr q = sq at HT ⊢
 go_enter Tryz.func18, Tryz.ntmps18
 go_wp2_with fail
 refine HT.out.mono ?_
 rintro e w1 ⟨v, u, rfl, hv, hu, hb1⟩
 obtain ⟨a1, k1, a2, k2, rfl⟩ := hv.form
 obtain ⟨a3, k3, a4, k4, rfl⟩ := hu.form
 obtain ⟨hb2, hq1, hq2⟩ := two_newQ w1 (ng p) (ng q) (.slice a1 (ln (tp p)) k1) (.slice a2 (ln p.den) k2) (.slice a3 (ln (tp q)) k3) (.slice a4 (ln q.den) k4)
 have HV := Lib.hid (hv.below hb2)
 have HU := Lib.hid (hu.below hb2)
 have HB := Lib.hid (hb1.trans (hb2.mono hb1.size))
 have HQ1 := Lib.hid hq1
 have HQ2 := Lib.hid hq2
 clear hv hu hb1 hb2 hq1 hq2 HT
 go_wp2_with fail
 generalize (w1.alloc (.cells #[.bool (ng p), .slice a1 (ln (tp p)) k1, .slice a2 (ln p.den) k2] 61)).alloc (.cells #[.bool (ng q), .slice a3 (ln (tp q)) k3, .slice a4 (ln q.den) k4] 61) = w2 at HV HU HB HQ1 HQ2 ⊢
 refine (rorder_q HV.out HU.out (HL.out.1.mono (by omega)) (HL.out.2.mono (by omega))).mono ?_
 rintro e w3 ⟨rfl, hb3⟩
 go_wp2_with fail
 go_ret2
 exact ⟨rfl, HB.out.trans (hb3.mono HB.out.size)⟩
open Go.RowKit NV
open Go.Lib (decDigits)
theorem lift_rq {f : Nat} {args : Array Value} {w0 W : World} {v : Value} (h0 : Below w0.heap.size w0 W) (hc : Calls Tryz.prog f args W fun e w' => e = .returned v ∧ Below W.heap.size W w') :
  Calls Tryz.prog f args W fun e w' => e = .returned v ∧ Below w0.heap.size w0 w' :=
 hc.mono fun _ _ ⟨h1, h3⟩ => ⟨h1, h0.trans (h3.mono h0.size)⟩
theorem rover_r {w : World} {v : Value} {p r : Rat} (hp : QQ w v p) (h0 : p ≠ 0) (hr : r = p⁻¹) :
  Calls Tryz.prog 23 #[v] w fun e w' => ∃ z, e = .returned z ∧ QQ w' z r ∧ Below w.heap.size w w' := by
 rw [hr]; exact rover_q hp h0
theorem tp_ne {q : Rat} (h : q ≠ 0) : tp q ≠ 0 := fun e => h (by
 apply Rat.num_eq_zero.1
 unfold tp at e
 omega)
set_option maxHeartbeats 3200000 in
set_option maxRecDepth 100000 in
theorem rSub_q {p q : Rat} (w : World) (op : QOk p) (oq : QOk q) :
  Calls Tryz.prog 9 #[.string (qstr p), .string (qstr q)] w (RQ (p + -q) w) := by
 have HT := Lib.hid (two_q w op oq)
 have HL := Lib.hid (And.intro op.ql oq.ql)
 have HWR := Lib.hid (fun (W : World) (z : Value) (h : QQ W z (p + -q)) => rwrite_q h ((op.ql.add oq.ql.neg).mono (by omega)))
 unfold RQ at HWR ⊢
 generalize wQ (p + -q) = T at HWR ⊢
 obtain ⟨t1, t2⟩ := T
 clear op oq
 generalize qstr p = sp at HT ⊢
 generalize qstr q = sq at HT ⊢
 go_enter Tryz.func9, Tryz.ntmps9
 go_wp2_with fail
 refine HT.out.mono ?_
 rintro e w1 ⟨v, u, rfl, hv, hu, hb1⟩
 obtain ⟨a1, k1, a2, k2, rfl⟩ := hv.form
 obtain ⟨a3, k3, a4, k4, rfl⟩ := hu.form
 obtain ⟨hb2, hq1, hq2⟩ := two_newQ w1 (ng p) (ng q) (.slice a1 (ln (tp p)) k1) (.slice a2 (ln p.den) k2) (.slice a3 (ln (tp q)) k3) (.slice a4 (ln q.den) k4)
 have HV := Lib.hid (hv.below hb2)
 have HU := Lib.hid (hu.below hb2)
 have HB := Lib.hid (hb1.trans (hb2.mono hb1.size))
 have HQ1 := Lib.hid hq1
 have HQ2 := Lib.hid hq2
 clear hv hu hb1 hb2 hq1 hq2 HT
 go_wp2_with fail
 generalize (w1.alloc (.cells #[.bool (ng p), .slice a1 (ln (tp p)) k1, .slice a2 (ln p.den) k2] 61)).alloc (.cells #[.bool (ng q), .slice a3 (ln (tp q)) k3, .slice a4 (ln q.den) k4] 61) = w2 at HV HU HB HQ1 HQ2 ⊢
 have HS := Lib.hid (show ∀ W, Below w2.heap.size w2 W → W.cell? ⟨w1.heap.size, 0, none⟩ = some (.bool (ng p)) ∧ W.cell? ⟨w1.heap.size, 1, none⟩ = some (.slice a1 (ln (tp p)) k1) ∧ W.cell? ⟨w1.heap.size, 2, none⟩ = some (.slice a2 (ln p.den) k2) ∧ W.cell? ⟨w1.heap.size + 1, 0, none⟩ = some (.bool (ng q)) ∧ W.cell? ⟨w1.heap.size + 1, 1, none⟩ = some (.slice a3 (ln (tp q)) k3) ∧ W.cell? ⟨w1.heap.size + 1, 2, none⟩ = some (.slice a4 (ln q.den) k4) from fun W h =>
   ⟨(HQ1.out.keep h).c0, (HQ1.out.keep h).c1, (HQ1.out.keep h).c2, (HQ2.out.keep h).c0, (HQ2.out.keep h).c1, (HQ2.out.keep h).c2⟩)
 have hD0 := (Below.refl w2.heap.size w2).drew
 go_region_held3 (fun W => W.cell? ⟨w1.heap.size, 0, none⟩ = some (.bool (ng p)) ∧ W.cell? ⟨w1.heap.size, 1, none⟩ = some (.slice a1 (ln (tp p)) k1) ∧ W.cell? ⟨w1.heap.size, 2, none⟩ = some (.slice a2 (ln p.den) k2) ∧ W.cell? ⟨w1.heap.size + 1, 0, none⟩ = some (.bool (ng q)) ∧ W.cell? ⟨w1.heap.size + 1, 1, none⟩ = some (.slice a3 (ln (tp q)) k3) ∧ W.cell? ⟨w1.heap.size + 1, 2, none⟩ = some (.slice a4 (ln q.den) k4))
  (first | exact HS.out _ hD0 | exact HS.out _ (by assumption))
  (first
   | (go_at_call 24; refine (lift_qq (w0 := w2) (by assumption) (rneg_q (HU.out.below (by assumption)))).mono ?_; rintro e u1 ⟨z1, rfl, hz1, hb1, hB1⟩; obtain ⟨a5, k5, a6, k6, rfl⟩ := hz1.form)
   | (go_at_call 21; refine (lift_qq (w0 := w2) (by assumption) (rplus_q (HV.out.below (by assumption)) hz1 (HL.out.1.mono (by omega)) (HL.out.2.neg.mono (by omega)) rfl)).mono ?_; rintro e u2 ⟨z2, rfl, hz2, hb2, hB2⟩; obtain ⟨a7, k7, a8, k8, rfl⟩ := hz2.form)
   | (go_at_call 20; refine (lift_rq (w0 := w2) (by assumption) (HWR.out _ _ hz2)).mono ?_; rintro e u3 ⟨rfl, hB3⟩))
 replace HB := Lib.hid (HB.out.trans (hB3.mono HB.out.size))
 go_wp2_with fail
 go_ret2
 exact ⟨rfl, HB.out⟩
set_option maxHeartbeats 3200000 in
set_option maxRecDepth 100000 in
theorem rDiv_q {p q r : Rat} (w : World) (op : QOk p) (oq : QOk q) (h0 : q ≠ 0) (hr : r = q⁻¹) :
  Calls Tryz.prog 36 #[.string (qstr p), .string (qstr q)] w (RQ (p * r) w) := by
 have HT := Lib.hid (two_q w op oq)
 have HL := Lib.hid (And.intro op.ql oq.ql)
 have HWR := Lib.hid (fun (W : World) (z : Value) (h : QQ W z (p * r)) => rwrite_q h ((op.ql.mul (hr ▸ oq.ql.inv h0)).mono (by omega)))
 unfold RQ at HWR ⊢
 generalize wQ (p * r) = T at HWR ⊢
 obtain ⟨t1, t2⟩ := T
 have HN := Lib.hid (And.intro h0 hr)
 have HLR := Lib.hid (show QL 445 r from hr ▸ oq.ql.inv h0)
 have hl : (((ln (tp q) : Nat) : Int) == 0) = false := by
  have := ln_pos (tp_ne h0)
  rw [beq_eq_false_iff_ne]; omega
 clear h0 hr
 clear op oq
 generalize qstr p = sp at HT ⊢
 generalize qstr q = sq at HT ⊢
 go_enter Tryz.func36, Tryz.ntmps36
 go_wp2_with fail
 refine HT.out.mono ?_
 rintro e w1 ⟨v, u, rfl, hv, hu, hb1⟩
 obtain ⟨a1, k1, a2, k2, rfl⟩ := hv.form
 obtain ⟨a3, k3, a4, k4, rfl⟩ := hu.form
 obtain ⟨hb2, hq1, hq2⟩ := two_newQ w1 (ng p) (ng q) (.slice a1 (ln (tp p)) k1) (.slice a2 (ln p.den) k2) (.slice a3 (ln (tp q)) k3) (.slice a4 (ln q.den) k4)
 have HV := Lib.hid (hv.below hb2)
 have HU := Lib.hid (hu.below hb2)
 have HB := Lib.hid (hb1.trans (hb2.mono hb1.size))
 have HQ1 := Lib.hid hq1
 have HQ2 := Lib.hid hq2
 clear hv hu hb1 hb2 hq1 hq2 HT
 go_wp2_with fail
 generalize (w1.alloc (.cells #[.bool (ng p), .slice a1 (ln (tp p)) k1, .slice a2 (ln p.den) k2] 61)).alloc (.cells #[.bool (ng q), .slice a3 (ln (tp q)) k3, .slice a4 (ln q.den) k4] 61) = w2 at HV HU HB HQ1 HQ2 ⊢
 have HS := Lib.hid (show ∀ W, Below w2.heap.size w2 W → W.cell? ⟨w1.heap.size, 0, none⟩ = some (.bool (ng p)) ∧ W.cell? ⟨w1.heap.size, 1, none⟩ = some (.slice a1 (ln (tp p)) k1) ∧ W.cell? ⟨w1.heap.size, 2, none⟩ = some (.slice a2 (ln p.den) k2) ∧ W.cell? ⟨w1.heap.size + 1, 0, none⟩ = some (.bool (ng q)) ∧ W.cell? ⟨w1.heap.size + 1, 1, none⟩ = some (.slice a3 (ln (tp q)) k3) ∧ W.cell? ⟨w1.heap.size + 1, 2, none⟩ = some (.slice a4 (ln q.den) k4) from fun W h =>
   ⟨(HQ1.out.keep h).c0, (HQ1.out.keep h).c1, (HQ1.out.keep h).c2, (HQ2.out.keep h).c0, (HQ2.out.keep h).c1, (HQ2.out.keep h).c2⟩)
 have hD0 := (Below.refl w2.heap.size w2).drew
 go_region_held3 (fun W => W.cell? ⟨w1.heap.size, 0, none⟩ = some (.bool (ng p)) ∧ W.cell? ⟨w1.heap.size, 1, none⟩ = some (.slice a1 (ln (tp p)) k1) ∧ W.cell? ⟨w1.heap.size, 2, none⟩ = some (.slice a2 (ln p.den) k2) ∧ W.cell? ⟨w1.heap.size + 1, 0, none⟩ = some (.bool (ng q)) ∧ W.cell? ⟨w1.heap.size + 1, 1, none⟩ = some (.slice a3 (ln (tp q)) k3) ∧ W.cell? ⟨w1.heap.size + 1, 2, none⟩ = some (.slice a4 (ln q.den) k4))
  (first | exact HS.out _ hD0 | exact HS.out _ (by assumption))
  (first
   | (go_at_call 23; refine (lift_qq (w0 := w2) (by assumption) (rover_r (HU.out.below (by assumption)) HN.out.1 HN.out.2)).mono ?_; rintro e u1 ⟨z1, rfl, hz1, hb1, hB1⟩; obtain ⟨a5, k5, a6, k6, rfl⟩ := hz1.form)
   | (go_at_call 79; refine (lift_qq (w0 := w2) (by assumption) (rtimes_q (HV.out.below (by assumption)) hz1 (HL.out.1.mono (by omega)) (HLR.out.mono (by omega)) rfl)).mono ?_; rintro e u2 ⟨z2, rfl, hz2, hb2, hB2⟩; obtain ⟨a7, k7, a8, k8, rfl⟩ := hz2.form)
   | (go_at_call 20; refine (lift_rq (w0 := w2) (by assumption) (HWR.out _ _ hz2)).mono ?_; rintro e u3 ⟨rfl, hB3⟩))
 replace HB := Lib.hid (HB.out.trans (hB3.mono HB.out.size))
 go_wp2_with fail
 go_ret2
 exact ⟨rfl, HB.out⟩
set_option maxHeartbeats 1600000 in
theorem rMax_q {p q : Rat} (w : World) (op : QOk p) (oq : QOk q) :
  Calls Tryz.prog 13 #[.string (qstr p), .string (qstr q)] w fun e w' => e = .returned (.tuple #[.string (qstr (if 0 ≤ cmpQ p q then p else q)), .int .i64 0]) ∧ Below w.heap.size w w' := by
 have HT := Lib.hid (rCmp_q w op oq)
 clear op oq
 generalize cmpQ p q = C at HT ⊢
 by_cases h : 0 ≤ C
 ·rw [if_pos h]
  generalize qstr p = sp at HT ⊢
  generalize qstr q = sq at HT ⊢
  go_enter Tryz.func13, Tryz.ntmps13
  go_wp2_with fail
  refine HT.out.mono ?_
  rintro e w1 ⟨rfl, hb1⟩
  go_wp2_with fail
  go_ret2
  exact ⟨rfl, hb1⟩
 ·rw [if_neg h]
  generalize qstr p = sp at HT ⊢
  generalize qstr q = sq at HT ⊢
  go_enter Tryz.func13, Tryz.ntmps13
  go_wp2_with fail
  refine HT.out.mono ?_
  rintro e w1 ⟨rfl, hb1⟩
  go_wp2_with fail
  go_ret2
  exact ⟨rfl, hb1⟩
end Go.Proofs.YtjpepjooefkbkaaGreatDoor
