/-
  The reference of rat: slash, digits, integer. The reference of rat: Read and Check.
-/
import Derived.Test.YtjpepjooefkbkaaGreatDoorGC
import Derived.Lib.SlBytesRow
import Derived.Laws.DeepStrings4
import Derived.Test.YtjpepjooefkbkaaGreatDoorGF
import Derived.Laws.StructEq
import Derived.Deep.Cut
import Derived.Deep.CutRange
import Derived.Deep.WholeRow
namespace Go.Proofs.YtjpepjooefkbkaaGreatDoor
open Go.RowKit NV
open Go.Lib (decDigits)
def cutAt (l : List UInt8) : Nat := l.findIdx (fun c => c.toNat == 47)
theorem cutAt_le (l : List UInt8) : cutAt l ≤ l.length := List.findIdx_le_length
set_option maxHeartbeats 800000 in
theorem slash_any (s : ByteArray) (w : World) (hs : s.size ≤ 140737488351232) :
  Calls Tryz.prog 55 #[.string s] w fun e w' => e = .returned (.int .i64 ((cutAt s.data.toList : Nat) : Int)) ∧ w = w' := by
 have HSZ := Lib.hid (Go.Lib.size_eq s)
 go_enter Tryz.func55, Tryz.ntmps55
 go_wp2_with fail
 go_loop [3] (fun i => ∃ k : Nat, k ≤ s.size ∧ i = .int .i64 (k : Int) ∧ Hid (∀ j (h : j < s.data.toList.length), j < k → (s.data.toList[j].toNat == 47) = false)) (fun i => s.size - (intOf i).toNat)
 case atStart => exact ⟨0, Nat.zero_le _, rfl, Lib.hid (fun j _ h => by omega)⟩
 case round =>
  obtain ⟨k, hk, rfl, HN⟩ := hrel
  by_cases hlt : k < s.size
  ·have hb := byte_at s k hlt
   have hlen : k < s.data.toList.length := by rw [← HSZ.out]; exact hlt
   have hbk : s.data.toList[k] = s[k] := by rw [List.getElem?_eq_getElem hlen] at hb; exact Option.some.inj hb
   by_cases hc : (s[k]).toNat = 47
   ·have HR := Lib.hid (show cutAt s.data.toList = k by
     rw [cutAt, List.findIdx_eq hlen]
     exact ⟨by rw [hbk, hc]; rfl, fun j hj => HN.out j (by omega) hj⟩)
    have hcz : ((((s[k]).toNat : Nat) : Int) == 47) = true := by rw [beq_iff_eq]; omega
    clear hb hbk
    go_wp2_with fail
    go_ret
    exact ⟨ret_int (by rw [HR.out]), rfl⟩
   ·have hcz : ((((s[k]).toNat : Nat) : Int) == 47) = false := by rw [beq_eq_false_iff_ne]; omega
    have HN2 := Lib.hid (show ∀ j (h : j < s.data.toList.length), j < k + 1 → (s.data.toList[j].toNat == 47) = false from fun j h hj => by
     by_cases e : j = k
     ·subst e; rw [hbk, beq_eq_false_iff_ne]; exact hc
     ·exact HN.out j h (by omega))
    clear hb hbk
    go_wp2_with fail
    go_round
    case rel => exact ⟨k + 1, by omega, by go_num, HN2⟩
    case measure => simp [intOf]; omega
  ·obtain rfl : k = s.size := by omega
   have HR := Lib.hid (show cutAt s.data.toList = s.size by
    rw [cutAt, HSZ.out, List.findIdx_eq_length]
    intro x hx
    obtain ⟨j, hj, rfl⟩ := List.mem_iff_getElem.1 hx
    exact HN.out j hj (by rw [HSZ.out]; exact hj))
   go_wp2_with fail
   go_ret
   exact ⟨ret_int (by rw [HR.out]), rfl⟩
theorem badB_chk (l : List UInt8) : (!badB l) = decide (chk l = 0 ∨ chk l = 5) := by
 unfold chk
 cases badB l <;> simp <;> omega
set_option maxHeartbeats 800000 in
theorem digits2_any (s : ByteArray) (w : World) (hs : s.size ≤ 140737488351232) :
  Calls Tryz.prog 57 #[.string s] w fun e w' => e = .returned (.bool (!badB s.data.toList)) ∧ w = w' := by
 have HC := Lib.hid (refcheck_any s w hs)
 have HB := Lib.hid (badB_chk s.data.toList)
 have hcase : chk s.data.toList = 0 ∨ chk s.data.toList = 5 ∨ chk s.data.toList = 3 := by
  unfold chk; split
  ·exact .inr (.inr rfl)
  ·split
   ·exact .inr (.inl rfl)
   ·exact .inl rfl
 generalize chk s.data.toList = K at HC HB hcase
 rcases hcase with rfl | rfl | rfl
 ·have HR := Lib.hid (show true = !badB s.data.toList by rw [HB.out]; rfl)
  go_enter Tryz.func57, Tryz.ntmps57
  go_wp2_with fail
  refine HC.out.mono ?_
  rintro e w1 ⟨rfl, rfl⟩
  go_wp2_with fail
  go_ret
  exact ⟨by rw [← HR.out]; rfl, rfl⟩
 ·have HR := Lib.hid (show true = !badB s.data.toList by rw [HB.out]; rfl)
  go_enter Tryz.func57, Tryz.ntmps57
  go_wp2_with fail
  refine HC.out.mono ?_
  rintro e w1 ⟨rfl, rfl⟩
  go_wp2_with fail
  go_ret
  exact ⟨by rw [← HR.out]; rfl, rfl⟩
 ·have HR := Lib.hid (show false = !badB s.data.toList by rw [HB.out]; rfl)
  go_enter Tryz.func57, Tryz.ntmps57
  go_wp2_with fail
  refine HC.out.mono ?_
  rintro e w1 ⟨rfl, rfl⟩
  go_wp2_with fail
  go_ret
  exact ⟨by rw [← HR.out]; rfl, rfl⟩
def minusB (s : ByteArray) : Bool := decide (s.data.toList.headD 0 = 45)
def restS (s : ByteArray) : ByteArray := if minusB s then s.extract 1 s.size else s
def intOk (s : ByteArray) : Bool := !badB (restS s).data.toList && !(minusB s && ((restS s).toList == [48]))
set_option maxHeartbeats 800000 in
set_option maxRecDepth 100000 in
theorem integer_any (s : ByteArray) (w : World) (hs : s.size ≤ 140737488351232) :
  Calls Tryz.prog 56 #[.string s] w fun e w' => e = .returned (.tuple #[.bool (minusB s), .string (restS s), .bool (intOk s)]) ∧ w = w' := by
 by_cases h0 : 0 < s.size
 ·have hh := head_byte s h0
  by_cases hm : s[0] = 45
  ·have hmb : minusB s = true := by rw [minusB, hh, hm]; rfl
   have hr : restS s = s.extract 1 s.size := by rw [restS, if_pos hmb]
   have hc : ((((s[0]).toNat : Nat) : Int) == 45) = true := by rw [hm]; rfl
   have hsz : (s.extract 1 s.size).size ≤ 140737488351232 := by rw [ByteArray.size_extract]; omega
   have HD := Lib.hid (digits2_any (s.extract 1 s.size) w hsz)
   have hE : (!badB (s.extract 1 s.size).data.toList && !((s.extract 1 s.size).toList == [48])) = intOk s := by rw [intOk, hr, hmb, Bool.true_and]
   rw [hmb, hr, ← hE]
   clear hh hm hmb hr hsz hE
   generalize badB (s.extract 1 s.size).data.toList = D at HD ⊢
   cases D
   ·go_enter Tryz.func56, Tryz.ntmps56
    go_wp2_with fail
    refine HD.out.mono ?_
    rintro e w1 ⟨rfl, rfl⟩
    go_wp2_with fail
    go_ret3
    exact ⟨by rw [Bool.not_false, Bool.true_and]; rfl, rfl⟩
   ·go_enter Tryz.func56, Tryz.ntmps56
    go_wp2_with fail
    refine HD.out.mono ?_
    rintro e w1 ⟨rfl, rfl⟩
    go_wp2_with fail
    go_ret3
    exact ⟨by rw [Bool.not_true, Bool.false_and]; rfl, rfl⟩
  ·have hmb : minusB s = false := by rw [minusB, hh]; simpa using hm
   have hr : restS s = s := by rw [restS, if_neg (by rw [hmb]; simp)]
   have hc : ((((s[0]).toNat : Nat) : Int) == 45) = false := by
    rw [beq_eq_false_iff_ne]
    intro e
    exact hm (UInt8.toNat_inj.1 (by show (s[0]).toNat = 45; omega))
   have HD := Lib.hid (digits2_any s w hs)
   have hE : (!badB s.data.toList) = intOk s := by rw [intOk, hr, hmb, Bool.false_and]; simp
   rw [hmb, hr, ← hE]
   clear hh hm hmb hr hE
   generalize badB s.data.toList = D at HD ⊢
   cases D
   ·go_enter Tryz.func56, Tryz.ntmps56
    go_wp2_with fail
    refine HD.out.mono ?_
    rintro e w1 ⟨rfl, rfl⟩
    go_wp2_with fail
    go_ret3
    exact ⟨rfl, rfl⟩
   ·go_enter Tryz.func56, Tryz.ntmps56
    go_wp2_with fail
    refine HD.out.mono ?_
    rintro e w1 ⟨rfl, rfl⟩
    go_wp2_with fail
    go_ret3
    exact ⟨rfl, rfl⟩
 ·have he : s = ⟨#[]⟩ := by
   have : s.size = 0 := by omega
   rw [Go.Lib.size_eq] at this
   exact ByteArray.ext (Array.toList_inj.1 (List.length_eq_zero_iff.1 this))
  subst he
  have HD := Lib.hid (digits2_any ⟨#[]⟩ w hs)
  have hr : restS ⟨#[]⟩ = ⟨#[]⟩ := rfl
  have hmb : minusB ⟨#[]⟩ = false := rfl
  have hE : intOk ⟨#[]⟩ = false := rfl
  have hD : badB (⟨#[]⟩ : ByteArray).data.toList = true := rfl
  rw [hD] at HD
  rw [hr, hmb, hE]
  clear hr hmb hE hD h0
  go_enter Tryz.func56, Tryz.ntmps56
  go_wp2_with fail
  refine HD.out.mono ?_
  rintro e w1 ⟨rfl, rfl⟩
  go_wp2_with fail
  go_ret3
  exact ⟨rfl, rfl⟩
open Go.RowKit NV
open Go.Lib (decDigits)
def QR (w : World) (b : Nat) (m : Bool) (n d : Value) : Prop := w.heap[b]? = some (.cells #[.bool m, n, d] 61 (0, 0))
theorem info_Q : (Tryz.prog.info? 61).map (·.size) = some 3 := by kernel_rfl
theorem QR.load {w : World} {b : Nat} {m : Bool} {n d : Value} (h : QR w b m n d) : (loadVar 61 ⟨b, 0, none⟩).run Tryz.prog w = .ok (.agg #[.bool m, n, d]) w :=
 run_loadVar_row _ _ 61 61 _ (0, 0) _ h Tryz.underlying61 rfl info_Q
theorem QR.result {w : World} {b : Nat} {m : Bool} {n d v : Value} {tmps : Array Value} (h : QR w b m n d) (ht : tmps.getD 2 undef = .pointer (some ⟨b, 0, none⟩)) (hv : tmps.getD 3 undef = v) : (results Tryz.f22 tmps).run Tryz.prog w = .ok (.tuple #[.agg #[.bool m, n, d], v]) w := by
 have hl := h.load
 have ht' : tmps[2]?.getD undef = .pointer (some ⟨b, 0, none⟩) := by rw [← ht]; simp
 have hv' : tmps[3]?.getD undef = v := by rw [← hv]; simp
 simp [results, ht', hv', asAddr, hl]
def st3 (w : World) (b : Nat) (m : Bool) (n d : Value) : World := ((w.setCell ⟨b, 0, none⟩ (.bool m)).setCell ⟨b, 1, none⟩ n).setCell ⟨b, 2, none⟩ d
theorem QR.st {w : World} {b : Nat} {m : Bool} {n d : Value} (h : QR w b m n d) (m' : Bool) (n' d' : Value) : QR (st3 w b m' n' d') b m' n' d' :=
 heap_setCell_same _ b 2 _ _ _ (heap_setCell_same _ b 1 _ _ _ (heap_setCell_same w b 0 _ _ _ h))
theorem below_st3 {B : Nat} {w w' : World} (h : Below B w w') {b : Nat} (hb : B ≤ b) (m : Bool) (n d : Value) : Below B w (st3 w' b m n d) :=
 ((h.setCell (p := ⟨b, 0, none⟩) hb _).setCell (p := ⟨b, 1, none⟩) hb _).setCell (p := ⟨b, 2, none⟩) hb _
set_option maxHeartbeats 800000 in
theorem rone_any (w : World) :
  Calls Tryz.prog 60 #[] w fun e w' => ∃ v, e = .returned v ∧ INum w' v 1 ∧ Below w.heap.size w w' := by
 have HN := Lib.hid (show INum (w.alloc (.cells #[.int .i64 1] 3)) (.slice (some ⟨w.heap.size, 0, none⟩) 1 1) 1 from (IArr.one (w := w) 1 (by omega)).congr (f' := dg 1) (fun _ _ => rfl) |>.num (c := 1) (Nat.le_refl _) (by rw [ln_one]; exact Nat.le_refl _) |> fun h => by rwa [ln_one] at h)
 go_enter Tryz.func60, Tryz.ntmps60
 go_wp2_with fail
 go_ret
 exact ⟨_, rfl, HN.out, (Below.refl _ _).alloc (Nat.le_refl _) _⟩
theorem digs_ln {l : List UInt8} {k : Nat} (hd : Digs l) (h : l.length ≤ 9 * k) : ln (dv l) ≤ k := ln_le (dv_lt_pow hd h)
theorem gcd_ln {a b N : Nat} (ha : ln a ≤ N) (hb : ln b ≤ N) : ln (Nat.gcd a b) ≤ N := by
 by_cases h : a = 0
 ·rw [h, Nat.gcd_zero_left]; exact hb
 ·exact Nat.le_trans (ln_mono (Nat.le_of_dvd (Nat.pos_of_ne_zero h) (Nat.gcd_dvd_left a b))) ha
def numS (s : ByteArray) : ByteArray := s.extract 0 (cutAt s.data.toList)
def denS (s : ByteArray) : ByteArray := if cutAt s.data.toList < s.size then s.extract (cutAt s.data.toList + 1) s.size else ⟨#[49]⟩
def isR (s : ByteArray) : Bool :=
 if cutAt s.data.toList < s.size then intOk (numS s) && !((restS (numS s)).toList == [48]) && !badB (denS s).data.toList && !((denS s).toList == [48]) && !((denS s).toList == [49])
 else intOk (numS s)
def rchk (s : ByteArray) : Nat :=
 if isR s then (if 4000 < (restS (numS s)).size ∨ 4000 < (denS s).size then 5 else if Nat.gcd (dv (restS (numS s)).data.toList) (dv (denS s).data.toList) = 1 then 0 else 3) else 3
def RRet (s : ByteArray) (e : Ending) : Prop := ∃ m a1 L1 k1 a2 L2 k2, e = .returned (.tuple #[.agg #[.bool m, .slice a1 L1 k1, .slice a2 L2 k2], .int .i64 ((rchk s : Nat) : Int)])
set_option maxHeartbeats 3200000 in
set_option maxRecDepth 100000 in
theorem rread_main (s : ByteArray) (w : World) (hs : s.size ≤ 140737488351232) (ha : intOk (numS s) = true) :
  Calls Tryz.prog 22 #[.string s] w fun e w' => RRet s e ∧ Below w.heap.size w w' := by
 have HSL := Lib.hid (fun W => slash_any s W hs)
 obtain ⟨K, hK⟩ : ∃ K, K = cutAt s.data.toList := ⟨_, rfl⟩
 have hKs : K ≤ s.size := by rw [hK, Go.Lib.size_eq]; exact cutAt_le _
 obtain ⟨n0, hn0⟩ : ∃ n0, n0 = s.extract 0 K := ⟨_, rfl⟩
 have hsz : n0.size ≤ 140737488351232 := by rw [hn0, ByteArray.size_extract]; omega
 have HI := Lib.hid (fun W => integer_any n0 W hsz)
 have HN0 := Lib.hid hn0
 have HNS := Lib.hid (show numS s = n0 by rw [numS, ← hK, hn0])
 have HK := Lib.hid hK
 rw [← hK] at HSL
 rw [HNS.out] at ha
 rw [ha] at HI
 have HAT := Lib.hid ha
 clear hK hn0 hsz ha
 go_enter Tryz.func22, Tryz.ntmps22
 go_wp2_with fail
 have hb0 : Below w.heap.size w (w.alloc (.cells #[.bool false, .slice none 0 0, .slice none 0 0] 61)) := (Below.refl _ _).alloc (Nat.le_refl _) _
 have hq0 : QR (w.alloc (.cells #[.bool false, .slice none 0 0, .slice none 0 0] 61)) w.heap.size false (.slice none 0 0) (.slice none 0 0) := heap_alloc_new w _
 have HB0 := Lib.hid hb0
 have HQ0 := Lib.hid hq0
 generalize w.alloc (.cells #[.bool false, .slice none 0 0, .slice none 0 0] 61) = w0 at HB0 HQ0 ⊢
 clear hb0 hq0
 refine (HSL.out _).mono ?_
 rintro e w1 ⟨rfl, rfl⟩
 go_wp2_with fail
 rw [← HN0.out]
 refine (HI.out _).mono ?_
 rintro e w1 ⟨rfl, rfl⟩
 go_upto_if 25 with fail
 go_cut [8, 9] from 25 to 46 (fun s8 s9 wx => s8 = .bool (isR s) ∧ s9 = .string (denS s) ∧ wx = w0)
 case first =>
  by_cases hlt : K < s.size
  ·obtain ⟨D, hD⟩ : ∃ D, D = s.extract (K + 1) s.size := ⟨_, rfl⟩
   have hden : denS s = D := by rw [denS, if_pos (by rw [← HK.out]; exact hlt), ← HK.out, hD]
   have HIS := Lib.hid (show isR s = (intOk n0 && !((restS n0).toList == [48]) && !badB D.data.toList && !(D.toList == [48]) && !(D.toList == [49])) by
    rw [isR, if_pos (by rw [← HK.out]; exact hlt), HNS.out, hden])
   have HDEN := Lib.hid hden
   have hDs : D.size ≤ 140737488351232 := by rw [hD, ByteArray.size_extract]; omega
   have HDG := Lib.hid (fun W => digits2_any D W hDs)
   have HDE := Lib.hid hD
   clear hD hden hDs
   cases hb : (restS n0).toList == [48] with
   | true =>
    go_wp2_with fail
    go_meet
    exact ⟨congrArg Value.bool (by rw [HIS.out, HAT.out, hb]; rfl), by rw [HDEN.out, HDE.out], rfl⟩
   | false =>
    go_wp2_with fail
    rw [← HDE.out]
    refine (HDG.out _).mono ?_
    rintro e w1 ⟨rfl, rfl⟩
    cases hc : badB D.data.toList with
    | true =>
     go_wp2_with fail
     go_meet
     exact ⟨congrArg Value.bool (by rw [HIS.out, HAT.out, hb, hc]; rfl), by rw [HDEN.out], rfl⟩
    | false =>
     cases hd : D.toList == [48] with
     | true =>
      go_wp2_with fail
      go_meet
      exact ⟨congrArg Value.bool (by rw [HIS.out, HAT.out, hb, hc, hd]; rfl), by rw [HDEN.out], rfl⟩
     | false =>
      go_wp2_with fail
      go_meet
      exact ⟨congrArg Value.bool (by rw [HIS.out, HAT.out, hb, hc, hd]; rfl), by rw [HDEN.out], rfl⟩
  ·have HIS := Lib.hid (show isR s = intOk n0 by rw [isR, if_neg (by rw [← HK.out]; exact hlt), HNS.out])
   have HDEN := Lib.hid (show denS s = ⟨#[49]⟩ by rw [denS, if_neg (by rw [← HK.out]; exact hlt)])
   go_wp2_with fail
   go_meet
   exact ⟨congrArg Value.bool (by rw [HIS.out, HAT.out]), by rw [HDEN.out], rfl⟩
 case rest =>
  obtain ⟨rfl, rfl, rfl⟩ := hcut
  have hgl : w.heap.size < wc.heap.size := (Array.getElem?_eq_some_iff.1 HQ0.out).1
  clear HSL HI
  have f0 : wc.frozen? ⟨w.heap.size, 0, none⟩ = false := Lib.frozen_of_heap HQ0.out 0
  have f1 : wc.frozen? ⟨w.heap.size, 1, none⟩ = false := Lib.frozen_of_heap HQ0.out 1
  have f2 : wc.frozen? ⟨w.heap.size, 2, none⟩ = false := Lib.frozen_of_heap HQ0.out 2
  have c0 : wc.cell? ⟨w.heap.size, 0, none⟩ = some (.bool false) := by rw [Lib.cell_of_heap HQ0.out]; rfl
  have c1 : wc.cell? ⟨w.heap.size, 1, none⟩ = some (.slice none 0 0) := by rw [Lib.cell_of_heap HQ0.out]; rfl
  have c2 : wc.cell? ⟨w.heap.size, 2, none⟩ = some (.slice none 0 0) := by rw [Lib.cell_of_heap HQ0.out]; rfl
  cases hIS : isR s with
  | false =>
   have HR := Lib.hid (show rchk s = 3 by rw [rchk, hIS]; rfl)
   have HRI := Lib.hid (show ((rchk s : Nat) : Int) = 3 by rw [HR.out]; rfl)
   go_wp2_with fail
   refine bodyPost_ret ((HQ0.out.st false (.slice none 0 0) (.slice none 0 0)).result rfl rfl) rfl ⟨⟨_, _, _, _, _, _, _, by rw [HRI.out]; rfl⟩, below_st3 HB0.out (Nat.le_refl _) false (.slice none 0 0) (.slice none 0 0)⟩
  | true =>
   obtain ⟨D, hD⟩ : ∃ D, D = denS s := ⟨_, rfl⟩
   obtain ⟨M, hM⟩ : ∃ M, M = restS n0 := ⟨_, rfl⟩
   have HRC := Lib.hid (show rchk s = (if 4000 < M.size ∨ 4000 < D.size then 5 else if Nat.gcd (dv M.data.toList) (dv D.data.toList) = 1 then 0 else 3) by
    rw [rchk, hIS, HNS.out, ← hM, ← hD]; rfl)
   rw [← hD]
   by_cases hov : 4000 < M.size ∨ 4000 < D.size
   ·have HRI := Lib.hid (show ((rchk s : Nat) : Int) = 5 by rw [HRC.out, if_pos hov]; rfl)
    rw [← hM]
    clear hIS hD hM
    by_cases h1 : 4000 < M.size
    ·have h1' : (4000 : Int) < (M.size : Int) := by omega
     go_wp2_with fail
     refine bodyPost_ret ((HQ0.out.st false (.slice none 0 0) (.slice none 0 0)).result rfl rfl) rfl ⟨⟨_, _, _, _, _, _, _, by rw [HRI.out]; rfl⟩, below_st3 HB0.out (Nat.le_refl _) false (.slice none 0 0) (.slice none 0 0)⟩
    ·have h1' : ¬ (4000 : Int) < (M.size : Int) := by omega
     have h2' : (4000 : Int) < (D.size : Int) := by omega
     go_wp2_with fail
     refine bodyPost_ret ((HQ0.out.st false (.slice none 0 0) (.slice none 0 0)).result rfl rfl) rfl ⟨⟨_, _, _, _, _, _, _, by rw [HRI.out]; rfl⟩, below_st3 HB0.out (Nat.le_refl _) false (.slice none 0 0) (.slice none 0 0)⟩
   ·have h1' : ¬ (4000 : Int) < (M.size : Int) := by omega
    have h2' : ¬ (4000 : Int) < (D.size : Int) := by omega
    have hMD : Digs M.data.toList ∧ 0 < M.size ∧ Digs D.data.toList ∧ 0 < D.size := by
     have hm : badB M.data.toList = false := by
      have := HAT.out
      rw [intOk, ← hM] at this
      cases hb : badB M.data.toList with
      | false => rfl
      | true => rw [hb] at this; simp at this
     have hd : badB D.data.toList = false := by
      rw [isR] at hIS
      split at hIS
      ·cases hb : badB D.data.toList with
       | false => rfl
       | true => rw [← hD, hb] at hIS; simp at hIS
      ·rename_i hlt
       rw [hD, denS, if_neg hlt]; rfl
     obtain ⟨m1, m2, _⟩ := good_parts hm
     obtain ⟨d1, d2, _⟩ := good_parts hd
     exact ⟨m2, by rw [Go.Lib.size_eq]; exact List.length_pos_iff.2 m1, d2, by rw [Go.Lib.size_eq]; exact List.length_pos_iff.2 d1⟩
    have hlm : ln (dv M.data.toList) ≤ 445 := digs_ln hMD.1 (by rw [← Go.Lib.size_eq]; omega)
    have hld : ln (dv D.data.toList) ≤ 445 := digs_ln hMD.2.2.1 (by rw [← Go.Lib.size_eq]; omega)
    have HRM := Lib.hid (fun W => iread_any M W hMD.2.1 (by omega) hMD.1)
    have HRD := Lib.hid (fun W => iread_any D W hMD.2.2.2 (by omega) hMD.2.2.1)
    rw [if_neg hov] at HRC
    rw [← hM]
    clear hIS hD hM hMD hov
    generalize dv M.data.toList = nm at HRC HRM hlm
    generalize dv D.data.toList = nd at HRC HRD hld
    go_wp2_with fail
    refine (HRM.out _).mono ?_
    rintro e w2 ⟨v1, rfl, hv1, hb2⟩
    obtain ⟨a1, k1, rfl⟩ := islice_any hv1
    have HV1 := Lib.hid hv1
    have HB2 := Lib.hid hb2
    clear hv1 hb2
    go_wp2_with fail
    refine (HRD.out _).mono ?_
    rintro e w3 ⟨v2, rfl, hv2, hb3⟩
    obtain ⟨a2, k2, rfl⟩ := islice_any hv2
    have HV2 := Lib.hid hv2
    have HB3 := Lib.hid hb3
    clear hv2 hb3
    go_wp2_with fail
    have hq4 : QR (w3.alloc (.cells #[.bool (minusB n0), .slice a1 (ln nm) k1, .slice a2 (ln nd) k2] 61)) w3.heap.size (minusB n0) (.slice a1 (ln nm) k1) (.slice a2 (ln nd) k2) := heap_alloc_new w3 _
    have hb34 : Below w3.heap.size w3 (w3.alloc (.cells #[.bool (minusB n0), .slice a1 (ln nm) k1, .slice a2 (ln nd) k2] 61)) := (Below.refl _ _).alloc (Nat.le_refl _) _
    have hv1 := (HV1.out.below HB3.out).below hb34
    have hv2 := HV2.out.below hb34
    have hbc4 := (HB2.out.trans (HB3.out.mono HB2.out.size)).trans (hb34.mono (Nat.le_trans HB2.out.size HB3.out.size))
    have hg3 : wc.heap.size ≤ w3.heap.size := Nat.le_trans HB2.out.size HB3.out.size
    have HCM := Lib.hid (icommon_any hv1 hv2 (by omega) (by omega))
    have HQ4 := Lib.hid hq4
    have HBC4 := Lib.hid hbc4
    generalize hw4 : w3.alloc (.cells #[.bool (minusB n0), .slice a1 (ln nm) k1, .slice a2 (ln nd) k2] 61) = w4 at HCM HQ4 HBC4 ⊢
    have hsz4 : w3.heap.size < w4.heap.size := by rw [← hw4]; simp
    clear hq4 hb34 hv1 hv2 hbc4 hw4 HV1 HV2 HB2 HB3 HRM HRD
    refine HCM.out.mono ?_
    rintro e w5 ⟨v, rfl, hv, hb5⟩
    have HV := Lib.hid hv
    have HB5 := Lib.hid hb5
    clear hv hb5 HCM
    go_wp2_with fail
    refine (rone_any w5).mono ?_
    rintro e w6 ⟨o, rfl, ho, hb6⟩
    have hg1 := gcd_ln hlm hld
    have HO := Lib.hid (iorder_any (HV.out.below hb6) ho (by omega) (by rw [ln_one]; omega))
    have HB6 := Lib.hid hb6
    clear ho hb6
    go_wp2_with fail
    refine HO.out.mono ?_
    rintro e w7 ⟨rfl, hb7⟩
    have hbc7 := HBC4.out.trans (((HB5.out.trans (HB6.out.mono HB5.out.size)).trans (hb7.mono (Nat.le_trans HB5.out.size HB6.out.size))).mono HBC4.out.size)
    have hb47 := (HB5.out.trans (HB6.out.mono HB5.out.size)).trans (hb7.mono (Nat.le_trans HB5.out.size HB6.out.size))
    have HQ7 := Lib.hid (show QR w7 w.heap.size false (.slice none 0 0) (.slice none 0 0) from (hbc7.block _ hgl).trans HQ0.out)
    have HQ8 := Lib.hid (show QR w7 w3.heap.size (minusB n0) (.slice a1 (ln nm) k1) (.slice a2 (ln nd) k2) from (hb47.block _ hsz4).trans HQ4.out)
    have HBW := Lib.hid (HB0.out.trans (hbc7.mono (Nat.le_of_lt hgl)))
    clear f0 f1 f2 c0 c1 c2 hb7 hbc7 hb47 HV HO HB5 HB6 HBC4 HQ4
    have f0 : w7.frozen? ⟨w.heap.size, 0, none⟩ = false := Lib.frozen_of_heap HQ7.out 0
    have f1 : w7.frozen? ⟨w.heap.size, 1, none⟩ = false := Lib.frozen_of_heap HQ7.out 1
    have f2 : w7.frozen? ⟨w.heap.size, 2, none⟩ = false := Lib.frozen_of_heap HQ7.out 2
    have c0 : w7.cell? ⟨w.heap.size, 0, none⟩ = some (.bool false) := by rw [Lib.cell_of_heap HQ7.out]; rfl
    have c1 : w7.cell? ⟨w.heap.size, 1, none⟩ = some (.slice none 0 0) := by rw [Lib.cell_of_heap HQ7.out]; rfl
    have c2 : w7.cell? ⟨w.heap.size, 2, none⟩ = some (.slice none 0 0) := by rw [Lib.cell_of_heap HQ7.out]; rfl
    by_cases hg : Nat.gcd nm nd = 1
    ·have HRI := Lib.hid (show ((rchk s : Nat) : Int) = 0 by rw [HRC.out, if_pos hg]; rfl)
     rw [hg, cmpN_eq]
     have d0 : w7.cell? ⟨w3.heap.size, 0, none⟩ = some (.bool (minusB n0)) := by rw [Lib.cell_of_heap HQ8.out]; rfl
     have d1 : w7.cell? ⟨w3.heap.size, 1, none⟩ = some (.slice a1 (ln nm) k1) := by rw [Lib.cell_of_heap HQ8.out]; rfl
     have d2 : w7.cell? ⟨w3.heap.size, 2, none⟩ = some (.slice a2 (ln nd) k2) := by rw [Lib.cell_of_heap HQ8.out]; rfl
     go_wp2_with fail
     refine bodyPost_ret ((HQ7.out.st (minusB n0) (.slice a1 (ln nm) k1) (.slice a2 (ln nd) k2)).result rfl rfl) rfl ⟨⟨_, _, _, _, _, _, _, by rw [HRI.out]; rfl⟩, below_st3 HBW.out (Nat.le_refl _) (minusB n0) (.slice a1 (ln nm) k1) (.slice a2 (ln nd) k2)⟩
    ·have HRI := Lib.hid (show ((rchk s : Nat) : Int) = 3 by rw [HRC.out, if_neg hg]; rfl)
     have hne : (cmpN (Nat.gcd nm nd) 1 != 0) = true := by
      rw [bne_iff_ne]; unfold cmpN; split
      ·omega
      ·split <;> omega
     go_wp2_with fail
     refine bodyPost_ret ((HQ7.out.st false (.slice none 0 0) (.slice none 0 0)).result rfl rfl) rfl ⟨⟨_, _, _, _, _, _, _, by rw [HRI.out]; rfl⟩, below_st3 HBW.out (Nat.le_refl _) false (.slice none 0 0) (.slice none 0 0)⟩
set_option maxHeartbeats 1600000 in
set_option maxRecDepth 100000 in
theorem rread_bad (s : ByteArray) (w : World) (hs : s.size ≤ 140737488351232) (ha : intOk (numS s) = false) :
  Calls Tryz.prog 22 #[.string s] w fun e w' => RRet s e ∧ Below w.heap.size w w' := by
 have HSL := Lib.hid (fun W => slash_any s W hs)
 have HIS := Lib.hid (show ((rchk s : Nat) : Int) = 3 by
  have : isR s = false := by rw [isR, ha]; split <;> rfl
  rw [rchk, this]; rfl)
 obtain ⟨K, hK⟩ : ∃ K, K = cutAt s.data.toList := ⟨_, rfl⟩
 have hKs : K ≤ s.size := by rw [hK, Go.Lib.size_eq]; exact cutAt_le _
 obtain ⟨n0, hn0⟩ : ∃ n0, n0 = s.extract 0 K := ⟨_, rfl⟩
 have hsz : n0.size ≤ 140737488351232 := by rw [hn0, ByteArray.size_extract]; omega
 have HI := Lib.hid (fun W => integer_any n0 W hsz)
 have HN0 := Lib.hid hn0
 have hns : numS s = n0 := by rw [numS, ← hK, hn0]
 rw [hns] at ha
 rw [ha] at HI
 rw [← hK] at HSL
 clear hK hn0 hsz ha hns
 go_enter Tryz.func22, Tryz.ntmps22
 go_wp2_with fail
 have hb0 : Below w.heap.size w (w.alloc (.cells #[.bool false, .slice none 0 0, .slice none 0 0] 61)) := (Below.refl _ _).alloc (Nat.le_refl _) _
 have hq0 : QR (w.alloc (.cells #[.bool false, .slice none 0 0, .slice none 0 0] 61)) w.heap.size false (.slice none 0 0) (.slice none 0 0) := heap_alloc_new w _
 have HB0 := Lib.hid hb0
 have HQ0 := Lib.hid hq0
 generalize w.alloc (.cells #[.bool false, .slice none 0 0, .slice none 0 0] 61) = w0 at HB0 HQ0 ⊢
 clear hb0 hq0
 refine (HSL.out _).mono ?_
 rintro e w1 ⟨rfl, rfl⟩
 go_wp2_with fail
 rw [← HN0.out]
 refine (HI.out _).mono ?_
 rintro e w1 ⟨rfl, rfl⟩
 have f0 : w0.frozen? ⟨w.heap.size, 0, none⟩ = false := Lib.frozen_of_heap HQ0.out 0
 have f1 : w0.frozen? ⟨w.heap.size, 1, none⟩ = false := Lib.frozen_of_heap HQ0.out 1
 have f2 : w0.frozen? ⟨w.heap.size, 2, none⟩ = false := Lib.frozen_of_heap HQ0.out 2
 have c0 : w0.cell? ⟨w.heap.size, 0, none⟩ = some (.bool false) := by rw [Lib.cell_of_heap HQ0.out]; rfl
 have c1 : w0.cell? ⟨w.heap.size, 1, none⟩ = some (.slice none 0 0) := by rw [Lib.cell_of_heap HQ0.out]; rfl
 have c2 : w0.cell? ⟨w.heap.size, 2, none⟩ = some (.slice none 0 0) := by rw [Lib.cell_of_heap HQ0.out]; rfl
 by_cases hlt : K < s.size
 ·go_wp2_with fail
  refine bodyPost_ret ((HQ0.out.st false (.slice none 0 0) (.slice none 0 0)).result rfl rfl) rfl ⟨⟨_, _, _, _, _, _, _, by rw [HIS.out]; rfl⟩, below_st3 HB0.out (Nat.le_refl _) false (.slice none 0 0) (.slice none 0 0)⟩
 ·go_wp2_with fail
  refine bodyPost_ret ((HQ0.out.st false (.slice none 0 0) (.slice none 0 0)).result rfl rfl) rfl ⟨⟨_, _, _, _, _, _, _, by rw [HIS.out]; rfl⟩, below_st3 HB0.out (Nat.le_refl _) false (.slice none 0 0) (.slice none 0 0)⟩
theorem rread_any (s : ByteArray) (w : World) (hs : s.size ≤ 140737488351232) :
  Calls Tryz.prog 22 #[.string s] w fun e w' => RRet s e ∧ Below w.heap.size w w' := by
 cases ha : intOk (numS s) with
 | true => exact rread_main s w hs ha
 | false => exact rread_bad s w hs ha
end Go.Proofs.YtjpepjooefkbkaaGreatDoor
