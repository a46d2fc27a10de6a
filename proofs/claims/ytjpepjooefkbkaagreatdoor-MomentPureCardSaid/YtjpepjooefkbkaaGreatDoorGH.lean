/-
  Package rat's checkInteger and parse. Package rat's cut. Package rat's checkParts. Package rat's read: the error is the one that the reference tells. Package rat's read.
-/
import Derived.Test.YtjpepjooefkbkaaGreatDoorGC
import Derived.Test.YtjpepjooefkbkaaGreatDoorShelf
import Derived.Test.YtjpepjooefkbkaaGreatDoorGG
import Derived.Deep.WholeRow
import Derived.Lib.RabinKarpLaws
import Derived.Lib.IndexMore
import Derived.Deep.Cut
import Derived.Deep.CutRange
import Derived.Test.YtjpepjooefkbkaaGreatDoorGE
namespace Go.Proofs.YtjpepjooefkbkaaGreatDoor
open Go.RowKit NV
open Go.Lib (decDigits)
def chkI (s : ByteArray) : Nat := if s.toList == [45, 48] then 3 else chk (Lib.trimPrefix s.data.toList [45])
theorem trim_size (s : ByteArray) : (⟨(Lib.trimPrefix s.data.toList [45]).toArray⟩ : ByteArray).size ≤ s.size := by
 rw [Go.Lib.size_eq, Go.Lib.size_eq]
 unfold Lib.trimPrefix
 split
 ·simp
 ·simp
set_option maxHeartbeats 800000 in
theorem checkInteger_any (s : ByteArray) (w : World) (hs : s.size ≤ 140737488351232) :
  Calls Tryz.prog 144 #[.string s] w fun e w' => e = .returned (.int .i64 ((chkI s : Nat) : Int)) ∧ w = w' := by
 have HT := Lib.hid (Tryz.strings_TrimPrefix s ⟨#[45]⟩ w)
 have HC := Lib.hid (check_any ⟨(Lib.trimPrefix s.data.toList [45]).toArray⟩ w (Nat.le_trans (trim_size s) hs))
 cases h : s.toList == [45, 48] with
 | true =>
  have HR := Lib.hid (show ((chkI s : Nat) : Int) = 3 by rw [chkI, h]; rfl)
  go_enter Tryz.func144, Tryz.ntmps144
  go_wp2_with fail
  go_ret
  exact ⟨by rw [HR.out]; rfl, rfl⟩
 | false =>
  have HR := Lib.hid (show chkI s = chk (Lib.trimPrefix s.data.toList [45]) by rw [chkI, h]; rfl)
  go_enter Tryz.func144, Tryz.ntmps144
  go_wp2_with fail
  refine HT.out.mono ?_
  rintro e w1 ⟨rfl, rfl⟩
  go_wp2_with fail
  refine HC.out.mono ?_
  rintro e w1 ⟨rfl, rfl⟩
  go_wp2_with fail
  go_ret
  exact ⟨by rw [HR.out]; rfl, rfl⟩
def FR (w : World) (b : Nat) (m : Bool) (n d : Value) : Prop := w.heap[b]? = some (.cells #[.bool m, n, d] 110 (0, 0))
theorem info_F : (Tryz.prog.info? 110).map (·.size) = some 3 := by kernel_rfl
theorem FR.load {w : World} {b : Nat} {m : Bool} {n d : Value} (h : FR w b m n d) : (loadVar 110 ⟨b, 0, none⟩).run Tryz.prog w = .ok (.agg #[.bool m, n, d]) w :=
 run_loadVar_row _ _ 110 110 _ (0, 0) _ h Tryz.underlying110 rfl info_F
theorem FR.result {w : World} {b : Nat} {m : Bool} {n d : Value} {tmps : Array Value} (h : FR w b m n d) (ht : tmps.getD 4 undef = .pointer (some ⟨b, 0, none⟩)) : (results Tryz.f117 tmps).run Tryz.prog w = .ok (.agg #[.bool m, n, d]) w := by
 have hl := h.load
 have ht' : tmps[4]?.getD undef = .pointer (some ⟨b, 0, none⟩) := by rw [← ht]; simp
 simp [results, ht', asAddr, hl]
theorem FR.st {w : World} {b : Nat} {m : Bool} {n d : Value} (h : FR w b m n d) (m' : Bool) (n' d' : Value) : FR (st3 w b m' n' d') b m' n' d' :=
 heap_setCell_same _ b 2 _ _ _ (heap_setCell_same _ b 1 _ _ _ (heap_setCell_same w b 0 _ _ _ h))
def FNum (w : World) (v : Value) (m : Bool) (n d : Nat) : Prop := ∃ x y, v = .agg #[.bool m, x, y] ∧ Num w x n ∧ Num w y d
theorem FNum.below {w w' : World} {v : Value} {m : Bool} {n d : Nat} (h : FNum w v m n d) (hb : Below w.heap.size w w') : FNum w' v m n d := by
 obtain ⟨x, y, rfl, h1, h2⟩ := h
 exact ⟨x, y, rfl, h1.below hb, h2.below hb⟩
theorem Num.st3 {w : World} {v : Value} {n g : Nat} {m : Bool} (h : Num w v n) (hg : w.cell? ⟨g, 0, none⟩ = some (.bool m)) (m' : Bool) (x y : Value) : Num (st3 w g m' x y) v n := by
 obtain ⟨a, c, rfl, h | ⟨b, rfl, h1, h2, h3⟩⟩ := h
 ·exact ⟨a, c, rfl, .inl h⟩
 ·by_cases h0 : 0 < ln n
  ·have hne : b ≠ g := by
    intro e
    have := h3 0 h0
    rw [e, hg] at this
    simp at this
   have hh : (Go.Proofs.YtjpepjooefkbkaaGreatDoor.st3 w g m' x y).heap[b]? = w.heap[b]? :=
    (heap_setCell_other _ ⟨g, 2, none⟩ b _ hne).trans ((heap_setCell_other _ ⟨g, 1, none⟩ b _ hne).trans (heap_setCell_other w ⟨g, 0, none⟩ b _ hne))
   refine ⟨_, c, rfl, .inr ⟨b, rfl, by simpa [Go.Proofs.YtjpepjooefkbkaaGreatDoor.st3] using h1, h2, fun i hi => ?_⟩⟩
   have := h3 i hi
   simp only [World.cell?] at this ⊢
   rw [hh]
   exact this
  ·refine ⟨_, c, rfl, .inr ⟨b, rfl, by simpa [Go.Proofs.YtjpepjooefkbkaaGreatDoor.st3] using h1, h2, fun i hi => by omega⟩⟩
set_option maxHeartbeats 1600000 in
set_option maxRecDepth 100000 in
theorem rparse_any (s t : ByteArray) (w : World) (hs : s.size ≤ 1000000) (ht : t.size ≤ 1000000) (hd : Digs (Lib.trimPrefix s.data.toList [45])) (he : Digs t.data.toList) :
  Calls Tryz.prog 117 #[.string s, .string t] w fun e w' => ∃ v, e = .returned v ∧ FNum w' v (Lib.hasPrefix s.data.toList [45]) (dv (Lib.trimPrefix s.data.toList [45])) (dv t.data.toList) ∧ Below w.heap.size w w' := by
 have HT := Lib.hid (fun W => Tryz.strings_CutPrefix s ⟨#[45]⟩ W)
 have H1 := Lib.hid (fun W => eparse_any ⟨(Lib.trimPrefix s.data.toList [45]).toArray⟩ W (Nat.le_trans (trim_size s) hs) hd)
 have H2 := Lib.hid (fun W => eparse_any t W ht he)
 clear hd he
 go_enter Tryz.func117, Tryz.ntmps117
 go_wp2_with fail
 have hb0 : Below w.heap.size w (w.alloc (.cells #[.bool false, .slice none 0 0, .slice none 0 0] 110)) := (Below.refl _ _).alloc (Nat.le_refl _) _
 have hq0 : FR (w.alloc (.cells #[.bool false, .slice none 0 0, .slice none 0 0] 110)) w.heap.size false (.slice none 0 0) (.slice none 0 0) := heap_alloc_new w _
 have HB0 := Lib.hid hb0
 have HQ0 := Lib.hid hq0
 generalize w.alloc (.cells #[.bool false, .slice none 0 0, .slice none 0 0] 110) = w0 at HB0 HQ0 ⊢
 clear hb0 hq0
 refine (HT.out _).mono ?_
 rintro e w1 ⟨rfl, rfl⟩
 go_wp2_with fail
 refine (H1.out _).mono ?_
 rintro e w2 ⟨v1, rfl, hv1, hb2⟩
 obtain ⟨g1, c1, rfl⟩ := hv1.1
 have HV1 := Lib.hid hv1.num
 have HB2 := Lib.hid hb2
 clear hv1 hb2
 go_wp2_with fail
 refine (H2.out _).mono ?_
 rintro e w3 ⟨v2, rfl, hv2, hb3⟩
 obtain ⟨g2, c2, rfl⟩ := hv2.1
 have hb13 := HB2.out.trans (hb3.mono HB2.out.size)
 have hlt : w.heap.size < w1.heap.size := (Array.getElem?_eq_some_iff.1 HQ0.out).1
 have HF3 := Lib.hid (show FR w3 w.heap.size false (.slice none 0 0) (.slice none 0 0) from (hb13.block _ hlt).trans HQ0.out)
 have c0 : w3.cell? ⟨w.heap.size, 0, none⟩ = some (.bool false) := by rw [Lib.cell_of_heap HF3.out]; rfl
 have c1' : w3.cell? ⟨w.heap.size, 1, none⟩ = some (.slice none 0 0) := by rw [Lib.cell_of_heap HF3.out]; rfl
 have c2' : w3.cell? ⟨w.heap.size, 2, none⟩ = some (.slice none 0 0) := by rw [Lib.cell_of_heap HF3.out]; rfl
 have f0 : w3.frozen? ⟨w.heap.size, 0, none⟩ = false := Lib.frozen_of_heap HF3.out 0
 have f1 : w3.frozen? ⟨w.heap.size, 1, none⟩ = false := Lib.frozen_of_heap HF3.out 1
 have f2 : w3.frozen? ⟨w.heap.size, 2, none⟩ = false := Lib.frozen_of_heap HF3.out 2
 have HBW := Lib.hid (HB0.out.trans (hb13.mono (Nat.le_of_lt hlt)))
 have HN1 := Lib.hid ((HV1.out.below hb3).st3 c0 (Lib.hasPrefix s.data.toList [45]) (.slice (some ⟨g1, 0, none⟩) (ln (dv (Lib.trimPrefix s.data.toList [45]))) c1) (.slice (some ⟨g2, 0, none⟩) (ln (dv t.data.toList)) c2))
 have HN2 := Lib.hid (hv2.num.st3 c0 (Lib.hasPrefix s.data.toList [45]) (.slice (some ⟨g1, 0, none⟩) (ln (dv (Lib.trimPrefix s.data.toList [45]))) c1) (.slice (some ⟨g2, 0, none⟩) (ln (dv t.data.toList)) c2))
 clear hb3 hv2 hb13 HV1 HB2 H1 H2 HT
 go_wp2_with fail
 refine bodyPost_ret ((HF3.out.st (Lib.hasPrefix s.data.toList [45]) (.slice (some ⟨g1, 0, none⟩) (ln (dv (Lib.trimPrefix s.data.toList [45]))) c1) (.slice (some ⟨g2, 0, none⟩) (ln (dv t.data.toList)) c2)).result rfl) rfl ⟨_, rfl, ⟨_, _, rfl, HN1.out, HN2.out⟩, below_st3 HBW.out (Nat.le_refl _) _ _ _⟩
open Go.RowKit NV
open Go.Lib (decDigits)
theorem index_slash : ∀ l : List UInt8, Lib.index l [47] = if cutAt l < l.length then ((cutAt l : Nat) : Int) else -1
 | [] => by simp [Lib.index, cutAt]
 | b :: l => by
  have ih := index_slash l
  have hc : cutAt (b :: l) = if b.toNat == 47 then 0 else cutAt l + 1 := by
   rw [cutAt, List.findIdx_cons]
   cases b.toNat == 47 <;> rfl
  have hp : ([47] : List UInt8).isPrefixOf (b :: l) = (b.toNat == 47) := by
   have h1 : ([47] : List UInt8).isPrefixOf (b :: l) = ((47 : UInt8) == b && ([] : List UInt8).isPrefixOf l) := rfl
   have h2 : ([] : List UInt8).isPrefixOf l = true := by cases l <;> rfl
   rw [h1, h2, Bool.and_true]
   by_cases e : b = 47
   ·subst e; rfl
   ·have : (b.toNat == 47) = false := by rw [beq_eq_false_iff_ne]; exact fun h => e (UInt8.toNat_inj.1 h)
    rw [this, beq_eq_false_iff_ne]; exact fun h => e h.symm
  rw [Lib.index, hp, hc]
  cases b.toNat == 47
  ·simp only [Bool.false_eq_true, if_false, List.length_cons]
   by_cases h : cutAt l < l.length
   ·have e : Lib.index l [47] = ((cutAt l : Nat) : Int) := by rw [ih, if_pos h]
    have e2 : (((cutAt l : Nat) : Int) == -1) = false := by rw [beq_eq_false_iff_ne]; omega
    rw [e, e2, if_pos (show cutAt l + 1 < l.length + 1 by omega)]
    simp
   ·have e : Lib.index l [47] = -1 := by rw [ih, if_neg h]
    rw [e, if_pos (show ((-1 : Int) == -1) = true from rfl), if_neg (show ¬ cutAt l + 1 < l.length + 1 by omega)]
  ·simp
theorem cut_parts (s : ByteArray) : (⟨(Lib.cut s.data.toList [47]).1.toArray⟩ : ByteArray) = numS s ∧
  (Lib.cut s.data.toList [47]).2.2 = decide (cutAt s.data.toList < s.size) ∧
  (cutAt s.data.toList < s.size → (⟨(Lib.cut s.data.toList [47]).2.1.toArray⟩ : ByteArray) = denS s) := by
 have hs := Go.Lib.size_eq s
 have hle := cutAt_le s.data.toList
 unfold Lib.cut
 rw [index_slash]
 by_cases h : cutAt s.data.toList < s.data.toList.length
 ·rw [if_pos h, if_pos (by omega)]
  refine ⟨?_, by simp; omega, fun h2 => ?_⟩
  ·apply ByteArray.ext
   apply Array.toList_inj.1
   rw [numS, Go.Lib.extract_data]
   simp
  ·rw [denS, if_pos h2]
   apply ByteArray.ext
   apply Array.toList_inj.1
   rw [Go.Lib.extract_data]
   simp
   exact (List.take_of_length_le (by rw [List.length_drop, hs]; exact Nat.le_refl _)).symm
 ·rw [if_neg h, if_neg (by omega)]
  refine ⟨?_, by simp; omega, fun h2 => by omega⟩
  apply ByteArray.ext
  apply Array.toList_inj.1
  rw [numS, Go.Lib.extract_data, show cutAt s.data.toList = s.data.toList.length by omega]
  simp only [List.drop_zero, Nat.sub_zero]
  rw [List.take_of_length_le (Nat.le_refl _)]
def ML (w : World) : Prop := ∃ m, w.cell? ⟨0, 0, none⟩ = some (.int .i64 m)
theorem ml_lt {w : World} (hm : ML w) : 0 < w.heap.size := by
 obtain ⟨m, hm⟩ := hm
 by_cases h : 0 < w.heap.size
 ·exact h
 ·have : w.heap[0]? = none := Array.getElem?_eq_none (by omega)
  simp [World.cell?, this] at hm
set_option maxHeartbeats 800000 in
theorem cut_any (s : ByteArray) (w : World) (hs : s.size < 4294967281) (hm : ML w) :
  Calls Tryz.prog 115 #[.string s] w fun e w' => e = .returned (.tuple #[.string (numS s), .string (denS s), .bool (decide (cutAt s.data.toList < s.size))]) ∧ ∃ n, w' = w.drewN n := by
 obtain ⟨m, hm⟩ := hm
 have H := Tryz.strings_Cut s ⟨#[47]⟩ m w hs hm
 obtain ⟨p1, p2, p3⟩ := cut_parts s
 have e47 : (⟨#[47]⟩ : ByteArray).data.toList = [47] := rfl
 rw [e47, p1, p2] at H
 by_cases h : cutAt s.data.toList < s.size
 ·rw [p3 h, decide_eq_true h] at H
  rw [decide_eq_true h]
  have HH := Lib.hid H
  clear H p1 p2 p3 e47 h hm
  go_enter Tryz.func115, Tryz.ntmps115
  go_wp2_with fail
  refine HH.out.mono ?_
  rintro e w1 ⟨rfl, n, rfl⟩
  go_wp2_with fail
  go_ret3
  exact ⟨rfl, n, rfl⟩
 ·have hden : denS s = ⟨#[49]⟩ := by rw [denS, if_neg h]
  rw [decide_eq_false h] at H
  rw [decide_eq_false h, hden]
  have HH := Lib.hid H
  clear H p1 p2 p3 e47 h hm hden
  go_enter Tryz.func115, Tryz.ntmps115
  go_wp2_with fail
  refine HH.out.mono ?_
  rintro e w1 ⟨rfl, n, rfl⟩
  go_wp2_with fail
  go_ret3
  exact ⟨rfl, n, rfl⟩
open Go.RowKit NV
def formB (n d : ByteArray) (c : Bool) : Bool := decide (chk d.data.toList = 3) || (c && ((n.toList == [48]) || (d.toList == [48]) || (d.toList == [49])))
def partsE (n d : ByteArray) (c : Bool) : Nat := if formB n d c then 3 else if chkI n = 0 then chk d.data.toList else chkI n
set_option maxHeartbeats 1600000 in
set_option maxRecDepth 100000 in
theorem checkParts_any (n d : ByteArray) (c : Bool) (w : World) (hn : n.size ≤ 140737488351232) (hd : d.size ≤ 140737488351232) :
  Calls Tryz.prog 116 #[.string n, .string d, .bool c] w fun e w' => e = .returned (.int .i64 ((partsE n d c : Nat) : Int)) ∧ w = w' := by
 have HI := Lib.hid (fun W => checkInteger_any n W hn)
 have HC := Lib.hid (fun W => check_any d W hd)
 have HE := Lib.hid (show ∀ F, F = formB n d c → partsE n d c = if F then 3 else if chkI n = 0 then chk d.data.toList else chkI n from fun F h => by rw [partsE, h])
 have HF := Lib.hid (show formB n d c = (decide (chk d.data.toList = 3) || (c && ((n.toList == [48]) || (d.toList == [48]) || (d.toList == [49])))) from rfl)
 generalize chk d.data.toList = Y at HC HE HF
 generalize chkI n = T at HI HE
 go_enter Tryz.func116, Tryz.ntmps116
 go_wp2_with fail
 refine (HI.out _).mono ?_
 rintro e w1 ⟨rfl, rfl⟩
 go_wp2_with fail
 refine (HC.out _).mono ?_
 rintro e w1 ⟨rfl, rfl⟩
 go_upto_region 2 with fail
 go_cut [13] from 14 to 30 (fun s13 wx => s13 = .bool (formB n d c) ∧ wx = w)
 case first =>
  by_cases hY : Y = 3
  ·have hb : (((Y : Nat) : Int) == 3) = true := by rw [beq_iff_eq]; omega
   go_wp2_with fail
   go_meet
   exact ⟨congrArg Value.bool (by rw [HF.out, decide_eq_true hY]; rfl), rfl⟩
  ·have hb : (((Y : Nat) : Int) == 3) = false := by rw [beq_eq_false_iff_ne]; omega
   have hY2 : decide (Y = 3) = false := decide_eq_false hY
   rw [hY2, Bool.false_or] at HF
   clear hY hY2
   cases c with
   | false =>
    go_wp2_with fail
    go_meet
    exact ⟨congrArg Value.bool (by rw [HF.out]; rfl), rfl⟩
   | true =>
    cases h1 : n.toList == [48] with
    | true =>
     go_wp2_with fail
     go_meet
     exact ⟨congrArg Value.bool (by rw [HF.out, h1]; rfl), rfl⟩
    | false =>
     cases h2 : d.toList == [48] with
     | true =>
      go_wp2_with fail
      go_meet
      exact ⟨congrArg Value.bool (by rw [HF.out, h1, h2]; rfl), rfl⟩
     | false =>
      go_wp2_with fail
      go_meet
      exact ⟨congrArg Value.bool (by rw [HF.out, h1, h2]; simp), rfl⟩
 case rest =>
  obtain ⟨rfl, rfl⟩ := hcut
  clear HF
  have HE2 := Lib.hid (HE.out _ rfl)
  clear HE
  cases hF : formB n d c with
  | true =>
   have HR := Lib.hid (show partsE n d c = 3 by rw [HE2.out, hF]; rfl)
   go_wp2_with fail
   go_ret
   exact ⟨by rw [HR.out]; rfl, rfl⟩
  | false =>
   by_cases hT : T = 0
   ·have HR := Lib.hid (show partsE n d c = Y by rw [HE2.out, hF, if_neg (by simp), if_pos hT])
    have hb : (((T : Nat) : Int) != 0) = false := by rw [hT]; rfl
    clear hT
    go_wp2_with fail
    go_ret
    exact ⟨by rw [HR.out]; rfl, rfl⟩
   ·have HR := Lib.hid (show partsE n d c = T by rw [HE2.out, hF, if_neg (by simp), if_neg hT])
    have hb : (((T : Nat) : Int) != 0) = true := by rw [bne_iff_ne]; omega
    clear hT
    go_wp2_with fail
    go_ret
    exact ⟨by rw [HR.out]; rfl, rfl⟩
open Go.RowKit NV
theorem prefix_minus (s : ByteArray) : Lib.hasPrefix s.data.toList [45] = minusB s := by
 unfold Lib.hasPrefix minusB
 cases h : s.data.toList with
 | nil => rfl
 | cons b l =>
  have h1 : ([45] : List UInt8).isPrefixOf (b :: l) = ((45 : UInt8) == b && ([] : List UInt8).isPrefixOf l) := rfl
  have h2 : ([] : List UInt8).isPrefixOf l = true := by cases l <;> rfl
  rw [h1, h2, Bool.and_true]
  by_cases e : b = 45
  ·subst e; rfl
  ·have h3 : ((45 : UInt8) == b) = false := by rw [beq_eq_false_iff_ne]; exact fun h => e h.symm
   rw [h3]
   simp [e]
theorem rest_list (s : ByteArray) : (restS s).data.toList = Lib.trimPrefix s.data.toList [45] := by
 unfold Lib.trimPrefix restS
 rw [prefix_minus]
 cases minusB s
 ·rfl
 ·simp only [if_true]
  rw [Go.Lib.extract_data]
  exact List.take_of_length_le (by rw [List.length_drop, Go.Lib.size_eq]; exact Nat.le_refl _)
theorem chk_cases (l : List UInt8) : (badB l = true → chk l = 3) ∧ (badB l = false → 4000 < l.length → chk l = 5) ∧ (badB l = false → ¬ 4000 < l.length → chk l = 0) := by
 unfold chk
 refine ⟨fun h => by rw [h]; rfl, fun h h2 => by rw [h, if_neg (by simp), if_pos h2], fun h h2 => by rw [h, if_neg (by simp), if_neg h2]⟩
theorem toList_eq (s : ByteArray) (l : List UInt8) : (s.toList == l) = decide (s.data.toList = l) := by
 rw [Go.Lib.toList_data]
 by_cases h : s.data.toList = l
 ·rw [h]; simp
 ·simp [h]
theorem minus_zero (s : ByteArray) : (s.toList == [45, 48]) = (minusB s && ((restS s).toList == [48])) := by
 rw [toList_eq, toList_eq, rest_list]
 unfold Lib.trimPrefix
 rw [prefix_minus]
 cases hm : minusB s with
 | false =>
  rw [Bool.false_and, decide_eq_false]
  intro e
  rw [minusB, e] at hm
  simp at hm
 | true =>
  rw [Bool.true_and, if_pos rfl]
  have : s.data.toList ≠ [] := by intro e; rw [minusB, e] at hm; simp at hm
  cases h : s.data.toList with
  | nil => exact absurd h this
  | cons b l =>
   have hb : b = 45 := by rw [minusB, h] at hm; simpa using hm
   subst hb
   simp
theorem chkI_cases (s : ByteArray) : (intOk s = false → chkI s = 3) ∧ (intOk s = true → chkI s = chk (restS s).data.toList ∧ badB (restS s).data.toList = false) := by
 unfold chkI intOk
 rw [minus_zero, ← rest_list]
 cases hb : badB (restS s).data.toList with
 | true => exact ⟨fun _ => by split; rfl; exact (chk_cases _).1 hb, fun h => by simp at h⟩
 | false =>
  cases minusB s && (restS s).toList == [48]
  ·exact ⟨fun h => by simp at h, fun _ => ⟨rfl, rfl⟩⟩
  ·exact ⟨fun _ => rfl, fun h => by simp at h⟩
theorem zero_rest {s : ByteArray} (h : s.toList == [48]) : (restS s).toList == [48] := by
 rw [toList_eq] at h
 have h := of_decide_eq_true h
 have hm : minusB s = false := by rw [minusB, h]; rfl
 rw [toList_eq, rest_list, Lib.trimPrefix, prefix_minus, hm, h]
 rfl
theorem rest_zero {s : ByteArray} (h : (restS s).toList == [48]) (hi : intOk s = true) : s.toList == [48] := by
 have hm : minusB s = false := by
  cases hm : minusB s with
  | false => rfl
  | true => rw [intOk, hm, h] at hi; simp at hi
 rw [toList_eq, rest_list, Lib.trimPrefix, prefix_minus, hm] at h
 rw [toList_eq]
 exact h
theorem parts_rchk (s : ByteArray) : partsE (numS s) (denS s) (decide (cutAt s.data.toList < s.size)) = if isR s then (if 4000 < (restS (numS s)).size ∨ 4000 < (denS s).size then 5 else 0) else 3 := by
 have hI := chkI_cases (numS s)
 have hZ := @zero_rest (numS s)
 have hZ2 := @rest_zero (numS s)
 have hd := chk_cases (denS s).data.toList
 have hr := chk_cases (restS (numS s)).data.toList
 rw [← Go.Lib.size_eq] at hd hr
 have hden : ¬ cutAt s.data.toList < s.size → denS s = ⟨#[49]⟩ := fun h => by rw [denS, if_neg h]
 have h49 : ¬ cutAt s.data.toList < s.size → badB (denS s).data.toList = false := fun h => by rw [hden h]; rfl
 unfold partsE formB isR
 generalize chkI (numS s) = T at *
 generalize chk (denS s).data.toList = Y at *
 generalize chk (restS (numS s)).data.toList = R at *
 generalize intOk (numS s) = io at *
 generalize ((numS s).toList == [48]) = z at *
 generalize ((restS (numS s)).toList == [48]) = rz at *
 generalize ((denS s).toList == [48]) = d0 at *
 generalize ((denS s).toList == [49]) = d1 at *
 generalize badB (denS s).data.toList = bd at *
 generalize badB (restS (numS s)).data.toList = br at *
 clear hden
 obtain ⟨i1, i2⟩ := hI
 obtain ⟨e1, e2, e3⟩ := hd
 obtain ⟨r1, r2, r3⟩ := hr
 by_cases hc : cutAt s.data.toList < s.size
 ·rw [decide_eq_true hc, if_pos hc]
  clear h49
  cases bd with
  | true =>
   rw [e1 rfl]
   simp
  | false =>
   have hY : Y ≠ 3 := by
    by_cases h : 4000 < (denS s).size
    ·rw [e2 rfl h]; omega
    ·rw [e3 rfl h]; omega
   rw [decide_eq_false hY]
   cases io with
   | false =>
    rw [i1 rfl]
    simp
   | true =>
    obtain ⟨t1, t2⟩ := i2 rfl
    subst t1
    have hzr : z = rz := by
     cases z <;> cases rz
     ·rfl
     ·have := hZ2 rfl rfl; simp at this
     ·have := hZ rfl; simp at this
     ·rfl
    subst hzr
    cases z <;> cases d0 <;> cases d1 <;> simp
    by_cases h1 : 4000 < (restS (numS s)).size
    ·rw [r2 t2 h1]; simp [h1]
    ·rw [r3 t2 h1]
     by_cases h2 : 4000 < (denS s).size
     ·rw [e2 rfl h2]; simp [h2]
     ·rw [e3 rfl h2]; simp [h1, h2]
 ·rw [decide_eq_false hc, if_neg hc]
  have hb := h49 hc
  subst hb
  have hY : Y ≠ 3 := by
   by_cases h : 4000 < (denS s).size
   ·rw [e2 rfl h]; omega
   ·rw [e3 rfl h]; omega
  rw [decide_eq_false hY]
  cases io with
  | false =>
   rw [i1 rfl]
   simp
  | true =>
   obtain ⟨t1, t2⟩ := i2 rfl
   subst t1
   simp
   by_cases h1 : 4000 < (restS (numS s)).size
   ·rw [r2 t2 h1]; simp [h1]
   ·rw [r3 t2 h1]
    by_cases h2 : 4000 < (denS s).size
    ·rw [e2 rfl h2]; simp [h2]
    ·rw [e3 rfl h2]; simp [h1, h2]
open Go.RowKit NV
theorem FR.result2 {w : World} {b : Nat} {m : Bool} {n d v : Value} {tmps : Array Value} (h : FR w b m n d) (ht : tmps.getD 2 undef = .pointer (some ⟨b, 0, none⟩)) (hv : tmps.getD 3 undef = v) : (results Tryz.f92 tmps).run Tryz.prog w = .ok (.tuple #[.agg #[.bool m, n, d], v]) w := by
 have hl := h.load
 have ht' : tmps[2]?.getD undef = .pointer (some ⟨b, 0, none⟩) := by rw [← ht]; simp
 have hv' : tmps[3]?.getD undef = v := by rw [← hv]; simp
 simp [results, ht', hv', asAddr, hl]
def FRet (s : ByteArray) (w : World) (e : Ending) : Prop := ∃ m a1 L1 k1 a2 L2 k2, e = .returned (.tuple #[.agg #[.bool m, .slice a1 L1 k1, .slice a2 L2 k2], .int .i64 ((rchk s : Nat) : Int)]) ∧
 (rchk s = 0 → m = minusB (numS s) ∧ Num w (.slice a1 L1 k1) (dv (restS (numS s)).data.toList) ∧ Num w (.slice a2 L2 k2) (dv (denS s).data.toList))
theorem num_size (s : ByteArray) : (numS s).size ≤ s.size ∧ (denS s).size ≤ s.size + 1 := by
 constructor
 ·rw [numS, ByteArray.size_extract]; omega
 ·rw [denS]; split
  ·rw [ByteArray.size_extract]; omega
  ·show 1 ≤ s.size + 1; omega
theorem isR_digs {s : ByteArray} (h : isR s = true) : badB (restS (numS s)).data.toList = false ∧ badB (denS s).data.toList = false := by
 unfold isR at h
 split at h
 ·simp only [Bool.and_eq_true, Bool.not_eq_true'] at h
  exact ⟨((chkI_cases (numS s)).2 h.1.1.1.1).2, h.1.1.2⟩
 ·rename_i hlt
  exact ⟨((chkI_cases (numS s)).2 h).2, by rw [denS, if_neg hlt]; rfl⟩
set_option maxHeartbeats 3200000 in
set_option maxRecDepth 100000 in
theorem read_any (s : ByteArray) (w : World) (hs : s.size ≤ 1000000) (hm : ML w) :
  Calls Tryz.prog 92 #[.string s] w fun e w' => FRet s w' e ∧ Below w.heap.size w w' := by
 obtain ⟨z1, z2⟩ := num_size s
 have hm0 := ml_lt hm
 have HM := Lib.hid (show ∀ w', Below w.heap.size w w' → ML w' from fun w' hb => by
  obtain ⟨m, hm⟩ := hm
  exact ⟨m, (hb.cell (p := ⟨0, 0, none⟩) hm0).trans hm⟩)
 have HP := Lib.hid (fun W => checkParts_any (numS s) (denS s) (decide (cutAt s.data.toList < s.size)) W (by omega) (by omega))
 rw [parts_rchk] at HP
 clear hm
 go_enter Tryz.func92, Tryz.ntmps92
 go_wp2_with fail
 have hb0 : Below w.heap.size w (w.alloc (.cells #[.bool false, .slice none 0 0, .slice none 0 0] 110)) := (Below.refl _ _).alloc (Nat.le_refl _) _
 have hq0 : FR (w.alloc (.cells #[.bool false, .slice none 0 0, .slice none 0 0] 110)) w.heap.size false (.slice none 0 0) (.slice none 0 0) := heap_alloc_new w _
 have HCU := Lib.hid (cut_any s (w.alloc (.cells #[.bool false, .slice none 0 0, .slice none 0 0] 110)) (by omega) (HM.out _ hb0))
 have HB0 := Lib.hid hb0
 have HQ0 := Lib.hid hq0
 generalize w.alloc (.cells #[.bool false, .slice none 0 0, .slice none 0 0] 110) = w0 at HB0 HQ0 HCU ⊢
 clear hb0 hq0
 refine HCU.out.mono ?_
 rintro e w1 ⟨rfl, q, rfl⟩
 have HB1 := Lib.hid (below_drewN HB0.out q)
 have HQ1 := Lib.hid (show FR (w0.drewN q) w.heap.size false (.slice none 0 0) (.slice none 0 0) from ((below_drewN (Below.refl w0.heap.size w0) q).block _ (Array.getElem?_eq_some_iff.1 HQ0.out).1).trans HQ0.out)
 generalize w0.drewN q = w1 at HB1 HQ1 ⊢
 clear HQ0 HB0 HCU HM
 go_wp2_with fail
 refine (HP.out _).mono ?_
 rintro e w2 ⟨rfl, rfl⟩
 have c0 : w1.cell? ⟨w.heap.size, 0, none⟩ = some (.bool false) := by rw [Lib.cell_of_heap HQ1.out]; rfl
 have c1 : w1.cell? ⟨w.heap.size, 1, none⟩ = some (.slice none 0 0) := by rw [Lib.cell_of_heap HQ1.out]; rfl
 have c2 : w1.cell? ⟨w.heap.size, 2, none⟩ = some (.slice none 0 0) := by rw [Lib.cell_of_heap HQ1.out]; rfl
 have f0 : w1.frozen? ⟨w.heap.size, 0, none⟩ = false := Lib.frozen_of_heap HQ1.out 0
 have f1 : w1.frozen? ⟨w.heap.size, 1, none⟩ = false := Lib.frozen_of_heap HQ1.out 1
 have f2 : w1.frozen? ⟨w.heap.size, 2, none⟩ = false := Lib.frozen_of_heap HQ1.out 2
 by_cases hbad : (if isR s then (if 4000 < (restS (numS s)).size ∨ 4000 < (denS s).size then 5 else 0) else 3) = 0
 ·have hIS : isR s = true := by
   cases h : isR s with
   | true => rfl
   | false => rw [h] at hbad; simp at hbad
  rw [hIS, if_pos rfl] at hbad
  have hov : ¬ (4000 < (restS (numS s)).size ∨ 4000 < (denS s).size) := fun h => by rw [if_pos h] at hbad; simp at hbad
  have HRC := Lib.hid (show rchk s = if Nat.gcd (dv (restS (numS s)).data.toList) (dv (denS s).data.toList) = 1 then 0 else 3 by rw [rchk, hIS, if_pos rfl, if_neg hov])
  rw [hIS, if_pos rfl, if_neg hov]
  obtain ⟨g1, g2⟩ := isR_digs hIS
  obtain ⟨_, d1, _⟩ := good_parts g1
  obtain ⟨_, d2, _⟩ := good_parts g2
  have hln1 : ln (dv (restS (numS s)).data.toList) ≤ 445 := digs_ln d1 (by rw [← Go.Lib.size_eq]; omega)
  have hln2 : ln (dv (denS s).data.toList) ≤ 445 := digs_ln d2 (by rw [← Go.Lib.size_eq]; omega)
  have hpa := fun W => rparse_any (numS s) (denS s) W (by omega) (by omega) (by rw [← rest_list]; exact d1) d2
  rw [prefix_minus, ← rest_list] at hpa
  have HPA := Lib.hid hpa
  have hlt : w.heap.size < w1.heap.size := (Array.getElem?_eq_some_iff.1 HQ1.out).1
  clear hpa hbad hov g1 g2 d1 d2 hIS HP
  generalize hnm : dv (restS (numS s)).data.toList = nm at *
  generalize hnd : dv (denS s).data.toList = nd at *
  have HNM := Lib.hid hnm
  have HND := Lib.hid hnd
  clear hnm hnd
  go_wp2_with fail
  refine (HPA.out _).mono ?_
  rintro e w3 ⟨v, rfl, ⟨x, y, rfl, hx, hy⟩, hb3⟩
  obtain ⟨a1, k1, rfl⟩ := slice_any hx
  obtain ⟨a2, k2, rfl⟩ := slice_any hy
  have hq4 : FR (w3.alloc (.cells #[.bool (minusB (numS s)), .slice a1 (ln nm) k1, .slice a2 (ln nd) k2] 110)) w3.heap.size (minusB (numS s)) (.slice a1 (ln nm) k1) (.slice a2 (ln nd) k2) := heap_alloc_new w3 _
  have hb34 : Below w3.heap.size w3 (w3.alloc (.cells #[.bool (minusB (numS s)), .slice a1 (ln nm) k1, .slice a2 (ln nd) k2] 110)) := (Below.refl _ _).alloc (Nat.le_refl _) _
  have hx4 := hx.below hb34
  have hy4 := hy.below hb34
  have HB4 := Lib.hid (hb3.trans (hb34.mono hb3.size))
  have hg3 := hb3.size
  have HG := Lib.hid (gcd_any hx4 hy4 (by omega) (by omega))
  have HX := Lib.hid hx4
  have HY := Lib.hid hy4
  have HQ4 := Lib.hid hq4
  clear hx hy hb3 hq4 hb34 hx4 hy4 HPA
  go_wp2_with fail
  generalize hw4 : w3.alloc (.cells #[.bool (minusB (numS s)), .slice a1 (ln nm) k1, .slice a2 (ln nd) k2] 110) = w4 at HG HX HY HQ4 HB4 ⊢
  have hsz4 : w3.heap.size < w4.heap.size := by rw [← hw4]; simp
  clear hw4
  refine HG.out.mono ?_
  rintro e w5 ⟨v, rfl, hv, hb5⟩
  have HI := Lib.hid (isOne_any hv)
  have hb15 := HB4.out.trans (hb5.mono HB4.out.size)
  have HX5 := Lib.hid (HX.out.below hb5)
  have HY5 := Lib.hid (HY.out.below hb5)
  have HQ5 := Lib.hid (show FR w5 w.heap.size false (.slice none 0 0) (.slice none 0 0) from (hb15.block _ hlt).trans HQ1.out)
  have HQ6 := Lib.hid (show FR w5 w3.heap.size (minusB (numS s)) (.slice a1 (ln nm) k1) (.slice a2 (ln nd) k2) from (hb5.block _ hsz4).trans HQ4.out)
  have HBW := Lib.hid (HB1.out.trans (hb15.mono (Nat.le_of_lt hlt)))
  clear hv hb5 hb15 HG HX HY HQ4 HB4 c0 c1 c2 f0 f1 f2
  have c0 : w5.cell? ⟨w.heap.size, 0, none⟩ = some (.bool false) := by rw [Lib.cell_of_heap HQ5.out]; rfl
  have c1 : w5.cell? ⟨w.heap.size, 1, none⟩ = some (.slice none 0 0) := by rw [Lib.cell_of_heap HQ5.out]; rfl
  have c2 : w5.cell? ⟨w.heap.size, 2, none⟩ = some (.slice none 0 0) := by rw [Lib.cell_of_heap HQ5.out]; rfl
  have f0 : w5.frozen? ⟨w.heap.size, 0, none⟩ = false := Lib.frozen_of_heap HQ5.out 0
  have f1 : w5.frozen? ⟨w.heap.size, 1, none⟩ = false := Lib.frozen_of_heap HQ5.out 1
  have f2 : w5.frozen? ⟨w.heap.size, 2, none⟩ = false := Lib.frozen_of_heap HQ5.out 2
  by_cases hg : Nat.gcd nm nd = 1
  ·have HRI := Lib.hid (show ((rchk s : Nat) : Int) = 0 by rw [HRC.out, if_pos hg]; rfl)
   rw [hg, oneB_yes] at HI
   have d0 : w5.cell? ⟨w3.heap.size, 0, none⟩ = some (.bool (minusB (numS s))) := by rw [Lib.cell_of_heap HQ6.out]; rfl
   have d1 : w5.cell? ⟨w3.heap.size, 1, none⟩ = some (.slice a1 (ln nm) k1) := by rw [Lib.cell_of_heap HQ6.out]; rfl
   have d2 : w5.cell? ⟨w3.heap.size, 2, none⟩ = some (.slice a2 (ln nd) k2) := by rw [Lib.cell_of_heap HQ6.out]; rfl
   have HN1 := Lib.hid (HX5.out.st3 c0 (minusB (numS s)) (.slice a1 (ln nm) k1) (.slice a2 (ln nd) k2))
   have HN2 := Lib.hid (HY5.out.st3 c0 (minusB (numS s)) (.slice a1 (ln nm) k1) (.slice a2 (ln nd) k2))
   clear hg
   go_wp2_with fail
   refine HI.out.mono ?_
   rintro e w6 ⟨rfl, rfl⟩
   go_wp2_with fail
   refine bodyPost_ret ((HQ5.out.st (minusB (numS s)) (.slice a1 (ln nm) k1) (.slice a2 (ln nd) k2)).result2 rfl rfl) rfl ⟨⟨_, _, _, _, _, _, _, by rw [HRI.out]; rfl, fun _ => ⟨rfl, by rw [HNM.out]; exact HN1.out, by rw [HND.out]; exact HN2.out⟩⟩, below_st3 HBW.out (Nat.le_refl _) _ _ _⟩
  ·have HR3 := Lib.hid (show rchk s = 3 by rw [HRC.out, if_neg hg])
   have HRI := Lib.hid (show ((rchk s : Nat) : Int) = 3 by rw [HR3.out]; rfl)
   rw [oneB_no hg] at HI
   clear hg
   go_wp2_with fail
   refine HI.out.mono ?_
   rintro e w6 ⟨rfl, rfl⟩
   go_wp2_with fail
   refine bodyPost_ret ((HQ5.out.st false (.slice none 0 0) (.slice none 0 0)).result2 rfl rfl) rfl ⟨⟨_, _, _, _, _, _, _, by rw [HRI.out]; rfl, fun h => by rw [HR3.out] at h; omega⟩, below_st3 HBW.out (Nat.le_refl _) _ _ _⟩
 ·have hR : rchk s = (if isR s then (if 4000 < (restS (numS s)).size ∨ 4000 < (denS s).size then 5 else 0) else 3) := by
   unfold rchk
   split
   ·rename_i h1
    rw [if_pos h1] at hbad
    split
    ·rfl
    ·rename_i h2; rw [if_neg h2] at hbad; exact absurd rfl hbad
   ·rfl
  rw [← hR] at hbad ⊢
  have hz : (((rchk s : Nat) : Int) != 0) = true := by rw [bne_iff_ne]; omega
  have HBAD := Lib.hid hbad
  clear hR hbad
  go_wp2_with fail
  refine bodyPost_ret ((HQ1.out.st false (.slice none 0 0) (.slice none 0 0)).result2 rfl rfl) rfl ⟨⟨_, _, _, _, _, _, _, rfl, fun h => absurd h HBAD.out⟩, below_st3 HB1.out (Nat.le_refl _) false (.slice none 0 0) (.slice none 0 0)⟩
end Go.Proofs.YtjpepjooefkbkaaGreatDoor
