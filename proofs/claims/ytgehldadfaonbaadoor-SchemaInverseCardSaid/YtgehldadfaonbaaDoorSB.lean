/-
  What may have turned in a world (Ch); the reserved words in memory; isLetter, isDigit, sort.Find, isReserved.
-/
import Derived.Test.YtgehldadfaonbaaDoorProg
import Derived.Test.YtgehldadfaonbaaDoorMA
import Derived.RangeFuncBox
import Derived.WalkKit
import Derived.WalkSpells
import Derived.WalkLawsBesides
import Derived.BigQuiet
import Derived.Deep.QuietTactic
import Derived.Lib.Hide
import Derived.Laws.Rows
import Derived.Lib.Strings
namespace Go.Proofs.YtgehldadfaonbaaDoor
open Go.RowKit
open Go.Lib (compareBytes)

/-- Of the blocks that lay in w only those of S may have turned. -/
structure Ch (S : Nat → Prop) (w w' : World) : Prop where
  os : w'.os = w.os
  tape : w'.tape = w.tape
  output : w'.output = w.output
  size : w.heap.size ≤ w'.heap.size
  block : ∀ j, j < w.heap.size → ¬ S j → w'.heap[j]? = w.heap[j]?

theorem Ch.refl (S : Nat → Prop) (w : World) : Ch S w w := ⟨rfl, rfl, rfl, Nat.le_refl _, fun _ _ _ => rfl⟩
theorem Ch.trans {S : Nat → Prop} {a b c : World} (h : Ch S a b) (k : Ch S b c) : Ch S a c :=
  ⟨k.os.trans h.os, k.tape.trans h.tape, k.output.trans h.output, Nat.le_trans h.size k.size, fun j hj hs => (k.block j (Nat.lt_of_lt_of_le hj h.size) hs).trans (h.block j hj hs)⟩
theorem Ch.mono {S T : Nat → Prop} {a b : World} (h : Ch S a b) (hs : ∀ j, j < a.heap.size → S j → T j) : Ch T a b := ⟨h.os, h.tape, h.output, h.size, fun j hj ht => h.block j hj (fun e => ht (hs j hj e))⟩
theorem Ch.below {S : Nat → Prop} {a b : World} (h : Below a.heap.size a b) : Ch S a b := ⟨h.os, h.tape, h.output, h.size, fun j hj _ => h.block j hj⟩
theorem Ch.to_below {S : Nat → Prop} {B : Nat} {a b : World} (h : Ch S a b) (hB : B ≤ a.heap.size) (hs : ∀ j, S j → B ≤ j) : Below B a b :=
  ⟨h.os, h.tape, h.output, h.size, fun j hj => h.block j (by omega) (fun e => by have := hs j e; omega)⟩
theorem Ch.putObj (S : Nat → Prop) (w : World) {r : Nat} (o : Obj) (hr : S r) : Ch S w (w.putObj r o) :=
  ⟨rfl, rfl, rfl, by simp, fun _ _ hs => World.putObj_heap_other (fun e => hs (by rw [e]; exact hr))⟩
theorem Ch.alloc (S : Nat → Prop) (w : World) (o : Obj) : Ch S w (w.alloc o) := Ch.below ((Below.refl _ w).alloc (Nat.le_refl _) o)
theorem Ch.drew (S : Nat → Prop) (w : World) : Ch S w w.drew := Ch.below (Below.refl _ w).drew
theorem Ch.setCell (S : Nat → Prop) (w : World) {b j : Nat} (v : Value) (hb : S b) : Ch S w (w.setCell ⟨b, j, none⟩ v) :=
  ⟨rfl, rfl, rfl, by simp [World.setCell], fun k _ hs => Below.heap_setCell _ _ _ _ (fun e => hs (by rw [e]; exact hb))⟩
theorem Ch.cell {S : Nat → Prop} {w w' : World} (h : Ch S w w') {b j : Nat} (hb : ¬ S b) {v : Value} (hc : w.cell? ⟨b, j, none⟩ = some v) : w'.cell? ⟨b, j, none⟩ = some v := by
  obtain ⟨o, ho, _⟩ := cells_of_cell hc
  have hl := (Array.getElem?_eq_some_iff.1 ho).1
  unfold World.cell? at hc ⊢
  rw [h.block b hl hb]; exact hc
theorem Ch.boxed {S : Nat → Prop} {w w' : World} (h : Ch S w w') {b : Nat} {t : TypeId} {v : Value} (hb : ¬ S b) (hc : Boxed w b t v) : Boxed w' b t v := (h.block b hc.lt hb).trans hc


theorem Ch.frozen {S : Nat → Prop} {w w' : World} (h : Ch S w w') {b j : Nat} (hl : b < w.heap.size) (hb : ¬ S b) : w'.frozen? ⟨b, j, none⟩ = w.frozen? ⟨b, j, none⟩ :=
  World.frozen?_of_block (w := w) (h.block b hl hb)

/-- Two texts compared, as the walk spells it. -/
theorem str_eq (a b : ByteArray) : (a.toList == b.toList) = decide (a = b) := by
  rw [Go.Lib.toList_data, Go.Lib.toList_data, Bool.eq_iff_iff, beq_iff_eq, decide_eq_true_eq]
  exact ⟨fun h => ByteArray.ext (Array.toList_inj.1 h), fun h => by rw [h]⟩
theorem str_same {a b : ByteArray} (h : a = b) : (a.toList == b.toList) = true := by rw [str_eq]; exact decide_eq_true h
theorem str_ne {a b : ByteArray} (h : a ≠ b) : (a.toList == b.toList) = false := by rw [str_eq]; exact decide_eq_false h

/-- A word of the table. -/
def resA (j : Nat) : ByteArray := ⟨(resL.getD j []).toArray⟩
def resV : Array Value := (resL.map fun l => Value.string ⟨l.toArray⟩).toArray
/-- The table of the reserved words lies in memory. -/
def Res (w : World) : Prop := ∃ t fr, w.heap[0]? = some (.cells resV t fr)
theorem Res.lt {w : World} (h : Res w) : 0 < w.heap.size := by
  obtain ⟨t, fr, h⟩ := h
  exact (Array.getElem?_eq_some_iff.1 h).1
theorem Res.cell {w : World} (h : Res w) {j : Nat} (hj : j < 35) : w.cell? ⟨0, j, none⟩ = some (.string (resA j)) := by
  obtain ⟨t, fr, h⟩ := h
  rw [cell_of_row w _ j _ t fr h]
  unfold resV resA
  rw [List.getElem?_toArray, List.getElem?_map, List.getElem?_eq_getElem (show j < resL.length from hj), List.getD_eq_getElem?_getD, List.getElem?_eq_getElem (show j < resL.length from hj)]
  rfl
theorem Res.below {w w' : World} (h : Res w) {B : Nat} (hb : Below B w w') (hB : 0 < B) : Res w' := by
  obtain ⟨t, fr, h⟩ := h
  exact ⟨t, fr, (hb.block _ hB).trans h⟩
theorem Res.of {w w' : World} (h : Res w) (hb : Below w.heap.size w w') : Res w' := h.below hb h.lt
theorem Res.ch {S : Nat → Prop} {w w' : World} (h : Res w) (hb : Ch S w w') (hs : ¬ S 0) : Res w' := by
  have hl := h.lt
  obtain ⟨t, fr, h⟩ := h
  exact ⟨t, fr, (hb.block _ hl hs).trans h⟩

theorem isLetter_any (n : Int) (w : World) : Calls Tryd.prog 51 #[.int .u8 n] w fun e w' => e = .returned (.bool (decide (97 ≤ n) && decide (n ≤ 122))) ∧ w = w' := by
  by_cases a : 97 ≤ n
  · by_cases b : n ≤ 122
    · go_enter Tryd.func51, Tryd.ntmps51
      go_wp2
      go_ret
      exact ⟨by simp [a, b], rfl⟩
    · go_enter Tryd.func51, Tryd.ntmps51
      go_wp2
      go_ret
      exact ⟨by simp [b], rfl⟩
  · go_enter Tryd.func51, Tryd.ntmps51
    go_wp2
    go_ret
    exact ⟨by rw [show decide (97 ≤ n) = false from decide_eq_false (Int.not_le.2 a)]; rfl, rfl⟩
theorem isDigit_any (n : Int) (w : World) : Calls Tryd.prog 52 #[.int .u8 n] w fun e w' => e = .returned (.bool (decide (48 ≤ n) && decide (n ≤ 57))) ∧ w = w' := by
  by_cases a : 48 ≤ n
  · by_cases b : n ≤ 57
    · go_enter Tryd.func52, Tryd.ntmps52
      go_wp2
      go_ret
      exact ⟨by simp [a, b], rfl⟩
    · go_enter Tryd.func52, Tryd.ntmps52
      go_wp2
      go_ret
      exact ⟨by simp [b], rfl⟩
  · go_enter Tryd.func52, Tryd.ntmps52
    go_wp2
    go_ret
    exact ⟨by rw [show decide (48 ≤ n) = false from decide_eq_false (Int.not_le.2 a)]; rfl, rfl⟩

set_option maxHeartbeats 1600000 in
/-- sort.Find: the first index whose number is not above 0, and whether it is 0 there. -/
theorem find_any {g n : Nat} {cb : Array Value} {c : Nat → Int} {w : World} (eg : ∀ args w, (callFunc g args).run Tryd.prog w = .ok (.enter g args) w) (hn : n < 4611686018427387904)
    (hf : ∀ W i, i < n → Below w.heap.size w W → Calls Tryd.prog g (#[.int .i64 (i : Int)] ++ cb) W fun e w' => e = .returned (.int .i64 (c i)) ∧ Below W.heap.size W w')
    (hmono : ∀ a b, a ≤ b → b < n → c a ≤ 0 → c b ≤ 0) :
    Calls Tryd.prog 72 #[.int .i64 (n : Int), .func (.func g) #[] cb] w fun e w' => ∃ r : Nat, r ≤ n ∧ e = .returned (.tuple #[.int .i64 (r : Int), .bool (decide (r < n) && decide (c r = 0))]) ∧ (∀ j, j < r → 0 < c j) ∧ (r < n → c r ≤ 0) ∧ Below w.heap.size w w' := by
  have HF := Lib.hid hf
  have HM := Lib.hid hmono
  clear hf hmono
  go_enter Tryd.func72, Tryd.ntmps72
  go_wp2_with fail
  go_loopw [4, 6] (fun s5 s6 wr => ∃ lo hi : Nat, s5 = .int .i64 (lo : Int) ∧ s6 = .int .i64 (hi : Int) ∧ lo ≤ hi ∧ hi ≤ n ∧ Hid ((∀ t, t < lo → 0 < c t) ∧ (∀ t, hi ≤ t → t < n → c t ≤ 0)) ∧ Below w.heap.size w wr) (fun s5 s6 _ => (intOf s6 - intOf s5).toNat)
  case atStart => exact ⟨0, n, rfl, rfl, Nat.zero_le _, Nat.le_refl _, Lib.hid ⟨fun t ht => absurd ht (Nat.not_lt_zero _), fun t h1 h2 => by omega⟩, Below.refl _ _⟩
  case round =>
    obtain ⟨lo, hi, rfl, rfl, hlh, hin, I, hb⟩ := hrel
    by_cases hlt : lo < hi
    · have hc := HF.out wr ((lo + hi) / 2) (by omega) hb
      rw [show (((lo + hi) / 2 : Nat) : Int) = ((lo : Int) + (hi : Int)) / 2 by omega] at hc
      have HB := Lib.hid hb
      clear hb
      obtain ⟨v, hv⟩ : ∃ v, v = c ((lo + hi) / 2) := ⟨_, rfl⟩
      rw [← hv] at hc
      by_cases hp : 0 < v
      · have HP := Lib.hid (And.intro hv hp)
        have HC := Lib.hid hc
        clear hv hc
        go_wp2_with fail
        refine HC.out.mono ?_
        rintro e w1 ⟨rfl, hb1⟩
        have HB1 := Lib.hid (HB.out.trans (hb1.mono HB.out.size))
        clear hb1 HC
        go_wp2_with fail
        go_roundw
        case rel =>
          refine ⟨(lo + hi) / 2 + 1, hi, by go_num, rfl, by omega, hin, Lib.hid ⟨fun t ht => ?_, I.out.2⟩, HB1.out⟩
          by_cases h : 0 < c t
          · exact h
          · have h1 := HM.out t ((lo + hi) / 2) (by omega) (by omega) (by omega)
            rw [← HP.out.1] at h1
            have := HP.out.2
            omega
        case measure => simp [intOf]; omega
      · have hp' : v ≤ 0 := by omega
        have HP := Lib.hid (And.intro hv hp')
        have HC := Lib.hid hc
        clear hv hc
        go_wp2_with fail
        refine HC.out.mono ?_
        rintro e w1 ⟨rfl, hb1⟩
        have HB1 := Lib.hid (HB.out.trans (hb1.mono HB.out.size))
        clear hb1 HC
        go_wp2_with fail
        go_roundw
        case rel =>
          refine ⟨lo, (lo + hi) / 2, rfl, by go_num, by omega, by omega, Lib.hid ⟨I.out.1, fun t ht htn => HM.out ((lo + hi) / 2) t ht htn ?_⟩, HB1.out⟩
          rw [← HP.out.1]
          exact HP.out.2
        case measure => simp [intOf]; omega
    · obtain rfl : hi = lo := by omega
      have HB := Lib.hid hb
      by_cases hr : hi < n
      · have hc := HF.out wr hi hr hb
        clear hb
        obtain ⟨v, hv⟩ : ∃ v, v = c hi := ⟨_, rfl⟩
        rw [← hv] at hc
        have HV := Lib.hid hv
        have HC := Lib.hid hc
        clear hc hv
        go_wp2_with fail
        refine HC.out.mono ?_
        rintro e w1 ⟨rfl, hb1⟩
        have HB1 := Lib.hid (HB.out.trans (hb1.mono HB.out.size))
        clear hb1 HC
        go_wp2_with fail
        go_ret2
        exact ⟨hi, hin, by rw [← HV.out]; simp [hr]; rfl, I.out.1, fun h => I.out.2 hi (Nat.le_refl _) h, HB1.out⟩
      · clear hb
        go_wp2_with fail
        go_ret2
        exact ⟨hi, hin, by simp [hr], I.out.1, fun h => absurd h hr, HB.out⟩

end Go.Proofs.YtgehldadfaonbaaDoor
