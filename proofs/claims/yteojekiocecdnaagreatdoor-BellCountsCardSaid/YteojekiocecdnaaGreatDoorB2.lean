/-
  The iterator over the pieces of a text.
-/
import Derived.Test.YteojekiocecdnaaGreatDoorB1
import Derived.Test.YteojekiocecdnaaGreatDoorProg
import Derived.Shelf.Abstract
import Derived.Shelf.RegionOpen
import Derived.WalkKit
import Derived.OwnWalkIn
import Derived.TacticsInMore
import Derived.LoopNIn
import Derived.LoopIn
namespace Go.Proofs.YteojekiocecdnaaGreatDoor
open Go.RowKit Go.Shelf
attribute [local go_sem] Oper.semAt_some

/-- What is left of a text behind k pieces of c bytes. -/
def restB (s : ByteArray) (c k : Nat) : ByteArray := s.extract (k * c) s.size
/-- The piece behind k pieces. -/
def piece (s : ByteArray) (c k : Nat) : ByteArray := if c < (restB s c k).size then (restB s c k).extract 0 c else restB s c k
/-- How many pieces of c bytes n bytes are. -/
def np (c n : Nat) : Nat := (n + c - 1) / c

theorem np_lt {c k n : Nat} (hc : 0 < c) : k < np c n ↔ k * c < n := by
  unfold np
  rw [show (k < (n + c - 1) / c) ↔ (k + 1 ≤ (n + c - 1) / c) from Iff.rfl, Nat.le_div_iff_mul_le hc, Nat.succ_mul]
  omega
theorem restB_size (s : ByteArray) (c k : Nat) : (restB s c k).size = s.size - k * c := by
  unfold restB; rw [ByteArray.size_extract]; omega
theorem rest_first (s : ByteArray) (c : Nat) : restB s c 0 = s := by
  unfold restB
  apply ByteArray.ext
  simp
theorem rest_next (s : ByteArray) (c k : Nat) : (restB s c k).extract c (restB s c k).size = restB s c (k + 1) := by
  have h := restB_size s c k
  rw [h]
  unfold restB
  apply ByteArray.ext
  rw [ByteArray.data_extract, ByteArray.data_extract, ByteArray.data_extract, Array.extract_extract, Nat.succ_mul]
  congr 1
  have : s.data.size = s.size := rfl
  omega

theorem empty_of {s : ByteArray} (h : s.size = 0) : s.toList.isEmpty = true := by
  rw [ByteArray.toList_eq, List.isEmpty_iff]
  exact List.eq_nil_of_length_eq_zero h
theorem not_empty_of {s : ByteArray} (h : s.size ≠ 0) : s.toList.isEmpty = false := by
  rw [ByteArray.toList_eq]
  cases hl : s.data.toList with
  | nil => exact absurd (show s.size = 0 from by have : s.data.toList.length = 0 := by rw [hl]; rfl
                                                 exact this) h
  | cons a r => rfl

/-- How long the text in a box is. -/
def strLen (w : World) (b : Nat) : Nat := match w.cell? ⟨b, 0, none⟩ with | some (.string s) => s.size | _ => 0
theorem strLen_of {w : World} {b : Nat} {s : ByteArray} (h : w.cell? ⟨b, 0, none⟩ = some (.string s)) : strLen w b = s.size := by unfold strLen; rw [h]

/-- The iterator's state behind k pieces. -/
def PSt (bB bN : Nat) (s : ByteArray) (c k : Nat) (W : World) : Prop := Boxed W bB 23 (.string (restB s c k)) ∧ Boxed W bN 3 (.int .i64 (c : Int))

set_option maxHeartbeats 3200000 in
set_option maxRecDepth 100000 in
theorem pieces_calls {m bB bN c l : Nat} {s : ByteArray} (hne : bN ≠ bB) (hm : 1 ≤ m) (hc : 0 < c) (hc1 : c ≤ 1000) (hs : s.size ≤ 140737488351232) (J : Nat → World → Prop)
    (hJ : ∀ k W W', J k W → Ch (fun j => j = bB) W W' → J k W')
    (hY : ∀ k W, J k W → PSt bB bN s c k W → k < np c s.size → YieldAt Fence.wide (m - 1) Tryz.prog l #[.string (piece s c k)] W fun e W' => e = .returned (.bool true) ∧ J (k + 1) W' ∧ PSt bB bN s c k W')
    (W : World) (s0 : PSt bB bN s c 0 W) (h0 : J 0 W) :
    CallsIn Fence.wide m Tryz.prog 224 (#[.func (.yield l) #[] #[]] ++ #[.pointer (some ⟨bB, 0, none⟩), .pointer (some ⟨bN, 0, none⟩)]) W fun e W' => (∃ v, e = .returned v) ∧ J (np c s.size) W' := by
  refine callsIn_of_wp Tryz.func224 rfl trivial ?_ rfl
  simp only [Tryz.ntmps224, List.size_toArray, List.length_cons, List.length_nil, Nat.reduceAdd, Nat.reduceSub, Array.replicate_succ, Array.replicate_zero, List.push_toArray, List.append_toArray, List.nil_append, List.cons_append]
  have HJ := Lib.hid hJ
  have HY := Lib.hid hY
  have HC := Lib.hid (And.intro hc hs)
  clear hJ hY
  gi_wp2
  gi_loopw [] (fun wr => ∃ k : Nat, J k wr ∧ PSt bB bN s c k wr ∧ Hid (k = 0 ∨ k * c < s.size)) (fun wr => strLen wr bB)
  case atStart => exact ⟨0, h0, s0, Lib.hid (.inl rfl)⟩
  case round =>
    obtain ⟨k, hj, hp, hk⟩ := hrel
    have HSZ := Lib.hid (restB_size s c k)
    have c0 := hp.1.cell
    have c1 := hp.2.cell
    have HP := Lib.hid hp
    have hsm : (restB s c k).size ≤ 140737488351232 := by have := HSZ.out; have := HC.out.2; omega
    by_cases hlt : c < (restB s c k).size
    · have hkn : k < np c s.size := (np_lt HC.out.1).2 (by have := HSZ.out; omega)
      have HLT := Lib.hid hlt
      obtain ⟨fn, tmps, assign, body, hy, hR⟩ := HY.out k wr hj hp hkn
      rw [show piece s c k = (restB s c k).extract 0 c from if_pos hlt] at hy
      have HR := Lib.hid hR
      clear hR hkn hj hp
      have HNX := Lib.hid (rest_next s c k)
      generalize hrb : restB s c k = rb at *
      have HRB := Lib.hid hrb
      clear hrb
      gi_wp2
      refine HR.out.mono ?_
      rintro e W3 ⟨rfl, hj3, hp3⟩
      have HJ3 := Lib.hid hj3
      have HP3 := Lib.hid hp3
      clear c0 c1 hj3
      have d0 := hp3.1.cell
      have d1 := hp3.2.cell
      have d2 := hp3.1.frozen
      clear hp3 hy HR
      rw [HRB.out] at d0
      gi_wp2
      go_roundw
      case rel =>
        refine ⟨k + 1, HJ.out _ _ _ HJ3.out (Ch.setCell _ _ _ rfl), ⟨?_, ?_⟩, Lib.hid (.inr ?_)⟩
        · rw [← HNX.out]; exact HP3.out.1.set _
        · exact HP3.out.2.other hne _
        · have h1 := HSZ.out
          have h2 := HLT.out
          rw [Nat.succ_mul]; omega
      case measure =>
        have h2 := HLT.out
        rw [strLen_of (World.cell?_setCell_same' _ _ _ (by rw [d0]; rfl)), strLen_of HP.out.1.cell, HRB.out, ByteArray.size_extract]
        have h3 := HC.out.1
        omega
    · by_cases hz : (restB s c k).size = 0
      · have HN := Lib.hid (show np c s.size = k by
          have h1 := HSZ.out
          rcases hk.out with h | h
          · subst h
            have : ¬ 0 < np c s.size := fun h => by have := (np_lt HC.out.1).1 h; omega
            omega
          · omega)
        have hjk := Lib.hid hj
        have hem := empty_of hz
        clear hj hp
        gi_wp2
        go_end0
        exact ⟨⟨_, rfl⟩, by rw [HN.out]; exact hjk.out⟩
      · have hkn : k < np c s.size := (np_lt HC.out.1).2 (by have := HSZ.out; omega)
        have HN := Lib.hid (show np c s.size = k + 1 by
          have h1 := HSZ.out
          have : ¬ k + 1 < np c s.size := fun h => by have := (np_lt HC.out.1).1 h; rw [Nat.succ_mul] at this; omega
          omega)
        obtain ⟨fn, tmps, assign, body, hy, hR⟩ := HY.out k wr hj hp hkn
        rw [show piece s c k = restB s c k from if_neg hlt] at hy
        have HR := Lib.hid hR
        have hem := not_empty_of hz
        clear hR hkn hj hp
        gi_wp2
        refine HR.out.mono ?_
        rintro e W3 ⟨rfl, hj3, hp3⟩
        have HJ3 := Lib.hid hj3
        clear hj3 hp3
        gi_wp2
        go_end0
        exact ⟨⟨_, rfl⟩, by rw [HN.out]; exact HJ3.out⟩

end Go.Proofs.YteojekiocecdnaaGreatDoor
