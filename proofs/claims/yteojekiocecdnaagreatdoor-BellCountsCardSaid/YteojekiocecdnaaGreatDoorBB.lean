/-
  Check, checkShort and Cell of bits. All: the bit strings of n bits.
-/
import Derived.Test.YteojekiocecdnaaGreatDoorB4
import Derived.Test.YteojekiocecdnaaGreatDoorGG
import Derived.Test.YteojekiocecdnaaGreatDoorHR
import Derived.Test.YteojekiocecdnaaGreatDoorBA
import Derived.Test.YteojekiocecdnaaGreatDoorGB
namespace Go.Proofs.YteojekiocecdnaaGreatDoor
open Go.RowKit NV
open Go.Lib (decDigits)

def bitsB (l : List UInt8) : Bool := l.all (fun c => c == 48 || c == 49)
theorem bitsB_iff {l : List UInt8} : bitsB l = true ↔ IsBits l := by
  unfold bitsB IsBits
  rw [List.all_eq_true]
  constructor
  · intro h c hc
    have := h c hc
    simpa using this
  · intro h c hc
    have := h c hc
    simpa using this
/-- What Check returns. -/
def bchk (l : List UInt8) : Nat := if bitsB l then 0 else 3
theorem bchk_yes {l : List UInt8} (h : IsBits l) : bchk l = 0 := if_pos (bitsB_iff.2 h)
theorem bchk_no {l : List UInt8} (h : ¬ IsBits l) : bchk l = 3 := if_neg (fun e => h (bitsB_iff.1 e))

set_option maxHeartbeats 1600000 in
theorem bCheck_any (s : ByteArray) (w : World) (hs : s.size ≤ 140737488351232) :
    Calls Tryz.prog 178 #[.string s] w fun e w' => e = .returned (.int .i64 ((bchk s.data.toList : Nat) : Int)) ∧ w = w' := by
  have HSZ := Lib.hid (Go.Lib.size_eq s)
  go_enter Tryz.func178, Tryz.ntmps178
  go_wp2_with fail
  go_loop [6] (fun i => ∃ k : Nat, k ≤ s.size ∧ i = .int .i64 (k : Int) ∧ Hid (IsBits (s.data.toList.take k))) (fun i => s.size - (intOf i).toNat)
  case atStart => exact ⟨0, Nat.zero_le _, rfl, Lib.hid (fun c h => by simp at h)⟩
  case round =>
    obtain ⟨k, hk, rfl, HN⟩ := hrel
    by_cases hlt : k < s.size
    · have hb := byte_at s k hlt
      have hlen : k < s.data.toList.length := by rw [← HSZ.out]; exact hlt
      have htk : s.data.toList.take (k + 1) = s.data.toList.take k ++ [s[k]] := by
        rw [List.take_add_one, hb]; rfl
      by_cases hc : s[k] = 48 ∨ s[k] = 49
      · have HN2 := Lib.hid (show IsBits (s.data.toList.take (k + 1)) from fun c h => by
          rw [htk] at h
          rcases List.mem_append.1 h with h | h
          · exact HN.out c h
          · rw [List.mem_singleton] at h; rw [h]; exact hc)
        clear hb htk
        rcases hc with hc | hc
        · have h48 : ((((s[k]).toNat : Nat) : Int) != 48) = false := by rw [hc]; rfl
          clear hc
          go_wp2_with fail
          go_round
          case rel => exact ⟨k + 1, by omega, by go_num, HN2⟩
          case measure => simp [intOf]; omega
        · have h48 : ((((s[k]).toNat : Nat) : Int) != 48) = true := by rw [hc]; rfl
          have h49 : ((((s[k]).toNat : Nat) : Int) != 49) = false := by rw [hc]; rfl
          clear hc
          go_wp2_with fail
          go_round
          case rel => exact ⟨k + 1, by omega, by go_num, HN2⟩
          case measure => simp [intOf]; omega
      · have h48 : ((((s[k]).toNat : Nat) : Int) != 48) = true := by
          rw [bne_iff_ne]; intro e; apply hc; left; apply UInt8.toNat_inj.1; show _ = 48; omega
        have h49 : ((((s[k]).toNat : Nat) : Int) != 49) = true := by
          rw [bne_iff_ne]; intro e; apply hc; right; apply UInt8.toNat_inj.1; show _ = 49; omega
        have HR := Lib.hid (show (3 : Int) = ((bchk s.data.toList : Nat) : Int) by
          rw [bchk_no (fun h => hc (h s[k] (by
            have := List.getElem?_eq_some_iff.1 hb
            obtain ⟨h1, h2⟩ := this
            rw [← h2]; exact List.getElem_mem h1)))]; rfl)
        clear hb htk hc
        go_wp2_with fail
        go_ret
        exact ⟨ret_int HR.out, rfl⟩
    · obtain rfl : k = s.size := by omega
      have HR := Lib.hid (show (0 : Int) = ((bchk s.data.toList : Nat) : Int) by
        rw [bchk_yes (by have := HN.out; rw [HSZ.out, List.take_length] at this; exact this)]; rfl)
      go_wp2_with fail
      go_ret
      exact ⟨ret_int HR.out, rfl⟩

/-- What checkShort returns. -/
def schk (s : ByteArray) : Nat := if bchk s.data.toList ≠ 0 then 3 else if 256 < s.size then 4 else 0

set_option maxHeartbeats 1600000 in
theorem checkShort_any (s : ByteArray) (w : World) (hs : s.size ≤ 140737488351232) :
    Calls Tryz.prog 117 #[.string s] w fun e w' => e = .returned (.int .i64 ((schk s : Nat) : Int)) ∧ w = w' := by
  have HC := Lib.hid (bCheck_any s w hs)
  by_cases hb : IsBits s.data.toList
  · rw [bchk_yes hb] at HC
    by_cases hz : 256 < s.size
    · have HR := Lib.hid (show (4 : Int) = ((schk s : Nat) : Int) by unfold schk; rw [bchk_yes hb, if_neg (by omega), if_pos hz]; rfl)
      clear hb
      go_enter Tryz.func117, Tryz.ntmps117
      go_wp2_with fail
      refine HC.out.mono ?_
      rintro e w1 ⟨rfl, rfl⟩
      clear HC
      go_wp2_with fail
      go_ret
      exact ⟨ret_int HR.out, rfl⟩
    · have HR := Lib.hid (show (0 : Int) = ((schk s : Nat) : Int) by unfold schk; rw [bchk_yes hb, if_neg (by omega), if_neg hz]; rfl)
      clear hb
      go_enter Tryz.func117, Tryz.ntmps117
      go_wp2_with fail
      refine HC.out.mono ?_
      rintro e w1 ⟨rfl, rfl⟩
      clear HC
      go_wp2_with fail
      go_ret
      exact ⟨ret_int HR.out, rfl⟩
  · rw [bchk_no hb] at HC
    have HR := Lib.hid (show (3 : Int) = ((schk s : Nat) : Int) by unfold schk; rw [bchk_no hb, if_pos (by omega)]; rfl)
    clear hb
    go_enter Tryz.func117, Tryz.ntmps117
    go_wp2_with fail
    refine HC.out.mono ?_
    rintro e w1 ⟨rfl, rfl⟩
    clear HC
    go_wp2_with fail
    go_ret
    exact ⟨ret_int HR.out, rfl⟩

theorem schk_ok {s : ByteArray} (hb : IsBits s.data.toList) (hs : s.size ≤ 256) : schk s = 0 := by
  unfold schk; rw [bchk_yes hb, if_neg (by omega), if_neg (by omega)]

open Go.RowKit NV
open Go.Lib (decDigits)

/-- Block g is an array of N texts: f. -/
def SArr (w : World) (g N : Nat) (f : Nat → ByteArray) : Prop :=
  ∃ cur, w.heap[g]? = some (.cells cur 23 (0, 0)) ∧ cur.size = N ∧ ∀ j, j < N → cur[j]? = some (.string (f j))

theorem SArr.cell {w : World} {g N : Nat} {f : Nat → ByteArray} (h : SArr w g N f) {j : Nat} (hj : j < N) : w.cell? ⟨g, j, none⟩ = some (.string (f j)) := by
  obtain ⟨cur, h1, h2, h3⟩ := h
  rw [cell_of_row w g j cur _ _ h1]
  exact h3 j hj
theorem SArr.free {w : World} {g N : Nat} {f : Nat → ByteArray} (h : SArr w g N f) (j : Nat) : w.frozen? ⟨g, j, none⟩ = false := by
  obtain ⟨cur, h1, h2, h3⟩ := h
  exact frozen_of_row w g j cur _ h1
theorem SArr.lt {w : World} {g N : Nat} {f : Nat → ByteArray} (h : SArr w g N f) : g < w.heap.size := by
  obtain ⟨cur, h1, _⟩ := h
  exact (Array.getElem?_eq_some_iff.1 h1).1
theorem SArr.below {w w' : World} {g N : Nat} {f : Nat → ByteArray} (h : SArr w g N f) {B : Nat} (hb : Below B w w') (hg : g < B) : SArr w' g N f := by
  obtain ⟨cur, h1, h2, h3⟩ := h
  exact ⟨cur, (hb.block g hg).trans h1, h2, h3⟩
theorem SArr.store {w : World} {g N : Nat} {f : Nat → ByteArray} (h : SArr w g N f) (i : Nat) (x : ByteArray) : SArr (w.setCell ⟨g, i, none⟩ (.string x)) g N (fun j => if j = i then x else f j) := by
  obtain ⟨cur, h1, h2, h3⟩ := h
  refine ⟨cur.setIfInBounds i (.string x), heap_setCell_same w g i cur _ _ h1, by simpa using h2, fun j hj => ?_⟩
  rw [Array.getElem?_setIfInBounds]
  by_cases e : i = j
  · subst e
    rw [if_pos rfl, if_pos (by omega)]
    show _ = some (Value.string (if i = i then x else f i))
    rw [if_pos rfl]
  · rw [if_neg e]
    show _ = some (Value.string (if j = i then x else f j))
    rw [if_neg (fun h => e h.symm)]
    exact h3 j hj
theorem SArr.made {w : World} {base g N : Nat} (h : w.ownsRow base 23 1 (.slice (some ⟨g, 0, none⟩) N N) N (madeCells (Value.string ⟨#[]⟩).cells (N * 1)).toList) : SArr w g N (fun _ => ⟨#[]⟩) := by
  rcases h.2 with ⟨h', _⟩ | ⟨g', cap', cur, h', hb, hg, hnc, hcm, hcs, htake⟩
  · simp at h'
  · simp only [Value.slice.injEq, Option.some.injEq, Addr.mk.injEq, and_true, true_and] at h'
    obtain ⟨rfl, rfl⟩ := h'
    refine ⟨cur, hg, by omega, fun j hj => ?_⟩
    have e : (cur.toList.take (N * 1))[j]? = some (.string ⟨#[]⟩) := by
      rw [htake, Nat.mul_one]
      show (madeCells #[Value.string ⟨#[]⟩] N).toList[j]? = _
      rw [toList_madeCells_one, List.getElem?_replicate, if_pos hj]
    rw [List.getElem?_take, if_pos (by omega)] at e
    simpa using e

theorem infoBits : (Tryz.prog.info? 23).map (fun i => (i.zero, i.size, i.bytes)) = some (some (.string ⟨#[]⟩), 1, 16) := by kernel_rfl

/-- The text of the last n digits of k. -/
def wstr (k n : Nat) : ByteArray := ⟨(wbits k n).toArray⟩

end Go.Proofs.YteojekiocecdnaaGreatDoor
