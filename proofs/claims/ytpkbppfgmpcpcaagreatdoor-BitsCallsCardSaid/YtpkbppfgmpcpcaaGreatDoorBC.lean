/-
  Cell; Same of lists of bit strings; lives of layer 3. lives of layer 3; All of other numbers.
-/
import Derived.Test.YtpkbppfgmpcpcaaGreatDoorBB
import Derived.Test.YtpkbppfgmpcpcaaGreatDoorHL
import Derived.Deep.QuietTactic
import Derived.BigQuiet
namespace Go.Proofs.YtpkbppfgmpcpcaaGreatDoor
open Go.RowKit NV
open Go.Lib (decDigits)

theorem Ok.le {a b : Nat} (h : Ok b) (hab : a ≤ b) : Ok a := h.mono hab
theorem qok_mk {m : Bool} {k d : Nat} (hk : Ok k) (hd : Ok d) (h0 : d ≠ 0) : QOk (mkQ m k d) := by
  obtain ⟨h1, h2, _⟩ := red_parts m k h0
  exact ⟨by rw [h1]; exact hk.le (Nat.div_le_self _ _), by rw [h2]; exact hd.le (Nat.div_le_self _ _)⟩

/-- The fraction k / 2^n. -/
def cQ (k n : Nat) : Rat := mkQ false k (2 ^ n)
theorem cQ_ok {k n : Nat} (hn : n ≤ 256) (hk : k ≤ 2 ^ n) : QOk (cQ k n) :=
  qok_mk (ok_two (n := n) (by omega) hk) (ok_two (n := n) (by omega) (Nat.le_refl _)) (Nat.pos_iff_ne_zero.1 (Nat.pow_pos (by omega)))

theorem makeC {k n : Nat} (hn : n ≤ 256) (hk : k ≤ 2 ^ n) (w : World) (htab : Tab w) :
    Calls Tryz.prog 94 #[.string (dstr k), .string (dstr (2 ^ n))] w fun e w' => e = .returned (.tuple #[.string (qstr (cQ k n)), .int .i64 0]) ∧ Below w.heap.size w w' :=
  rq_done (r := cQ k n) (Make_q (m := false) (ok_two (n := n) (by omega) hk) (ok_two (n := n) (by omega) (Nat.le_refl _)) (Nat.pos_iff_ne_zero.1 (Nat.pow_pos (by omega))) (by simp) w htab) rfl (cQ_ok hn hk)

set_option maxHeartbeats 1600000 in
theorem Cell_ok {s : ByteArray} (hb : IsBits s.data.toList) (hs : s.size ≤ 256) (w : World) (htab : Tab w) :
    Calls Tryz.prog 17 #[.string s] w fun e w' => e = .returned (.tuple #[.string (qstr (cQ (bv s.data.toList) s.size)), .string (qstr (cQ 1 s.size)), .int .i64 0]) ∧ Below w.heap.size w w' := by
  have hlen : s.data.toList.length = s.size := (Go.Lib.size_eq s).symm
  have hlt := bv_lt _ hb
  rw [hlen] at hlt
  have hc := checkShort_any s w (by omega)
  rw [schk_ok hb hs] at hc
  have HC := Lib.hid hc
  have HP := Lib.hid (power_n s.size hs w htab)
  have HN := Lib.hid (fun W (h : Below w.heap.size w W) => number_any hb hs W (htab.below h))
  have HM := Lib.hid (fun W (h : Below w.heap.size w W) => makeC hs (Nat.le_of_lt hlt) W (htab.below h))
  have hm1 := fun W (h : Below w.heap.size w W) => makeC (k := 1) hs (Nat.one_le_two_pow) W (htab.below h)
  rw [← one_str] at hm1
  have HM1 := Lib.hid hm1
  generalize qstr (cQ (bv s.data.toList) s.size) = t1 at *
  generalize qstr (cQ 1 s.size) = t2 at *
  generalize dstr (bv s.data.toList) = t3 at *
  generalize dstr (2 ^ s.size) = t4 at *
  clear hb hlen hlt hc hm1 htab
  go_enter Tryz.func17, Tryz.ntmps17
  go_wp2_with fail
  refine HC.out.mono ?_
  rintro e w1 ⟨rfl, rfl⟩
  clear HC
  go_wp2_with fail
  refine HP.out.mono ?_
  rintro e w2 ⟨rfl, hb⟩
  have HB := Lib.hid hb
  clear hb HP
  go_wp2_with fail
  refine (HN.out _ HB.out).mono ?_
  rintro e w3 ⟨rfl, hb⟩
  replace HB := Lib.hid (HB.out.trans (hb.mono HB.out.size))
  clear hb HN
  go_wp2_with fail
  refine (HM.out _ HB.out).mono ?_
  rintro e w4 ⟨rfl, hb⟩
  replace HB := Lib.hid (HB.out.trans (hb.mono HB.out.size))
  clear hb HM
  go_wp2_with fail
  refine (HM1.out _ HB.out).mono ?_
  rintro e w5 ⟨rfl, hb⟩
  replace HB := Lib.hid (HB.out.trans (hb.mono HB.out.size))
  clear hb HM1
  go_wp2_with fail
  go_ret3
  exact ⟨rfl, HB.out⟩

set_option maxHeartbeats 1600000 in
set_option maxRecDepth 100000 in
theorem Same_yes {w : World} {g h N c1 c2 : Nat} {f : Nat → ByteArray} (hg : SArr w g N f) (hh : SArr w h N f) (hN : N ≤ 1000000) :
    Calls Tryz.prog 29 #[.slice (some ⟨g, 0, none⟩) N c1, .slice (some ⟨h, 0, none⟩) N c2] w fun e w' => e = .returned (.bool true) ∧ Below w.heap.size w w' := by
  have HG := Lib.hid hg
  have HH := Lib.hid hh
  clear hg hh
  go_enter Tryz.func29, Tryz.ntmps29
  go_wp2_with fail
  go_loopw [5] (fun i wr => ∃ k : Nat, k ≤ N ∧ i = .int .i64 (k : Int) ∧ Below w.heap.size w wr) (fun i _ => N - (intOf i).toNat)
  case atStart => exact ⟨0, Nat.zero_le _, rfl, Below.refl _ _⟩
  case round =>
    obtain ⟨k, hk, rfl, hbr⟩ := hrel
    by_cases hlt : k < N
    · have c1 := (HG.out.below hbr HG.out.lt).cell hlt
      have c2 := (HH.out.below hbr HH.out.lt).cell hlt
      have hne : (!((f k).toList == (f k).toList)) = false := by simp
      have HB := Lib.hid hbr
      clear hbr
      generalize f k = t at c1 c2 hne
      go_wp2_with fail
      go_quiet (fail)
      go_wp2_with fail
      go_roundw
      case rel => exact ⟨k + 1, by omega, by go_num, below_drewN HB.out _⟩
      case measure => simp [intOf]; omega
    · have HB := Lib.hid hbr
      clear hbr
      go_wp2_with fail
      go_ret
      exact ⟨rfl, HB.out⟩

open Go.RowKit NV
open Go.Lib (decDigits)

def q58 : Rat := ⟨5, 8, by decide, by decide⟩
def q18 : Rat := ⟨1, 8, by decide, by decide⟩
theorem s58 : qstr q58 = ⟨#[53, 47, 56]⟩ := (frac_str false 5 8 (by omega) (by omega) (by omega)).trans rfl
theorem s18 : qstr q18 = ⟨#[49, 47, 56]⟩ := (frac_str false 1 8 (by omega) (by omega) (by omega)).trans rfl
theorem c58 : cQ 5 3 = q58 := by decide +kernel
theorem c18 : cQ 1 3 = q18 := by decide +kernel

theorem bits101 : IsBits (⟨#[49, 48, 49]⟩ : ByteArray).data.toList := by
  intro c hc
  simp at hc
  rcases hc with rfl | rfl | rfl <;> simp

theorem lit4 (w : World) : SArr (w.alloc (.cells #[.string ⟨#[48, 48]⟩, .string ⟨#[48, 49]⟩, .string ⟨#[49, 48]⟩, .string ⟨#[49, 49]⟩] 22)) w.heap.size 4 (fun j => wstr j 2) := by
  refine ⟨_, heap_alloc_new w _, rfl, fun j hj => ?_⟩
  match j, hj with
  | 0, _ => rfl
  | 1, _ => rfl
  | 2, _ => rfl
  | 3, _ => rfl

set_option maxHeartbeats 3200000 in
set_option maxRecDepth 100000 in
theorem lives3_any (w : World) (htab : Tab w) : Calls Tryz.prog 14 #[] w fun e w' => e = .returned (.bool true) ∧ Below w.heap.size w w' := by
  have hc := Cell_ok bits101 (by decide) w htab
  rw [show bv (⟨#[49, 48, 49]⟩ : ByteArray).data.toList = 5 from rfl, show (⟨#[49, 48, 49]⟩ : ByteArray).size = 3 from rfl, c58, c18] at hc
  have HC := Lib.hid hc
  have HA := Lib.hid (fun W => All_any 2 (by omega) W)
  have e1 := lit_eq [53, 47, 56] (qstr q58) (by rw [s58])
  have e2 := lit_eq [49, 47, 56] (qstr q18) (by rw [s18])
  generalize qstr q58 = t1 at *
  generalize qstr q18 = t2 at *
  clear htab hc
  go_enter Tryz.func14, Tryz.ntmps14
  go_wp2_with fail
  refine HC.out.mono ?_
  rintro e w1 ⟨rfl, hb1⟩
  have HB := Lib.hid hb1
  clear hb1 HC
  go_wp2_with fail
  refine (HA.out _).mono ?_
  rintro e w2 ⟨g, rfl, hg, har, hb2⟩
  have HAR := Lib.hid har
  have hb3 := HB.out.trans (hb2.mono HB.out.size)
  have hal : Below w2.heap.size w2 (w2.alloc (.cells #[.string ⟨#[48, 48]⟩, .string ⟨#[48, 49]⟩, .string ⟨#[49, 48]⟩, .string ⟨#[49, 49]⟩] 22)) := (Below.refl _ _).alloc (Nat.le_refl _) _
  have HS := Lib.hid (Same_yes (c1 := 4) (c2 := 4) (har.below hal har.lt) (lit4 w2) (by omega))
  replace HB := Lib.hid (hb3.trans (hal.mono hb3.size))
  clear hg har hb2 hb3 hal HA HAR
  go_wp2_with fail
  refine HS.out.mono ?_
  rintro e w3 ⟨rfl, hb⟩
  replace HB := Lib.hid (HB.out.trans (hb.mono HB.out.size))
  clear hb HS
  go_wp2_with fail
  go_ret
  exact ⟨rfl, HB.out⟩

set_option maxHeartbeats 800000 in
theorem All_no (n : Int) (hn : n < 0 ∨ 12 < n) (w : World) :
    Calls Tryz.prog 87 #[.int .i64 n] w fun e w' => e = .returned (.tuple #[.slice none 0 0, .int .i64 2]) ∧ w = w' := by
  rcases hn with h | h
  · go_enter Tryz.func87, Tryz.ntmps87
    go_wp2_with fail
    go_ret2
    exact ⟨rfl, rfl⟩
  · have h0 : ¬ n < 0 := by omega
    go_enter Tryz.func87, Tryz.ntmps87
    go_wp2_with fail
    go_ret2
    exact ⟨rfl, rfl⟩

end Go.Proofs.YtpkbppfgmpcpcaaGreatDoor
