/-
  lives of layer 3; All of other numbers.
-/
import Derived.Test.YtgeohcpmoleocaaGreatDoorB9
namespace Go.Proofs.YtgeohcpmoleocaaGreatDoor
open Go.RowKit NV
open Go.Lib (decDigits)

def q58 : Rat := ⟨5, 8, by decide, by decide⟩
def q18 : Rat := ⟨1, 8, by decide, by decide⟩
theorem s58 : qstr q58 = ⟨#[53, 47, 56]⟩ := (frac_str false 5 8 (by omega) (by omega) (by omega)).trans rfl
theorem s18 : qstr q18 = ⟨#[49, 47, 56]⟩ := (frac_str false 1 8 (by omega) (by omega) (by omega)).trans rfl
theorem c58 : cQ 5 3 = q58 := by decide +kernel
theorem c18 : cQ 1 3 = q18 := by decide +kernel

theorem bits101 : IsBits (⟨#[49, 48, 49]⟩ : ByteArray).data.toList := by
  intro c hc
  simp at hc
  rcases hc with rfl | rfl | rfl <;> simp

theorem lit4 (w : World) : SArr (w.alloc (.cells #[.string ⟨#[48, 48]⟩, .string ⟨#[48, 49]⟩, .string ⟨#[49, 48]⟩, .string ⟨#[49, 49]⟩] 38)) w.heap.size 4 (fun j => wstr j 2) := by
  refine ⟨_, heap_alloc_new w _, rfl, fun j hj => ?_⟩
  match j, hj with
  | 0, _ => rfl
  | 1, _ => rfl
  | 2, _ => rfl
  | 3, _ => rfl

set_option maxHeartbeats 3200000 in
set_option maxRecDepth 100000 in
theorem lives3_any (w : World) (htab : Tab w) : Calls Tryz.prog 38 #[] w fun e w' => e = .returned (.bool true) ∧ Below w.heap.size w w' := by
  have hc := Cell_ok bits101 (by decide) w htab
  rw [show bv (⟨#[49, 48, 49]⟩ : ByteArray).data.toList = 5 from rfl, show (⟨#[49, 48, 49]⟩ : ByteArray).size = 3 from rfl, c58, c18] at hc
  have HC := Lib.hid hc
  have HA := Lib.hid (fun W => All_any 2 (by omega) W)
  have e1 := lit_eq [53, 47, 56] (qstr q58) (by rw [s58])
  have e2 := lit_eq [49, 47, 56] (qstr q18) (by rw [s18])
  generalize qstr q58 = t1 at *
  generalize qstr q18 = t2 at *
  clear htab hc
  go_enter Tryz.func38, Tryz.ntmps38
  go_wp2_with fail
  refine HC.out.mono ?_
  rintro e w1 ⟨rfl, hb1⟩
  have HB := Lib.hid hb1
  clear hb1 HC
  go_wp2_with fail
  refine (HA.out _).mono ?_
  rintro e w2 ⟨g, rfl, hg, har, hb2⟩
  have HAR := Lib.hid har
  have hb3 := HB.out.trans (hb2.mono HB.out.size)
  have hal : Below w2.heap.size w2 (w2.alloc (.cells #[.string ⟨#[48, 48]⟩, .string ⟨#[48, 49]⟩, .string ⟨#[49, 48]⟩, .string ⟨#[49, 49]⟩] 38)) := (Below.refl _ _).alloc (Nat.le_refl _) _
  have HS := Lib.hid (Same_yes (c1 := 4) (c2 := 4) (har.below hal har.lt) (lit4 w2) (by omega))
  replace HB := Lib.hid (hb3.trans (hal.mono hb3.size))
  clear hg har hb2 hb3 hal HA HAR
  go_wp2_with fail
  refine HS.out.mono ?_
  rintro e w3 ⟨rfl, hb⟩
  replace HB := Lib.hid (HB.out.trans (hb.mono HB.out.size))
  clear hb HS
  go_wp2_with fail
  go_ret
  exact ⟨rfl, HB.out⟩

set_option maxHeartbeats 800000 in
theorem All_no (n : Int) (hn : n < 0 ∨ 12 < n) (w : World) :
    Calls Tryz.prog 41 #[.int .i64 n] w fun e w' => e = .returned (.tuple #[.slice none 0 0, .int .i64 2]) ∧ w = w' := by
  rcases hn with h | h
  · go_enter Tryz.func41, Tryz.ntmps41
    go_wp2_with fail
    go_ret2
    exact ⟨rfl, rfl⟩
  · have h0 : ¬ n < 0 := by omega
    go_enter Tryz.func41, Tryz.ntmps41
    go_wp2_with fail
    go_ret2
    exact ⟨rfl, rfl⟩

end Go.Proofs.YtgeohcpmoleocaaGreatDoor
