/-
  The contract of divide.
-/
import Derived.Test.YtiocehlefpbbhaaGreatDoorW17
import Derived.Test.YtiocehlefpbbhaaGreatDoorM5
namespace Go.Proofs.YtiocehlefpbbhaaGreatDoor
open Go.RowKit NV

theorem Arr.kept {w w' : World} {g N h R : Nat} {f : Nat → Nat} (ha : Arr w g N f) (hk : Kept h R w w') (hR : g < R) (hg : g ≠ h) : Arr w' g N f := by
  obtain ⟨cur, h1, h2, h3⟩ := ha
  exact ⟨cur, (hk.block g hR hg).trans h1, h2, h3⟩

theorem Arr.one {w : World} (r : Nat) (hr : r < 1000000000) : Arr (w.alloc (.cells #[.int .u64 (r : Int)] 65)) w.heap.size 1 (dg r) := by
  refine ⟨#[.int .u64 (r : Int)], heap_alloc_new w _, rfl, fun j hj => ?_⟩
  obtain rfl : j = 0 := by omega
  have : dg r 0 = r := by rw [dg, B_eq]; simp; omega
  rw [this]; rfl

set_option maxHeartbeats 1600000 in
set_option maxRecDepth 100000 in
theorem divide_less {w : World} {x y : Value} {a b : Nat} (hx : Num w x a) (hy : Num w y b) (ha : ln a ≤ 1000000) (hb : ln b ≤ 1000000) (hab : a < b) :
    Calls Tryz.prog 39 #[x, y] w fun e w' => e = .returned (.tuple #[.slice none 0 0, x]) ∧ Below w.heap.size w w' := by
  have HL := Lib.hid (ncmp_any hx hy (by omega) (by omega))
  have hlow := cmpN_low hab
  obtain ⟨xa, xc, rfl⟩ := slice_any hx
  obtain ⟨ya, yc, rfl⟩ := slice_any hy
  clear hx hy hab
  go_enter Tryz.func39, Tryz.ntmps39
  go_wp2_with fail
  refine HL.out.mono ?_
  rintro e w1 ⟨rfl, hb1⟩
  have HB := Lib.hid hb1
  clear hb1
  go_wp2_with fail
  go_ret2
  exact ⟨rfl, HB.out⟩

set_option maxHeartbeats 1600000 in
set_option maxRecDepth 100000 in
theorem divide_one {w : World} {x y : Value} {a b : Nat} (hx : Num w x a) (hy : Num w y b) (ha : ln a ≤ 1000000) (hb : ln b = 1) (hab : b ≤ a) :
    Calls Tryz.prog 39 #[x, y] w fun e w' => ∃ q r, e = .returned (.tuple #[q, r]) ∧ Own w' w.heap.size q (a / b) ∧ Own w' w.heap.size r (a % b) ∧ Below w.heap.size w w' := by
  have HL := Lib.hid (ncmp_any hx hy (by omega) (by omega))
  have hhigh := cmpN_high hab
  have hblt := lt_pow_ln b
  have hb0 : b ≠ 0 := by intro e; subst e; rw [ln_zero] at hb; omega
  rw [hb, Nat.pow_one, B_eq] at hblt
  have hd0 : dg b 0 = b := by rw [dg, B_eq]; simp; omega
  obtain ⟨xb, xc, rfl, _, _⟩ := slice_form hx (by have := ln_mono hab; omega)
  obtain ⟨yb, yc, rfl, _, _⟩ := slice_form hy (by omega)
  have HX := Lib.hid hx
  have HY := Lib.hid hy
  have HB := Lib.hid hb
  have hbl : ln b ≤ 1 := by omega
  have hbl2 : 1 ≤ ln b := by omega
  have HD0 := Lib.hid hd0
  rw [hb] at HL ⊢
  obtain ⟨r, hr⟩ : ∃ r, r = a % b := ⟨_, rfl⟩
  have hrb : r < 1000000000 := by rw [hr]; exact Nat.lt_trans (Nat.mod_lt _ (by omega)) hblt
  rw [← hr]
  have HRM := Lib.hid hr
  clear hx hy hb hd0 hr
  go_enter Tryz.func39, Tryz.ntmps39
  go_wp2_with fail
  refine HL.out.mono ?_
  rintro e w1 ⟨rfl, hb1⟩
  have hx1 := HX.out.below hb1
  have c0 := (HY.out.below hb1).cell (j := 0) (by omega)
  rw [HD0.out] at c0
  have hds := divideSmall_any hx1 (by omega) (show 1 ≤ b by omega) hblt
  rw [← HRM.out] at hds
  have HC := Lib.hid hds
  have HB1 := Lib.hid hb1
  clear hb1 hx1 HL hds
  go_wp2_with fail
  refine HC.out.mono ?_
  rintro e w2 ⟨v, rfl, hq, hb2⟩
  obtain ⟨qg, qc, rfl⟩ := hq.1
  have HQ := Lib.hid hq
  have HB2 := Lib.hid (HB1.out.trans (hb2.mono HB1.out.size))
  have hsz := HB1.out.size
  have hsz2 := HB2.out.size
  clear hq hb2 HC c0
  go_wp2_with fail
  have harr := Arr.one (w := w2) r hrb
  have hbe : Below w2.heap.size w2 (w2.alloc (.cells #[.int .u64 (r : Int)] 65)) := (Below.refl _ _).alloc (Nat.le_refl _) _
  have hq3 := HQ.out.below hbe
  have hrl : r < B ^ 1 := by rw [Nat.pow_one, B_eq]; exact hrb
  have hcl : ∀ j, j < 1 → (w2.alloc (.cells #[.int .u64 (r : Int)] 65)).cell? ⟨w2.heap.size, j, none⟩ = some (.int .u64 ((dg (r) j : Nat) : Int)) := fun j hj => harr.cell hj
  have HB3 := Lib.hid (HB2.out.trans (hbe.mono HB2.out.size))
  have HR := Lib.hid (show Own (w2.alloc (.cells #[.int .u64 (r : Int)] 65)) w.heap.size (.slice (some ⟨w2.heap.size, 0, none⟩) (ln (r)) 1) (r) from harr.own hsz2 (by omega) (ln_le hrl) (fun j _ => rfl))
  have HQ3 := Lib.hid (hq3.mono hsz)
  have HT := Lib.hid (trim_any (c := 1) (by omega) (Nat.le_refl _) hrl hcl)
  clear harr hbe hq3 hcl hrl HQ HB2
  refine HT.out.mono ?_
  rintro e w3 ⟨rfl, rfl⟩
  go_wp2_with fail
  go_ret2
  exact ⟨_, _, rfl, HQ3.out, HR.out, HB3.out⟩

end Go.Proofs.YtiocehlefpbbhaaGreatDoor
