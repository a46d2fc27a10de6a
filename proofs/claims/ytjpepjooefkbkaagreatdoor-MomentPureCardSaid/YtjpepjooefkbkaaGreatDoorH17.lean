/-
  The law's curve where all moments are numbers.
-/
import Derived.Test.YtjpepjooefkbkaaGreatDoorH16
import Derived.WalkSmall
namespace Go.Proofs.YtjpepjooefkbkaaGreatDoor
open Go.RowKit NV Go.Maps Go.Sort Go.Shelf
open Go.Lib (decDigits)
set_option maxHeartbeats 12800000 in
set_option maxRecDepth 100000 in
theorem curve_yes {P Q : List MI} {N M c1 c2 : Nat} {a1 a2 : Option Addr} {w : World} (hp : MR w a1 N P) (hq : MR w a2 M Q) (hN : N ≤ 1000) (hM : M ≤ 1000) (hlp : ML2 P) (hlq : ML2 Q) (l1 : allZ P Q = true) (l2 : allZ Q P = true) (y1 : ∀ k : Nat, k < 7 → momE P Q ((k : Int) + 2) = (qstr (momQ P Q (k + 1)), true, 0) ∧ QOk (momQ P Q (k + 1))) (y2 : ∀ k : Nat, k < 7 → momE Q P ((k : Int) + 2) = (qstr (momQ Q P (k + 1)), true, 0) ∧ QOk (momQ Q P (k + 1))) :
  Calls Tryz.prog 11 #[.slice a1 N c1, .slice a2 M c2] w fun e w' => ∃ (c : Nat → ByteArray), e = .returned (.tuple #[.agg #[.string (c 0), .string (c 1), .string (c 2), .string (c 3), .string (c 4), .string (c 5), .string (c 6), .string (c 7)], .bool true]) ∧ c 7 = ⟨#[48]⟩ ∧ (∀ j, j < 7 → c j = qstr (curM P Q j)) ∧ Below w.heap.size w w' := by
 have HM1 := Lib.hid (fun W (hb : Below w.heap.size w W) (k : Nat) => rMoment_any (c1 := c1) (c2 := c2) (n := (k : Int) + 2) (hp.below hb) (hq.below hb) hN hM hlp hlq)
 have HM2 := Lib.hid (fun W (hb : Below w.heap.size w W) (k : Nat) => rMoment_any (c1 := c2) (c2 := c1) (n := (k : Int) + 2) (hq.below hb) (hp.below hb) hM hN hlq hlp)
 have Y1 := Lib.hid y1
 have Y2 := Lib.hid y2
 have HL := Lib.hid (And.intro l1 l2)
 clear y1 y2 l1 l2
 obtain ⟨V1, hV1⟩ : ∃ V1, V1 = w.alloc (.cells #[.string ⟨#[]⟩, .string ⟨#[]⟩, .string ⟨#[]⟩, .string ⟨#[]⟩, .string ⟨#[]⟩, .string ⟨#[]⟩, .string ⟨#[]⟩, .string ⟨#[]⟩] 35) := ⟨_, rfl⟩
 obtain ⟨V2, hV2⟩ : ∃ V2, V2 = V1.alloc (.cells #[.string ⟨#[]⟩, .string ⟨#[]⟩, .string ⟨#[]⟩, .string ⟨#[]⟩, .string ⟨#[]⟩, .string ⟨#[]⟩, .string ⟨#[]⟩, .string ⟨#[]⟩] 35) := ⟨_, rfl⟩
 obtain ⟨V3, hV3⟩ : ∃ V3, V3 = V1.alloc (.cells #[.string ⟨#[]⟩, .string ⟨#[]⟩, .string ⟨#[]⟩, .string ⟨#[]⟩, .string ⟨#[]⟩, .string ⟨#[]⟩, .string ⟨#[]⟩, .string ⟨#[48]⟩] 35) := ⟨_, rfl⟩
 have s1 : V1.heap.size = w.heap.size + 1 := by rw [hV1]; simp
 have i1 : Below w.heap.size w V1 := by rw [hV1]; exact (Below.refl w.heap.size w).alloc (Nat.le_refl _) _
 have i2 : Below V1.heap.size V1 V2 := by rw [hV2]; exact (Below.refl _ V1).alloc (Nat.le_refl _) _
 have i3 : Below V1.heap.size V1 V3 := by rw [hV3]; exact (Below.refl _ V1).alloc (Nat.le_refl _) _
 have a1' : ARR V1 w.heap.size 8 35 (fun _ => ⟨#[]⟩) := by rw [hV1]; exact ARR.new8 (c := fun _ => ⟨#[]⟩)
 have a2' : ARR V2 (w.heap.size + 1) 8 35 (fun _ => ⟨#[]⟩) := by rw [hV2, ← s1]; exact ARR.new8 (c := fun _ => ⟨#[]⟩)
 have a3' : ARR V3 (w.heap.size + 1) 8 35 (fun j => if j = 7 then ⟨#[48]⟩ else ⟨#[]⟩) := by rw [hV3, ← s1]; exact ARR.new8 (c := fun j => if j = 7 then ⟨#[48]⟩ else ⟨#[]⟩)
 have HI := Lib.hid (show CurI P Q w 0 (fun j => if j = 7 then ⟨#[48]⟩ else ⟨#[]⟩) V3 from ⟨a3', a1'.below i3, rfl, fun j h => absurd h (Nat.not_lt_zero _), fun h => absurd rfl h, i1.trans (i3.mono i1.size)⟩)
 have e0 := a2'.cell (j := 0) (by omega)
 have e1 := a2'.cell (j := 1) (by omega)
 have e2 := a2'.cell (j := 2) (by omega)
 have e3 := a2'.cell (j := 3) (by omega)
 have e4 := a2'.cell (j := 4) (by omega)
 have e5 := a2'.cell (j := 5) (by omega)
 have e6 := a2'.cell (j := 6) (by omega)
 have e7 := a2'.cell (j := 7) (by omega)
 have z0 := a2'.free 0
 have z1 := a2'.free 1
 have z2 := a2'.free 2
 have z3 := a2'.free 3
 have z4 := a2'.free 4
 have z5 := a2'.free 5
 have z6 := a2'.free 6
 have z7 := a2'.free 7
 clear i1 i2 i3 a1' a2' a3' s1 hp hq hN hM hlp hlq
 subst hV3
 subst hV2
 subst hV1
 go_enter Tryz.func11, Tryz.ntmps11
 go_wp2_with fail
 clear e0 z0 e1 z1 e2 z2 e3 z3 e4 z4 e5 z5 e6 z6 e7 z7
 go_loopw [7] (fun iv wr => ∃ (k : Nat) (c : Nat → ByteArray), k ≤ 7 ∧ iv = .int .i64 (k : Int) ∧ Hid (CurI P Q w k c wr)) (fun iv _ => 7 - (intOf iv).toNat)
 case atStart => exact ⟨0, _, by omega, rfl, HI⟩
 case round =>
  obtain ⟨k, c, hk, rfl, HC⟩ := hrel
  clear HI
  by_cases hlt : k < 7
  ·have hki : (k : Int) < 7 := by omega
   have H1 := Lib.hid (HM1.out wr HC.out.bel k)
   obtain ⟨f1, o1⟩ := Y1.out k hlt
   obtain ⟨f2, o2⟩ := Y2.out k hlt
   rw [f1] at H1
   have H2 := Lib.hid (fun W hb => HM2.out W hb k)
   rw [f2] at H2
   have HM := Lib.hid (fun W => rMax_oQ (momQ P Q (k + 1)) (momQ Q P (k + 1)) o1 o2 W)
   have hcu : mxQ (momQ P Q (k + 1)) (momQ Q P (k + 1)) = curM P Q k := rfl
   rw [hcu] at HM
   generalize hs : qstr (curM P Q k) = s at *
   have HS := Lib.hid hs
   generalize qstr (momQ P Q (k + 1)) = y1 at *
   generalize qstr (momQ Q P (k + 1)) = y2 at *
   clear HM1 HM2 f1 f2 o1 o2 hcu hs Y1 Y2
   go_wp2_with fail
   refine H1.out.mono ?_
   rintro e w1 ⟨rfl, hb⟩
   have HC1 := Lib.hid (HC.out.keep hb)
   clear H1 hb HC
   go_wp2_with fail
   refine (H2.out _ HC1.out.bel).mono ?_
   rintro e w2 ⟨rfl, hb⟩
   have HC2 := Lib.hid (HC1.out.keep hb)
   clear H2 hb HC1
   go_wp2_with fail
   refine (HM.out _).mono ?_
   rintro e w3 ⟨rfl, hb⟩
   have hA := HC2.out.arr.below hb
   have hi := hA.cell (j := k) (by omega)
   have hf := hA.free k
   have HC3 := Lib.hid (HC2.out.keep hb)
   clear hb HM hA HC2
   go_wp2_with fail
   go_roundw
   case rel =>
    have hC := HC3.out
    have st : Ch (fun j => j = w.heap.size + 1) w3 (w3.setCell ⟨w.heap.size + 1, k, none⟩ (.string s)) := Ch.setCell _ _ _ rfl
    refine ⟨k + 1, fun j => if j = k then s else c j, by omega, by go_num, Lib.hid ⟨hC.arr.store k s, hC.res.ch st (by omega), ?_, fun j hj => ?_, fun _ => HL.out, hC.bel.setCell (by show w.heap.size ≤ w.heap.size + 1; omega) _⟩⟩
    ·show (if 7 = k then s else c 7) = _
     rw [if_neg (by omega)]
     exact hC.late
    ·show (if j = k then s else c j) = _
     by_cases e : j = k
     ·rw [if_pos e, e]; exact HS.out.symm
     ·rw [if_neg e]; exact hC.val j (by omega)
   case measure => simp [intOf]; omega
  ·obtain rfl : k = 7 := by omega
   have hA := HC.out.arr
   have hR := HC.out.res
   have d0 := hA.cell (j := 0) (by omega)
   have d1 := hA.cell (j := 1) (by omega)
   have d2 := hA.cell (j := 2) (by omega)
   have d3 := hA.cell (j := 3) (by omega)
   have d4 := hA.cell (j := 4) (by omega)
   have d5 := hA.cell (j := 5) (by omega)
   have d6 := hA.cell (j := 6) (by omega)
   have d7 := hA.cell (j := 7) (by omega)
   have e0 := hR.cell (j := 0) (by omega)
   have e1 := hR.cell (j := 1) (by omega)
   have e2 := hR.cell (j := 2) (by omega)
   have e3 := hR.cell (j := 3) (by omega)
   have e4 := hR.cell (j := 4) (by omega)
   have e5 := hR.cell (j := 5) (by omega)
   have e6 := hR.cell (j := 6) (by omega)
   have e7 := hR.cell (j := 7) (by omega)
   have z0 := hR.free 0
   have z1 := hR.free 1
   have z2 := hR.free 2
   have z3 := hR.free 3
   have z4 := hR.free 4
   have z5 := hR.free 5
   have z6 := hR.free 6
   have z7 := hR.free 7
   have HV := Lib.hid (And.intro HC.out.late HC.out.val)
   have HX := Lib.hid (And.intro (hR.put8 c).load8 (HC.out.bel.trans ((Ch.st8 (S := fun j => j = w.heap.size) wr c rfl).to_below HC.out.bel.size (fun j hj => by omega))))
   clear hA hR HC HM1 HM2 Y1 Y2 HL
   go_wp2_with fail
   refine bodyPost_ret (v := .tuple #[.agg #[.string (c 0), .string (c 1), .string (c 2), .string (c 3), .string (c 4), .string (c 5), .string (c 6), .string (c 7)], .bool true]) (by have h := HX.out.1; unfold st8 at h; simp [results, Tryz.results11, asAddr, h]) rfl ?_
   exact ⟨c, rfl, HV.out.1, HV.out.2, HX.out.2⟩
end Go.Proofs.YtjpepjooefkbkaaGreatDoor
