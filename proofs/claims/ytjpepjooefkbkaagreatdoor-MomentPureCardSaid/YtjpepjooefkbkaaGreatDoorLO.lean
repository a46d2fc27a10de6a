/-
  LossOrder is walked.
-/
import Derived.Test.YtjpepjooefkbkaaGreatDoorLB
namespace Go.Proofs.YtjpepjooefkbkaaGreatDoor
section
open Go.RowKit NV
theorem mxQ_okA {p q : Rat} (hp : QOk p) (hq : QOk q) : QOk (mxQ p q) := by
 unfold mxQ
 split
 ·exact hp
 ·exact hq
theorem LQ.max {F D G E : Rat} (ha : LQ F D) (hb : LQ G E) : LQ (mxQ F G) (mxQ D E) := by
 have h1 := ha.f1
 have h2 := ha.d0
 have h3 := ha.d1
 have h4 := hb.f1
 have h5 := hb.d0
 have h6 := hb.d1
 refine ⟨mxQ_okA ha.okF hb.okF, mxQ_okA ha.okD hb.okD, ?_, ?_, ?_⟩ <;> unfold mxQ <;> grind
end
section
open Go.RowKit NV
end
section
open Go.RowKit NV
structure LZ (F D : Rat) : Prop extends LQ F D where
 zF : Sz 100 F
 zD : Sz 100 D
theorem LQ.add {F D G E : Rat} (ha : LQ F D) (hb : LQ G E) (h1 : QOk (F * G)) (h2 : QOk (D + E)) : LQ (F * G) (mn1 (D + E)) := by
 have a1 := ha.f1
 have a2 := ha.d0
 have b1 := hb.f1
 have b2 := hb.d0
 refine ⟨h1, mn1_ok h2, ?_, mn1_nn (by grind), mn1_le⟩
 have h := Rat.mul_nonneg (show 0 ≤ F - 1 by grind) (show 0 ≤ G - 1 by grind)
 have e : (F - 1) * (G - 1) = F * G - F - G + 1 := by grind
 rw [e] at h
 grind
end
section
open Go.RowKit NV
end
section
open Go.RowKit NV
end
end Go.Proofs.YtjpepjooefkbkaaGreatDoor
