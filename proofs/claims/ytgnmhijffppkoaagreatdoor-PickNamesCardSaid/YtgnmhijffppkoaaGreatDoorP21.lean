/-
  rat's withOne and withTwo of ints.
-/
import Derived.Test.YtgnmhijffppkoaaGreatDoorHI
namespace Go.Proofs.YtgnmhijffppkoaaGreatDoor
open Go.RowKit NV

set_option maxHeartbeats 1600000 in
/-- withOne returns the error of the text. -/
theorem withOne_errI (fv : Value) (s : ByteArray) (w : World) (hs : s.size ≤ 1000000) (hm : ML w) (h0 : rchk s ≠ 0) :
    Calls Tryz.prog 208 #[.string s, fv] w fun e w' => e = .returned (.tuple #[.int .i64 0, .int .i64 ((rchk s : Nat) : Int)]) ∧ Below w.heap.size w w' := by
  have HR := Lib.hid (read_any s w hs hm)
  have hz : (((rchk s : Nat) : Int) != 0) = true := by rw [bne_iff_ne]; omega
  clear hm h0
  go_enter Tryz.func208, Tryz.ntmps208
  go_wp2_with fail
  refine HR.out.mono ?_
  rintro e w1 ⟨⟨m, a1, L1, k1, a2, L2, k2, rfl, -⟩, hb⟩
  have HB := Lib.hid (hb.alloc hb.size (.cells #[.bool m, .slice a1 L1 k1, .slice a2 L2 k2] 167))
  clear hb HR
  go_wp2_with fail
  go_ret2
  exact ⟨rfl, HB.out⟩

set_option maxHeartbeats 3200000 in
/-- withOne returns what the function makes of the number. -/
theorem withOne_okI (g : Nat) (lb : Array Value) (eg : ∀ args w, (callFunc g args).run Tryz.prog w = .ok (.enter g args) w) (s : ByteArray) (w : World) (hs : s.size ≤ 1000000) (hm : ML w) (h0 : rchk s = 0) (r1 r2 : Value)
    (hp : ∀ W v, Below w.heap.size w W → FNum W v (minusB (numS s)) (dv (restS (numS s)).data.toList) (dv (denS s).data.toList) → Calls Tryz.prog g (#[v] ++ lb) W fun e w' => e = .returned (.tuple #[r1, r2]) ∧ Below W.heap.size W w') :
    Calls Tryz.prog 208 #[.string s, .func (.func g) #[] lb] w fun e w' => e = .returned (.tuple #[r1, r2]) ∧ Below w.heap.size w w' := by
  have HR := Lib.hid (read_any s w hs hm)
  have hz : (((rchk s : Nat) : Int) != 0) = false := by rw [h0]; rfl
  have HP := Lib.hid hp
  have H0 := Lib.hid h0
  clear hm h0 hp
  go_enter Tryz.func208, Tryz.ntmps208
  go_wp2_with fail
  refine HR.out.mono ?_
  rintro e w1 ⟨⟨m, a1, L1, k1, a2, L2, k2, rfl, hn⟩, hb⟩
  obtain ⟨hm, hn1, hn2⟩ := hn H0.out
  have hb2 : Below w1.heap.size w1 (w1.alloc (.cells #[.bool m, .slice a1 L1 k1, .slice a2 L2 k2] 167)) := (Below.refl _ _).alloc (Nat.le_refl _) _
  have HB := Lib.hid (hb.alloc hb.size (.cells #[.bool m, .slice a1 L1 k1, .slice a2 L2 k2] 167))
  have HC := Lib.hid (HP.out (w1.alloc (.cells #[.bool m, .slice a1 L1 k1, .slice a2 L2 k2] 167)) (.agg #[.bool m, .slice a1 L1 k1, .slice a2 L2 k2]) HB.out ⟨_, _, by rw [hm], hn1.below hb2, hn2.below hb2⟩)
  clear hb HR HP hm hn1 hn2 hb2 hn
  go_wp2_with fail
  have HB2 := HB
  go_wp2_with (go_at_fn g; refine HC.out.mono ?_; rintro e w2 ⟨rfl, hb⟩)
  go_ret2
  exact ⟨rfl, HB2.out.trans (hb.mono HB2.out.size)⟩

/-- Block b holds a text. -/
def TxI (w : World) (b : Nat) (t : ByteArray) : Prop := w.heap[b]? = some (.cells #[.string t] 23 (0, 0))
theorem TxI.keep {w w' : World} {b : Nat} {t : ByteArray} (hf : TxI w b t) (hb : Below w.heap.size w w') : TxI w' b t := (hb.block _ (Array.getElem?_eq_some_iff.1 hf).1).trans hf
theorem TxI.c0 {w : World} {b : Nat} {t : ByteArray} (hf : TxI w b t) : w.cell? ⟨b, 0, none⟩ = some (.string t) := by rw [Lib.cell_of_heap hf]; rfl

end Go.Proofs.YtgnmhijffppkoaaGreatDoor
