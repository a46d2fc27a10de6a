/-
  strings.Compare, isReserved, Name.
-/
import Derived.Test.YtgehldadfaonbaaDoorSB
import Derived.Lib.Strings
import Derived.Lib.Slices
import Derived.Lib.Walk
import Derived.Laws.Externs
import Derived.Shelf.Abstract
namespace Go.Proofs.YtgehldadfaonbaaDoor
open Go.RowKit Go.Shelf
open Go.Lib (compareBytes)

theorem below_drewN {B : Nat} {a w : World} (h : Below B a w) (n : Nat) : Below B a (w.drewN n) := ⟨h.os, h.tape, h.output, h.size, h.block⟩

set_option maxRecDepth 100000 in
theorem cmpS_any (a b : ByteArray) (w : World) : Calls Tryd.prog 89 #[.string a, .string b] w fun e w' => e = .returned (.int .i64 (compareBytes a.data.toList b.data.toList)) ∧ w' = w := by
  go_enter Tryd.func89, Tryd.ntmps89
  go_wp2
  rw [run_callFunc_extern Tryd.func97 (by kernel_rfl) (by kernel_rfl) (by kernel_rfl) (e := Extern.BytealgCompare.compare) (by kernel_rfl), Lib.run_compareString]
  simp only [Result.andThen]
  rw [Oper.upon_value]
  go_wp2
  go_ret
  exact ⟨rfl, rfl⟩
theorem compare_any (a b : ByteArray) (w : World) : Calls Tryd.prog 74 #[.string a, .string b] w fun e w' => e = .returned (.int .i64 (compareBytes a.data.toList b.data.toList)) ∧ w' = w := by
  go_enter Tryd.func74, Tryd.ntmps74
  go_wp2_with fail
  refine (cmpS_any _ _ _).mono ?_
  rintro e w' ⟨rfl, rfl⟩
  go_wp2
  go_ret
  exact ⟨rfl, rfl⟩

theorem isRes1_any {s : ByteArray} {b i : Nat} {w : World} (hb : Boxed w b 9 (.string s)) (hR : Res w) (hi : i < 35) :
    Calls Tryd.prog 73 (#[.int .i64 (i : Int)] ++ #[.pointer (some ⟨b, 0, none⟩)]) w fun e w' => e = .returned (.int .i64 (compareBytes s.data.toList (resL.getD i []))) ∧ Below w.heap.size w w' := by
  have c0 := hb.cell
  have c1 := hR.cell hi
  have k0 : (0 : Int) ≤ (i : Int) := by omega
  have k1 : (i : Int) < 35 := by omega
  obtain ⟨r, hr⟩ : ∃ r, r = resA i := ⟨_, rfl⟩
  rw [← hr] at c1
  have HR := Lib.hid hr
  clear hr
  go_enter Tryd.func73, Tryd.ntmps73
  go_wp2_with fail
  go_quiet ((go_at_call 74; exact Calls.quiet_of_same (compare_any _ _ _)))
  go_wp2
  go_ret
  refine ⟨?_, ?_⟩
  · rw [HR.out]; rfl
  · exact below_drewN (Below.refl _ _) _

set_option maxHeartbeats 800000 in
theorem isReserved_any (s : ByteArray) (w : World) (hR : Res w) :
    Calls Tryd.prog 53 #[.string s] w fun e w' => e = .returned (.bool (resL.any fun x => x == s.data.toList)) ∧ Below w.heap.size w w' := by
  have hb : Boxed (w.alloc (.cells #[.string s] 9)) w.heap.size 9 (.string s) := Boxed.new w _ _
  have hb0 : Below w.heap.size w (w.alloc (.cells #[.string s] 9)) := (Below.refl _ _).alloc (Nat.le_refl _) _
  have HF := Lib.hid (find_any (g := 73) (n := 35) (cb := #[.pointer (some ⟨w.heap.size, 0, none⟩)]) (c := fun i => compareBytes s.data.toList (resL.getD i [])) (w := w.alloc (.cells #[.string s] 9))
    (enters_of Tryd.func73 (by kernel_rfl) rfl) (by omega)
    (fun W i hi hW => isRes1_any ((Ch.below (S := fun _ => False) hW).boxed (fun h => h) hb) ((hR.of hb0).of hW) hi) (fun a b hab hb h => res_mono _ hab hb h))
  have H0 := Lib.hid hb0
  clear hb hb0
  go_enter Tryd.func53, Tryd.ntmps53
  go_wp2_with fail
  refine HF.out.mono ?_
  rintro e w1 ⟨r, hr, rfl, h1, h2, hb1⟩
  have HX := Lib.hid (res_found s.data.toList r h1 h2)
  have HB := Lib.hid (H0.out.trans (hb1.mono H0.out.size))
  clear h1 h2 hb1 HF hr
  obtain ⟨v, hv⟩ : ∃ v, v = (decide (r < 35) && decide (compareBytes s.data.toList (resL.getD r []) = 0)) := ⟨_, rfl⟩
  rw [← hv]
  have HV := Lib.hid hv
  clear hv
  go_wp2
  go_ret
  exact ⟨by rw [← HX.out, ← HV.out]; rfl, HB.out⟩

end Go.Proofs.YtgehldadfaonbaaDoor
