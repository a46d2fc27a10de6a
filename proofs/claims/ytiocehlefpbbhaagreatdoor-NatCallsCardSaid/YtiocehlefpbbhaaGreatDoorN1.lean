/-
  The contracts of nat's checkAll at two texts, and of its parse.
-/
import Derived.Test.YtiocehlefpbbhaaGreatDoorW7
namespace Go.Proofs.YtiocehlefpbbhaaGreatDoor
open Go.RowKit NV

/-- The error of the first text that has one. -/
def both (l m : List UInt8) : Nat := if chk l = 0 then chk m else chk l

set_option maxHeartbeats 800000 in
set_option maxRecDepth 100000 in
theorem checkAll_any (s t : ByteArray) (w : World) (g : Nat) (hs : s.size ≤ 140737488351232) (ht : t.size ≤ 140737488351232)
    (h0 : w.cell? ⟨g, 0, none⟩ = some (.string s)) (h1 : w.cell? ⟨g, 1, none⟩ = some (.string t)) :
    Calls Tryz.prog 25 #[.slice (some ⟨g, 0, none⟩) 2 2] w fun e w' => e = .returned (.int .i64 ((both s.data.toList t.data.toList : Nat) : Int)) ∧ w = w' := by
  by_cases hc : chk s.data.toList = 0
  · have HB := Lib.hid (show both s.data.toList t.data.toList = chk t.data.toList by unfold both; rw [if_pos hc])
    have hz : (((chk s.data.toList : Nat) : Int) != 0) = false := by rw [hc]; rfl
    clear hc
    by_cases hd : chk t.data.toList = 0
    · have HZ := Lib.hid hd
      have hz2 : (((chk t.data.toList : Nat) : Int) != 0) = false := by rw [hd]; rfl
      clear hd
      go_enter Tryz.func25, Tryz.ntmps25
      go_wp2_with fail
      refine wp_loop_rounds 3 ?_
      rw [rounds_succ]
      go_wp2_with fail
      refine (check_any s _ hs).mono ?_
      rintro e w' ⟨rfl, rfl⟩
      go_wp2_with fail
      rw [rounds_succ]
      go_wp2_with fail
      refine (check_any t _ ht).mono ?_
      rintro e w' ⟨rfl, rfl⟩
      go_wp2_with fail
      rw [rounds_succ]
      go_wp2_with fail
      go_ret
      exact ⟨by rw [HB.out, HZ.out]; rfl, rfl⟩
    · have hz2 : (((chk t.data.toList : Nat) : Int) != 0) = true := by rw [bne_iff_ne]; omega
      clear hd
      go_enter Tryz.func25, Tryz.ntmps25
      go_wp2_with fail
      refine wp_loop_rounds 3 ?_
      rw [rounds_succ]
      go_wp2_with fail
      refine (check_any s _ hs).mono ?_
      rintro e w' ⟨rfl, rfl⟩
      go_wp2_with fail
      rw [rounds_succ]
      go_wp2_with fail
      refine (check_any t _ ht).mono ?_
      rintro e w' ⟨rfl, rfl⟩
      go_wp2_with fail
      go_ret
      exact ⟨by rw [HB.out]; rfl, rfl⟩
  · have HB := Lib.hid (show both s.data.toList t.data.toList = chk s.data.toList by unfold both; rw [if_neg hc])
    have hz : (((chk s.data.toList : Nat) : Int) != 0) = true := by rw [bne_iff_ne]; omega
    clear hc
    go_enter Tryz.func25, Tryz.ntmps25
    go_wp2_with fail
    refine wp_loop_rounds 3 ?_
    rw [rounds_succ]
    go_wp2_with fail
    refine (check_any s _ hs).mono ?_
    rintro e w' ⟨rfl, rfl⟩
    go_wp2_with fail
    go_ret
    exact ⟨by rw [HB.out]; rfl, rfl⟩

set_option maxHeartbeats 800000 in
/-- nat.parse is Parse. -/
theorem parse_any (s : ByteArray) (w : World) (hs : s.size ≤ 1000000) (hd : Digs s.data.toList) :
    Calls Tryz.prog 27 #[.string s] w fun e w' => ∃ v, e = .returned v ∧ Own w' w.heap.size v (dv s.data.toList) ∧ Below w.heap.size w w' := by
  have HP := Lib.hid (eparse_any s w hs hd)
  clear hs hd
  go_enter Tryz.func27, Tryz.ntmps27
  go_wp2_with fail
  refine HP.out.mono ?_
  rintro e w' ⟨v, rfl, hv, hb⟩
  have HV := Lib.hid (And.intro hv hb)
  obtain ⟨g, c, rfl⟩ := hv.1
  clear hv hb
  go_wp2_with fail
  go_ret
  exact ⟨_, rfl, HV.out.1, HV.out.2⟩

end Go.Proofs.YtiocehlefpbbhaaGreatDoor
