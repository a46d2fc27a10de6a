/-
  The reference of nat: both, Mul and Gcd of texts; light of layer 2 is not here.
-/
import Derived.Test.YteojekiocecdnaaGreatDoorGF
import Derived.Test.YteojekiocecdnaaGreatDoorGK
namespace Go.Proofs.YteojekiocecdnaaGreatDoor
open Go.RowKit NV
open Go.Lib (decDigits)

/-- The first error of two texts. -/
def both (l m : List UInt8) : Nat := if chk l = 0 then chk m else chk l
theorem both_ok {a b : Nat} (ha : Ok a) (hb : Ok b) : both (decDigits a) (decDigits b) = 0 := by
  unfold both; rw [if_pos ha.chk, hb.chk]

theorem iread_dec (a : Nat) (ha : Ok a) (w : World) :
    Calls Tryz.prog 104 #[.string (dstr a)] w fun e w' => ∃ v, e = .returned v ∧ INum w' v a ∧ Below w.heap.size w w' := by
  have hr := iread_any (dstr a) w (by rw [dstr_size]; exact dec_len_pos a) (by rw [dstr_size]; unfold Ok at ha; omega) (by rw [dstr_list]; exact digs_dec a)
  rw [dstr_list, dv_dec] at hr
  exact hr

set_option maxHeartbeats 800000 in
/-- both returns the first error. -/
theorem iboth_any (s t : ByteArray) (w : World) (hs : s.size ≤ 140737488351232) (ht : t.size ≤ 140737488351232) :
    Calls Tryz.prog 198 #[.string s, .string t] w fun e w' => e = .returned (.int .i64 ((both s.data.toList t.data.toList : Nat) : Int)) ∧ w = w' := by
  have HS := Lib.hid (refcheck_any s w hs)
  have HT := Lib.hid (refcheck_any t w ht)
  by_cases h : chk s.data.toList = 0
  · have HB := Lib.hid (show chk t.data.toList = both s.data.toList t.data.toList by rw [both, if_pos h])
    rw [h] at HS
    clear h
    go_enter Tryz.func198, Tryz.ntmps198
    go_wp2_with fail
    refine HS.out.mono ?_
    rintro e w1 ⟨rfl, rfl⟩
    go_wp2_with fail
    refine HT.out.mono ?_
    rintro e w1 ⟨rfl, rfl⟩
    go_wp2_with fail
    go_ret
    exact ⟨ret_int (by rw [HB.out]), rfl⟩
  · have HB := Lib.hid (show chk s.data.toList = both s.data.toList t.data.toList by rw [both, if_neg h])
    have hz : (((chk s.data.toList : Nat) : Int) != 0) = true := by rw [bne_iff_ne]; omega
    clear h
    go_enter Tryz.func198, Tryz.ntmps198
    go_wp2_with fail
    refine HS.out.mono ?_
    rintro e w1 ⟨rfl, rfl⟩
    go_wp2_with fail
    go_ret
    exact ⟨ret_int (by rw [HB.out]), rfl⟩

theorem iboth_ok (a b : Nat) (ha : Ok a) (hb : Ok b) (w : World) :
    Calls Tryz.prog 198 #[.string (dstr a), .string (dstr b)] w fun e w' => e = .returned (.int .i64 0) ∧ w = w' := by
  have h := iboth_any (dstr a) (dstr b) w (small_str ha) (small_str hb)
  rw [dstr_list, dstr_list, both_ok ha hb] at h
  exact h

end Go.Proofs.YteojekiocecdnaaGreatDoor
