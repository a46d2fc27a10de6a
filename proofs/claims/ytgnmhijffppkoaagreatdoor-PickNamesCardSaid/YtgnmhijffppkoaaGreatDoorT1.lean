/-
  The reference of nat: both, Mul and Gcd of texts; light of layer 2 is not here.
-/
import Derived.Test.YtgnmhijffppkoaaGreatDoorGF
import Derived.Test.YtgnmhijffppkoaaGreatDoorGK
namespace Go.Proofs.YtgnmhijffppkoaaGreatDoor
open Go.RowKit NV
open Go.Lib (decDigits)

/-- The first error of two texts. -/
def both (l m : List UInt8) : Nat := if chk l = 0 then chk m else chk l
theorem both_ok {a b : Nat} (ha : Ok a) (hb : Ok b) : both (decDigits a) (decDigits b) = 0 := by
  unfold both; rw [if_pos ha.chk, hb.chk]

theorem iread_dec (a : Nat) (ha : Ok a) (w : World) :
    Calls Tryz.prog 80 #[.string (dstr a)] w fun e w' => ∃ v, e = .returned v ∧ INum w' v a ∧ Below w.heap.size w w' := by
  have hr := iread_any (dstr a) w (by rw [dstr_size]; exact dec_len_pos a) (by rw [dstr_size]; unfold Ok at ha; omega) (by rw [dstr_list]; exact digs_dec a)
  rw [dstr_list, dv_dec] at hr
  exact hr

set_option maxHeartbeats 800000 in
/-- both returns the first error. -/
theorem iboth_any (s t : ByteArray) (w : World) (hs : s.size ≤ 140737488351232) (ht : t.size ≤ 140737488351232) :
    Calls Tryz.prog 133 #[.string s, .string t] w fun e w' => e = .returned (.int .i64 ((both s.data.toList t.data.toList : Nat) : Int)) ∧ w = w' := by
  have HS := Lib.hid (refcheck_any s w hs)
  have HT := Lib.hid (refcheck_any t w ht)
  by_cases h : chk s.data.toList = 0
  · have HB := Lib.hid (show chk t.data.toList = both s.data.toList t.data.toList by rw [both, if_pos h])
    rw [h] at HS
    clear h
    go_enter Tryz.func133, Tryz.ntmps133
    go_wp2_with fail
    refine HS.out.mono ?_
    rintro e w1 ⟨rfl, rfl⟩
    go_wp2_with fail
    refine HT.out.mono ?_
    rintro e w1 ⟨rfl, rfl⟩
    go_wp2_with fail
    go_ret
    exact ⟨ret_int (by rw [HB.out]), rfl⟩
  · have HB := Lib.hid (show chk s.data.toList = both s.data.toList t.data.toList by rw [both, if_neg h])
    have hz : (((chk s.data.toList : Nat) : Int) != 0) = true := by rw [bne_iff_ne]; omega
    clear h
    go_enter Tryz.func133, Tryz.ntmps133
    go_wp2_with fail
    refine HS.out.mono ?_
    rintro e w1 ⟨rfl, rfl⟩
    go_wp2_with fail
    go_ret
    exact ⟨ret_int (by rw [HB.out]), rfl⟩

theorem iboth_ok (a b : Nat) (ha : Ok a) (hb : Ok b) (w : World) :
    Calls Tryz.prog 133 #[.string (dstr a), .string (dstr b)] w fun e w' => e = .returned (.int .i64 0) ∧ w = w' := by
  have h := iboth_any (dstr a) (dstr b) w (small_str ha) (small_str hb)
  rw [dstr_list, dstr_list, both_ok ha hb] at h
  exact h

set_option maxHeartbeats 1600000 in
set_option maxRecDepth 100000 in
theorem iMul (a b : Nat) (ha : Ok a) (hb : Ok b) (w : World) :
    Calls Tryz.prog 64 #[.string (dstr a), .string (dstr b)] w fun e w' => e = .returned (.tuple #[.string (outR (a * b)).1, .int .i64 ((outR (a * b)).2 : Int)]) ∧ Below w.heap.size w w' := by
  have hla := ha.ln
  have hlb := hb.ln
  have HC := Lib.hid (iboth_ok a b ha hb w)
  have HRA := Lib.hid (fun W => iread_dec a ha W)
  have HRB := Lib.hid (fun W => iread_dec b hb W)
  have hls : ln (a * b) ≤ 890 := Nat.le_trans (ln_le (mul_lt_pow (lt_pow_ln a) (lt_pow_ln b))) (by omega)
  go_enter Tryz.func64, Tryz.ntmps64
  go_wp2_with fail
  refine HC.out.mono ?_
  rintro e w1 ⟨rfl, rfl⟩
  go_wp2_with fail
  refine (HRA.out _).mono ?_
  rintro e w2 ⟨x, rfl, hx, hb2⟩
  have HX2 := Lib.hid hx
  have HB2 := Lib.hid hb2
  clear hx hb2
  go_wp2_with fail
  refine (HRB.out _).mono ?_
  rintro e w3 ⟨y, rfl, hy, hb3⟩
  have HY := Lib.hid hy
  have HX := Lib.hid (HX2.out.below hb3)
  have HB3 := Lib.hid (HB2.out.trans (hb3.mono HB2.out.size))
  clear hy hb3
  have HP := Lib.hid (itimes_any HX.out HY.out (by omega) (by omega))
  go_wp2_with fail
  refine HP.out.mono ?_
  rintro e w4 ⟨z, rfl, hz, hb4⟩
  have HN := Lib.hid (inumber_any hz (by omega))
  have HB4 := Lib.hid (HB3.out.trans (hb4.mono HB3.out.size))
  clear hz hb4
  go_wp2_with fail
  refine HN.out.mono ?_
  rintro e w5 ⟨rfl, hb5⟩
  have HB5 := Lib.hid (HB4.out.trans (hb5.mono HB4.out.size))
  clear hb5
  go_wp2_with fail
  go_ret2
  exact ⟨rfl, HB5.out⟩

end Go.Proofs.YtgnmhijffppkoaaGreatDoor
