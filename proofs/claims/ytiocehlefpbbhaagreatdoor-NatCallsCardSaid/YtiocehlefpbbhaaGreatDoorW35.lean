/-
  The errors of nat's functions.
-/
import Derived.Test.YtiocehlefpbbhaaGreatDoorW33
import Derived.Test.YtiocehlefpbbhaaGreatDoorW37
import Derived.Test.YtiocehlefpbbhaaGreatDoorW36
namespace Go.Proofs.YtiocehlefpbbhaaGreatDoor
open Go.RowKit NV
open Go.Lib (decDigits)

set_option maxHeartbeats 1600000 in
set_option maxRecDepth 100000 in
/-- Add where the sum does not fit. -/
theorem Add_over (a b : Nat) (ha : Ok a) (hb : Ok b) (hab : ¬ Ok (a + b)) (w : World) :
    Calls Tryz.prog 6 #[.string (dstr a), .string (dstr b)] w fun e w' => e = .returned (.tuple #[.string ⟨#[]⟩, .int .i64 5]) ∧ Below w.heap.size w w' := by
  have hla := ha.ln
  have hlb := hb.ln
  have hls : ln (a + b) ≤ 1000000 := Nat.le_trans (ln_le (add_lt (N := 445) hla hlb)) (by omega)
  go_enter Tryz.func6, Tryz.ntmps6
  go_wp2_with fail
  refine (checkAll_ok a b ha hb w _).mono ?_
  rintro e w1 ⟨rfl, rfl⟩
  go_wp2_with fail
  have hb1 : Below w.heap.size w (w.alloc (.cells #[.string (dstr a), .string (dstr b)] 22)) := (Below.refl _ _).alloc (Nat.le_refl _) _
  have HB1 := Lib.hid hb1
  generalize w.alloc (.cells #[.string (dstr a), .string (dstr b)] 22) = w1 at HB1 ⊢
  clear hb1
  refine (parse_dec a ha w1).mono ?_
  rintro e w2 ⟨x, rfl, hx, hb2⟩
  have HX := Lib.hid hx.num
  have HB2 := Lib.hid hb2
  clear hx hb2
  go_wp2_with fail
  refine (parse_dec b hb w2).mono ?_
  rintro e w3 ⟨y, rfl, hy, hb3⟩
  have HP := Lib.hid (plus_any (HX.out.below hb3) hy.num (by omega) (by omega))
  have HB3 := Lib.hid (HB1.out.trans ((HB2.out.mono HB1.out.size).trans (hb3.mono (Nat.le_trans HB1.out.size HB2.out.size))))
  clear hy hb3 HB2 HX
  go_wp2_with fail
  refine HP.out.mono ?_
  rintro e w4 ⟨z, rfl, hz, hb4⟩
  have HB4 := Lib.hid (HB3.out.trans (hb4.mono HB3.out.size))
  have HR := Lib.hid (result_over hz.num hab hls)
  clear hz hb4 HP
  go_wp2_with fail
  refine HR.out.mono ?_
  rintro e w5 ⟨rfl, rfl⟩
  go_wp2_with fail
  go_ret2
  exact ⟨rfl, HB4.out⟩

set_option maxHeartbeats 800000 in
/-- Sub of a greater number. -/
theorem Sub_low (a b : Nat) (ha : Ok a) (hb : Ok b) (hab : a < b) (w : World) :
    Calls Tryz.prog 8 #[.string (dstr a), .string (dstr b)] w fun e w' => e = .returned (.tuple #[.string ⟨#[]⟩, .int .i64 2]) ∧ Below w.heap.size w w' := by
  have hlow := cmpN_low hab
  go_enter Tryz.func8, Tryz.ntmps8
  go_wp2_with fail
  refine (checkAll_ok a b ha hb w _).mono ?_
  rintro e w1 ⟨rfl, rfl⟩
  go_wp2_with fail
  refine (compare_any a b ha hb _).mono ?_
  rintro e w1' ⟨rfl, rfl⟩
  go_wp2_with fail
  go_ret2
  exact ⟨rfl, (Below.refl _ _).alloc (Nat.le_refl _) _⟩

set_option maxHeartbeats 800000 in
/-- DivMod by 0. -/
theorem DivMod_zero (a : Nat) (ha : Ok a) (w : World) :
    Calls Tryz.prog 12 #[.string (dstr a), .string (dstr 0)] w fun e w' => e = .returned (.tuple #[.string ⟨#[]⟩, .string ⟨#[]⟩, .int .i64 6]) ∧ Below w.heap.size w w' := by
  have hz : ((dstr 0).toList == [48]) = true := by rw [Go.Lib.toList_data, dstr_list, dec_small (by omega)]; rfl
  go_enter Tryz.func12, Tryz.ntmps12
  go_wp2_with fail
  refine (checkAll_ok a 0 ha zero_ok w _).mono ?_
  rintro e w1 ⟨rfl, rfl⟩
  go_wp2_with fail
  go_ret3
  exact ⟨rfl, (Below.refl _ _).alloc (Nat.le_refl _) _⟩

/-- strconv.ErrRange holds an error. -/
def EV (w : World) : Prop := ∃ tp p, w.var? Tryz.prog "strconv.ErrRange" = some #[.iface tp p]

theorem gErrRange : Tryz.prog.globalNamed "strconv.ErrRange" = some 2 := by kernel_rfl

theorem EV.below {w w' : World} (h : EV w) (hb : Below w.heap.size w w') : EV w' := by
  obtain ⟨tp, p, hv⟩ := h
  refine ⟨tp, p, var?_below hb gErrRange ?_ hv⟩
  have := hv
  unfold World.var? at this
  rw [gErrRange] at this
  rcases Nat.lt_or_ge 2 w.heap.size with h' | h'
  · exact h'
  · simp [Array.getElem?_eq_none h'] at this

set_option maxHeartbeats 800000 in
set_option maxRecDepth 100000 in
/-- ToInt of a number that is no int. -/
theorem ToInt_over (a : Nat) (ha : Ok a) (hr : Lib.atoiAll (decDigits a) = .range) (w : World) (hev : EV w) :
    Calls Tryz.prog 16 #[.string (dstr a)] w fun e w' => e = .returned (.tuple #[.int .i64 0, .int .i64 2]) ∧ Below w.heap.size w w' := by
  have hck := check_any (dstr a) w (small_str ha)
  rw [dstr_list, ha.chk] at hck
  have HC := Lib.hid hck
  obtain ⟨tp, p, hv⟩ := hev
  have HA := Lib.hid (Tryz.strconv_Atoi_range_var (dstr a) (Nat.le_trans (small_str ha) (by omega)) (by rw [dstr_list]; exact hr) tp p w hv)
  clear hck hv hr
  go_enter Tryz.func16, Tryz.ntmps16
  go_wp2_with fail
  refine HC.out.mono ?_
  rintro e w1 ⟨rfl, rfl⟩
  go_wp2_with fail
  refine HA.out.mono ?_
  rintro e w2 ⟨N, rfl, _, _, hb⟩
  have HB := Lib.hid hb
  clear hb
  go_wp2_with fail
  go_ret2
  exact ⟨rfl, HB.out⟩

set_option maxHeartbeats 800000 in
/-- Cmp where a text is no number. -/
theorem Cmp_bad (s t : ByteArray) (hs : s.size ≤ 140737488351232) (ht : t.size ≤ 140737488351232) (hb : both s.data.toList t.data.toList ≠ 0) (w : World) :
    Calls Tryz.prog 22 #[.string s, .string t] w fun e w' => e = .returned (.int .i64 0) ∧ Below w.heap.size w w' := by
  have hz : (((both s.data.toList t.data.toList : Nat) : Int) != 0) = true := by rw [bne_iff_ne]; omega
  have HCA := Lib.hid (checkAll_any s t (w.alloc (.cells #[.string s, .string t] 22)) w.heap.size hs ht (two_cells s t _).1 (two_cells s t _).2)
  clear hb
  go_enter Tryz.func22, Tryz.ntmps22
  go_wp2_with fail
  refine HCA.out.mono ?_
  rintro e w1 ⟨rfl, rfl⟩
  go_wp2_with fail
  go_ret
  exact ⟨rfl, (Below.refl _ _).alloc (Nat.le_refl _) _⟩

end Go.Proofs.YtiocehlefpbbhaaGreatDoor
