/-
  The contracts of result, compare, Add, Sub, Mul and Cmp at texts that are numerals.
-/
import Derived.Test.YtiocehlefpbbhaaGreatDoorD1
import Derived.Test.YtiocehlefpbbhaaGreatDoorN1
namespace Go.Proofs.YtiocehlefpbbhaaGreatDoor
open Go.RowKit NV
open Go.Lib (decDigits)

theorem parse_dec (n : Nat) (h : Ok n) (w : World) : Calls Tryz.prog 27 #[.string (dstr n)] w fun e w' => ∃ v, e = .returned v ∧ Own w' w.heap.size v n ∧ Below w.heap.size w w' := by
  have hp := parse_any (dstr n) w (by rw [dstr_size]; unfold Ok at h; omega) (by rw [dstr_list]; exact digs_dec n)
  rw [dstr_list, dv_dec] at hp
  exact hp

theorem both_ok {a b : Nat} (ha : Ok a) (hb : Ok b) : both (decDigits a) (decDigits b) = 0 := by
  unfold both; rw [if_pos ha.chk, hb.chk]

set_option maxHeartbeats 800000 in
theorem result_ok {w : World} {v : Value} {n : Nat} (h : Num w v n) (hn : Ok n) (htab : Tab w) :
    Calls Tryz.prog 26 #[v] w fun e w' => e = .returned (.tuple #[.string (dstr n), .int .i64 0]) ∧ Below w.heap.size w w' := by
  have hl := hn.ln
  have hok : ((decDigits n).length : Int) ≤ 4000 := by unfold Ok at hn; omega
  have HD := Lib.hid (digits_any h (by omega))
  have HX := Lib.hid (text_any h (by omega) htab)
  clear htab h hl hn
  go_enter Tryz.func26, Tryz.ntmps26
  go_wp2_with fail
  refine HD.out.mono ?_
  rintro e w1 ⟨rfl, rfl⟩
  go_wp2_with fail
  refine HX.out.mono ?_
  rintro e w2 ⟨rfl, hb2⟩
  have HB := Lib.hid hb2
  clear hb2
  go_wp2_with fail
  go_ret2
  exact ⟨rfl, HB.out⟩

set_option maxHeartbeats 800000 in
theorem result_over {w : World} {v : Value} {n : Nat} (h : Num w v n) (hn : ¬ Ok n) (hl : ln n ≤ 1000000) :
    Calls Tryz.prog 26 #[v] w fun e w' => e = .returned (.tuple #[.string ⟨#[]⟩, .int .i64 5]) ∧ w = w' := by
  have hok : (4000 : Int) < ((decDigits n).length : Int) := by unfold Ok at hn; omega
  have HD := Lib.hid (digits_any h (by omega))
  clear h hn
  go_enter Tryz.func26, Tryz.ntmps26
  go_wp2_with fail
  refine HD.out.mono ?_
  rintro e w1 ⟨rfl, rfl⟩
  go_wp2_with fail
  go_ret2
  exact ⟨rfl, rfl⟩

theorem two_cells {w : World} (s t : ByteArray) (e : TypeId) : (w.alloc (.cells #[.string s, .string t] e)).cell? ⟨w.heap.size, 0, none⟩ = some (.string s) ∧ (w.alloc (.cells #[.string s, .string t] e)).cell? ⟨w.heap.size, 1, none⟩ = some (.string t) := by
  constructor
  · rw [Lib.cell_of_heap (heap_alloc_new w _)]; rfl
  · rw [Lib.cell_of_heap (heap_alloc_new w _)]; rfl

/-- checkAll at two numbers, in the world where their slice has just been made. -/
theorem checkAll_ok (a b : Nat) (ha : Ok a) (hb : Ok b) (w : World) (e : TypeId) :
    Calls Tryz.prog 25 #[.slice (some ⟨w.heap.size, 0, none⟩) 2 2] (w.alloc (.cells #[.string (dstr a), .string (dstr b)] e)) fun x w' => x = .returned (.int .i64 0) ∧ w.alloc (.cells #[.string (dstr a), .string (dstr b)] e) = w' := by
  have h := checkAll_any (dstr a) (dstr b) (w.alloc (.cells #[.string (dstr a), .string (dstr b)] e)) w.heap.size (small_str ha) (small_str hb) (two_cells _ _ _).1 (two_cells _ _ _).2
  rw [dstr_list, dstr_list, both_ok ha hb] at h
  exact h

set_option maxHeartbeats 1600000 in
set_option maxRecDepth 100000 in
/-- Add: the sum. -/
theorem Add_ok (a b : Nat) (ha : Ok a) (hb : Ok b) (hab : Ok (a + b)) (w : World) (htab : Tab w) :
    Calls Tryz.prog 6 #[.string (dstr a), .string (dstr b)] w fun e w' => e = .returned (.tuple #[.string (dstr (a + b)), .int .i64 0]) ∧ Below w.heap.size w w' := by
  have hla := ha.ln
  have hlb := hb.ln
  have HT := Lib.hid htab
  clear htab
  go_enter Tryz.func6, Tryz.ntmps6
  go_wp2_with fail
  refine (checkAll_ok a b ha hb w _).mono ?_
  rintro e w1 ⟨rfl, rfl⟩
  go_wp2_with fail
  have hb1 : Below w.heap.size w (w.alloc (.cells #[.string (dstr a), .string (dstr b)] 22)) := (Below.refl _ _).alloc (Nat.le_refl _) _
  have HB1 := Lib.hid hb1
  generalize w.alloc (.cells #[.string (dstr a), .string (dstr b)] 22) = w1 at HB1 ⊢
  clear hb1
  refine (parse_dec a ha w1).mono ?_
  rintro e w2 ⟨x, rfl, hx, hb2⟩
  have HX := Lib.hid hx.num
  have HB2 := Lib.hid hb2
  clear hx hb2
  go_wp2_with fail
  refine (parse_dec b hb w2).mono ?_
  rintro e w3 ⟨y, rfl, hy, hb3⟩
  have HP := Lib.hid (plus_any (HX.out.below hb3) hy.num (by omega) (by omega))
  have HB3 := Lib.hid (HB1.out.trans ((HB2.out.mono HB1.out.size).trans (hb3.mono (Nat.le_trans HB1.out.size HB2.out.size))))
  clear hy hb3 HB2 HX
  go_wp2_with fail
  refine HP.out.mono ?_
  rintro e w4 ⟨z, rfl, hz, hb4⟩
  have hb5 := HB3.out.trans (hb4.mono HB3.out.size)
  have HR := Lib.hid (result_ok hz.num hab (HT.out.below hb5))
  have HB4 := Lib.hid hb5
  clear hz hb4 hb5 HP
  go_wp2_with fail
  refine HR.out.mono ?_
  rintro e w5 ⟨rfl, hb6⟩
  have HB5 := Lib.hid (HB4.out.trans (hb6.mono HB4.out.size))
  clear hb6 HR
  go_wp2_with fail
  go_ret2
  exact ⟨rfl, HB5.out⟩

end Go.Proofs.YtiocehlefpbbhaaGreatDoor
