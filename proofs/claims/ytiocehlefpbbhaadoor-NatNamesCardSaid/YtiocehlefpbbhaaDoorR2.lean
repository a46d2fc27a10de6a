/-
  NatDivides returns true for all texts.
-/
import Derived.Test.YtiocehlefpbbhaaDoorR1
namespace Go.Proofs.YtiocehlefpbbhaaDoor
open Go.RowKit NV
open Go.Lib (decDigits)

theorem two_list {w : World} (s t : ByteArray) (e : TypeId) : ∀ j, j < [s, t].length → (w.alloc (.cells #[.string s, .string t] e)).cell? ⟨w.heap.size, j, none⟩ = some (.string ([s, t].getD j ByteArray.empty)) := by
  intro j hj
  rw [Lib.cell_of_heap (heap_alloc_new w _)]
  match j, hj with
  | 0, _ => rfl
  | 1, _ => rfl

set_option maxHeartbeats 3200000 in
set_option maxRecDepth 100000 in
theorem divides_no (s t : ByteArray) (w : World) (htab : Tab w) (hs : s.size ≤ 140737488351232) (ht : t.size ≤ 140737488351232) (hv : allV 2000 [s, t] = false) :
    Calls Tryd.prog 6 #[.string s, .string t] w fun e w' => e = .returned (.bool true) ∧ Below w.heap.size w w' := by
  have HL := Lib.hid (lives_any w htab)
  have HV := Lib.hid (fun (W : World) => valid_any (W.alloc (.cells #[.string s, .string t] 23)) W.heap.size 2000 [s, t] (by simp) (by omega) (by intro x hx; simp at hx; rcases hx with rfl | rfl <;> assumption) (two_list s t _))
  rw [hv] at HV
  clear htab hv
  go_enter Tryd.func6, Tryd.ntmps6
  go_wp2_with fail
  refine HL.out.mono ?_
  rintro e w1 ⟨rfl, hb1⟩
  have HB1 := Lib.hid hb1
  clear hb1
  go_wp2_with fail
  refine (HV.out w1).mono ?_
  rintro e w2 ⟨rfl, rfl⟩
  go_wp2_with fail
  go_ret
  exact ⟨rfl, HB1.out.alloc HB1.out.size _⟩

theorem dstr_is_zero : ((dstr 0).toList == [48]) = true := by rw [Go.Lib.toList_data, dstr_list, dec_small (by omega)]; rfl

set_option maxHeartbeats 3200000 in
set_option maxRecDepth 100000 in
theorem divides_zero (a : Nat) (w : World) (htab : Tab w) (hv : allV 2000 [dstr a, dstr 0] = true) (ha : Lt 2000 a) :
    Calls Tryd.prog 6 #[.string (dstr a), .string (dstr 0)] w fun e w' => e = .returned (.bool true) ∧ Below w.heap.size w w' := by
  have oa := ha.ok (by omega) (by omega)
  have o0 := zero_ok
  have HL := Lib.hid (lives_any w htab)
  have HV := Lib.hid (fun (W : World) => valid_any (W.alloc (.cells #[.string (dstr a), .string (dstr 0)] 23)) W.heap.size 2000 [dstr a, dstr 0] (by simp) (by omega) (by intro x hx; simp at hx; rcases hx with rfl | rfl <;> exact small_str (by assumption)) (two_list _ _ _))
  rw [hv] at HV
  have HZ := dstr_is_zero
  clear htab hv ha oa o0
  go_enter Tryd.func6, Tryd.ntmps6
  go_wp2_with fail
  refine HL.out.mono ?_
  rintro e w1 ⟨rfl, hb1⟩
  have HB1 := Lib.hid hb1
  clear hb1
  go_wp2_with fail
  refine (HV.out w1).mono ?_
  rintro e w2 ⟨rfl, rfl⟩
  go_wp2_with fail
  go_ret
  exact ⟨rfl, HB1.out.alloc HB1.out.size _⟩

set_option maxHeartbeats 6400000 in
set_option maxRecDepth 100000 in
theorem divides_yes (a b : Nat) (w : World) (htab : Tab w) (hv : allV 2000 [dstr a, dstr b] = true) (ha : Lt 2000 a) (hb : Lt 2000 b) (hb0 : b ≠ 0) :
    Calls Tryd.prog 6 #[.string (dstr a), .string (dstr b)] w fun e w' => e = .returned (.bool true) ∧ Below w.heap.size w w' := by
  have oa := ha.ok (by omega) (by omega)
  have ob := hb.ok (by omega) (by omega)
  have hq : a / b * b + a % b = a := by rw [Nat.mul_comm]; exact Nat.div_add_mod a b
  have hr : a % b < b := Nat.mod_lt _ (by omega)
  have hc : a * b / b = a := Nat.mul_div_cancel a (by omega)
  have hs : a * b % b = 0 := Nat.mul_mod_left a b
  have mab := (ha.mul hb).ok (by omega) (by omega)
  obtain ⟨q, hq0⟩ : ∃ q, q = a / b := ⟨_, rfl⟩
  obtain ⟨r, hr0⟩ : ∃ r, r = a % b := ⟨_, rfl⟩
  have oq : Ok q := oa.mono (by rw [hq0]; exact Nat.div_le_self _ _)
  have or : Ok r := oa.mono (by rw [hr0]; exact Nat.mod_le _ _)
  rw [← hq0, ← hr0] at hq
  rw [← hr0] at hr
  have oqb : Ok (q * b) := oa.mono (by omega)
  have osum : Ok (q * b + r) := by rw [hq]; exact oa
  have HD1 := Lib.hid (fun (W : World) (h : Tab W) => by have := DivMod_ok a b oa ob hb0 W h; rw [← hq0, ← hr0] at this; exact this)
  have HD2 := Lib.hid (fun (W : World) (h : Tab W) => by have := DivMod_ok (a * b) b mab ob hb0 W h; rw [hc, hs] at this; exact this)
  have e1 := str_eq hq
  have hlt := Lib.hid (cmpN_lt hr)
  have hz := dstr_ne_zero hb0
  have HZ := dstr_is_zero
  have HL := Lib.hid (lives_any w htab)
  have HV := Lib.hid (fun (W : World) => valid_any (W.alloc (.cells #[.string (dstr a), .string (dstr b)] 23)) W.heap.size 2000 [dstr a, dstr b] (by simp) (by omega) (by intro x hx; simp at hx; rcases hx with rfl | rfl <;> exact small_str (by assumption)) (two_list _ _ _))
  rw [hv] at HV
  have HT := Lib.hid htab
  clear htab hv ha hb hq hr hc hs hq0 hr0
  go_enter Tryd.func6, Tryd.ntmps6
  go_wp2_with fail
  refine HL.out.mono ?_
  rintro e w1 ⟨rfl, hb1⟩
  have HB1 := Lib.hid hb1
  clear hb1
  go_wp2_with fail
  refine (HV.out w1).mono ?_
  rintro e w2 ⟨rfl, rfl⟩
  have HB2 := Lib.hid (HB1.out.alloc HB1.out.size (.cells #[.string (dstr a), .string (dstr b)] 23))
  generalize w1.alloc (.cells #[.string (dstr a), .string (dstr b)] 23) = W0 at HB2 ⊢
  go_wp2_with fail
  refine (HD1.out _ (HT.out.below HB2.out)).mono ?_
  rintro e W3 ⟨rfl, hb⟩
  have HB3 := Lib.hid (HB2.out.trans (hb.mono HB2.out.size))
  clear hb HB2
  go_wp2_with fail
  refine (product_ok a b oa ob mab _ (HT.out.below HB3.out)).mono ?_
  rintro e W4 ⟨rfl, hb⟩
  have HB4 := Lib.hid (HB3.out.trans (hb.mono HB3.out.size))
  clear hb HB3
  go_wp2_with fail
  refine (HD2.out _ (HT.out.below HB4.out)).mono ?_
  rintro e W5 ⟨rfl, hb⟩
  have HB5 := Lib.hid (HB4.out.trans (hb.mono HB4.out.size))
  clear hb HB4
  go_wp2_with fail
  refine (product_ok q b oq ob oqb _ (HT.out.below HB5.out)).mono ?_
  rintro e W6 ⟨rfl, hb⟩
  have HB6 := Lib.hid (HB5.out.trans (hb.mono HB5.out.size))
  clear hb HB5
  go_wp2_with fail
  refine (sum_ok (q * b) r oqb or osum _ (HT.out.below HB6.out)).mono ?_
  rintro e W7 ⟨rfl, hb⟩
  have HB7 := Lib.hid (HB6.out.trans (hb.mono HB6.out.size))
  clear hb HB6
  go_wp2_with fail
  have HC := Lib.hid (Cmp_ok r b or ob W7)
  rw [hlt.out] at HC
  refine HC.out.mono ?_
  rintro e W8 ⟨rfl, hb⟩
  have HB8 := Lib.hid (HB7.out.trans (hb.mono HB7.out.size))
  clear hb HB7 HC
  go_wp2_with fail
  refine (Check_ok q oq _).mono ?_
  rintro e V ⟨rfl, rfl⟩
  go_wp2_with fail
  refine (Check_ok r or _).mono ?_
  rintro e V ⟨rfl, rfl⟩
  go_wp2_with fail
  go_ret
  exact ⟨rfl, HB8.out⟩

end Go.Proofs.YtiocehlefpbbhaaDoor
