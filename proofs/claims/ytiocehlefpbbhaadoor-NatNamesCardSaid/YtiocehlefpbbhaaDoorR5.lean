/-
  NatCommon returns true for all texts.
-/
import Derived.Test.YtiocehlefpbbhaaDoorR2
import Derived.Test.YtiocehlefpbbhaaDoorW33
namespace Go.Proofs.YtiocehlefpbbhaaDoor
open Go.RowKit NV
open Go.Lib (decDigits)

set_option maxHeartbeats 3200000 in
set_option maxRecDepth 100000 in
theorem common_no (s t u : ByteArray) (w : World) (htab : Tab w) (hs : s.size ≤ 140737488351232) (ht : t.size ≤ 140737488351232) (hu : u.size ≤ 140737488351232) (hv : allV 400 [s, t, u] = false) :
    Calls Tryd.prog 7 #[.string s, .string t, .string u] w fun e w' => e = .returned (.bool true) ∧ Below w.heap.size w w' := by
  have HL := Lib.hid (lives_any w htab)
  have HV := Lib.hid (fun (W : World) => valid_any (W.alloc (.cells #[.string s, .string t, .string u] 23)) W.heap.size 400 [s, t, u] (by simp) (by omega) (by intro x hx; simp at hx; rcases hx with rfl | rfl | rfl <;> assumption) (three_cells s t u _))
  rw [hv] at HV
  clear htab hv
  go_enter Tryd.func7, Tryd.ntmps7
  go_wp2_with fail
  refine HL.out.mono ?_
  rintro e w1 ⟨rfl, hb1⟩
  have HB1 := Lib.hid hb1
  clear hb1
  go_wp2_with fail
  refine (HV.out w1).mono ?_
  rintro e w2 ⟨rfl, rfl⟩
  go_wp2_with fail
  go_ret
  exact ⟨rfl, HB1.out.alloc HB1.out.size _⟩

theorem dstr_is_one : ((dstr 1).toList == [49]) = true := by rw [Go.Lib.toList_data, dstr_list, dec_one]; rfl

set_option maxHeartbeats 3200000 in
set_option maxRecDepth 100000 in
theorem common_zero (c : Nat) (w : World) (htab : Tab w) (hv : allV 400 [dstr 0, dstr 0, dstr c] = true) (hc : Lt 400 c) :
    Calls Tryd.prog 7 #[.string (dstr 0), .string (dstr 0), .string (dstr c)] w fun e w' => e = .returned (.bool true) ∧ Below w.heap.size w w' := by
  have oc := hc.ok (by omega) (by omega)
  have o0 := zero_ok
  have HL := Lib.hid (lives_any w htab)
  have HV := Lib.hid (fun (W : World) => valid_any (W.alloc (.cells #[.string (dstr 0), .string (dstr 0), .string (dstr c)] 23)) W.heap.size 400 [dstr 0, dstr 0, dstr c] (by simp) (by omega) (by intro x hx; simp at hx; rcases hx with rfl | rfl <;> exact small_str (by assumption)) (three_cells _ _ _ _))
  rw [hv] at HV
  have HG := Lib.hid (fun (W : World) (h : Tab W) => Gcd_ok 0 0 o0 o0 W h)
  have HZ := dstr_is_zero
  have HT := Lib.hid htab
  clear htab hv hc oc o0
  go_enter Tryd.func7, Tryd.ntmps7
  go_wp2_with fail
  refine HL.out.mono ?_
  rintro e w1 ⟨rfl, hb1⟩
  have HB1 := Lib.hid hb1
  clear hb1
  go_wp2_with fail
  refine (HV.out w1).mono ?_
  rintro e w2 ⟨rfl, rfl⟩
  have HB2 := Lib.hid (HB1.out.alloc HB1.out.size (.cells #[.string (dstr 0), .string (dstr 0), .string (dstr c)] 23))
  generalize w1.alloc (.cells #[.string (dstr 0), .string (dstr 0), .string (dstr c)] 23) = W0 at HB2 ⊢
  go_wp2_with fail
  refine (HG.out _ (HT.out.below HB2.out)).mono ?_
  rintro e W3 ⟨rfl, hb⟩
  have HB3 := Lib.hid (HB2.out.trans (hb.mono HB2.out.size))
  clear hb HB2
  go_wp2_with fail
  refine (HG.out _ (HT.out.below HB3.out)).mono ?_
  rintro e W4 ⟨rfl, hb⟩
  have HB4 := Lib.hid (HB3.out.trans (hb.mono HB3.out.size))
  clear hb HB3
  have HZ2 : ((dstr (Nat.gcd 0 0)).toList == [48]) = true := by rw [Nat.gcd_zero_left]; exact HZ
  go_wp2_with fail
  go_ret
  exact ⟨rfl, HB4.out⟩

set_option maxHeartbeats 6400000 in
set_option maxRecDepth 100000 in
theorem common_yes (a b c : Nat) (w : World) (htab : Tab w) (hv : allV 400 [dstr a, dstr b, dstr c] = true) (ha : Lt 400 a) (hb : Lt 400 b) (hc : Lt 400 c) (hab : ¬ (a = 0 ∧ b = 0)) :
    Calls Tryd.prog 7 #[.string (dstr a), .string (dstr b), .string (dstr c)] w fun e w' => e = .returned (.bool true) ∧ Below w.heap.size w w' := by
  have oa := ha.ok (by omega) (by omega)
  have ob := hb.ok (by omega) (by omega)
  have oc := hc.ok (by omega) (by omega)
  have mac := (ha.mul hc).ok (by omega) (by omega)
  have mbc := (hb.mul hc).ok (by omega) (by omega)
  have HG1 := Lib.hid (fun (W : World) (h : Tab W) => Gcd_ok a b oa ob W h)
  have HG2 := Lib.hid (fun (W : World) (h : Tab W) => by have := Gcd_ok b a ob oa W h; rw [Nat.gcd_comm b a] at this; exact this)
  have HG4 := Lib.hid (fun (W : World) (h : Tab W) => by have := Gcd_ok (a * c) (b * c) mac mbc W h; rw [Nat.gcd_mul_right] at this; exact this)
  have hg0 : 0 < Nat.gcd a b := by
    rcases Nat.eq_zero_or_pos (Nat.gcd a b) with h | h
    · exact absurd (Nat.gcd_eq_zero_iff.1 h) hab
    · exact h
  have og : Ok (Nat.gcd a b) := gcd_ok oa ob
  have hone : Nat.gcd (a / Nat.gcd a b) (b / Nat.gcd a b) = 1 := by
    rw [Nat.gcd_div (Nat.gcd_dvd_left a b) (Nat.gcd_dvd_right a b)]; exact Nat.div_self hg0
  have hra : a % Nat.gcd a b = 0 := Nat.mod_eq_zero_of_dvd (Nat.gcd_dvd_left a b)
  have hrb : b % Nat.gcd a b = 0 := Nat.mod_eq_zero_of_dvd (Nat.gcd_dvd_right a b)
  have ogc : Ok (Nat.gcd a b * c) := by rw [← Nat.gcd_mul_right]; exact gcd_ok mac mbc
  generalize Nat.gcd a b = g at *
  obtain ⟨x, hx0⟩ : ∃ x, x = a / g := ⟨_, rfl⟩
  obtain ⟨y, hy0⟩ : ∃ y, y = b / g := ⟨_, rfl⟩
  have ox : Ok x := oa.mono (by rw [hx0]; exact Nat.div_le_self _ _)
  have oy : Ok y := ob.mono (by rw [hy0]; exact Nat.div_le_self _ _)
  have HD1 := Lib.hid (fun (W : World) (h : Tab W) => by have := DivMod_ok a g oa og (by omega) W h; rw [← hx0, hra] at this; exact this)
  have HD2 := Lib.hid (fun (W : World) (h : Tab W) => by have := DivMod_ok b g ob og (by omega) W h; rw [← hy0, hrb] at this; exact this)
  have HG3 := Lib.hid (fun (W : World) (h : Tab W) => by have := Gcd_ok x y ox oy W h; rw [hx0, hy0, hone, ← hx0, ← hy0] at this; exact this)
  have HZ := dstr_is_zero
  have H1 := dstr_is_one
  have HL := Lib.hid (lives_any w htab)
  have HV := Lib.hid (fun (W : World) => valid_any (W.alloc (.cells #[.string (dstr a), .string (dstr b), .string (dstr c)] 23)) W.heap.size 400 [dstr a, dstr b, dstr c] (by simp) (by omega) (by intro x hx; simp at hx; rcases hx with rfl | rfl | rfl <;> exact small_str (by assumption)) (three_cells _ _ _ _))
  rw [hv] at HV
  have HT := Lib.hid htab
  clear htab hv ha hb hc hone hra hrb hx0 hy0 hg0
  have hza : ((dstr a).toList == [48]) = true ∧ ((dstr b).toList == [48]) = false ∨ ((dstr a).toList == [48]) = false := by
    by_cases h : a = 0
    · exact .inl ⟨by rw [h]; exact HZ, dstr_ne_zero (by omega)⟩
    · exact .inr (dstr_ne_zero h)
  clear hab
  rcases hza with ⟨hza, hzb⟩ | hza
  all_goals
    go_enter Tryd.func7, Tryd.ntmps7
    go_wp2_with fail
    refine HL.out.mono ?_
    rintro e w1 ⟨rfl, hb1⟩
    have HB1 := Lib.hid hb1
    clear hb1
    go_wp2_with fail
    refine (HV.out w1).mono ?_
    rintro e w2 ⟨rfl, rfl⟩
    have HB2 := Lib.hid (HB1.out.alloc HB1.out.size (.cells #[.string (dstr a), .string (dstr b), .string (dstr c)] 23))
    generalize w1.alloc (.cells #[.string (dstr a), .string (dstr b), .string (dstr c)] 23) = W0 at HB2 ⊢
    go_wp2_with fail
    refine (HG1.out _ (HT.out.below HB2.out)).mono ?_
    rintro e W3 ⟨rfl, hb⟩
    have HB3 := Lib.hid (HB2.out.trans (hb.mono HB2.out.size))
    clear hb HB2
    go_wp2_with fail
    refine (HG2.out _ (HT.out.below HB3.out)).mono ?_
    rintro e W4 ⟨rfl, hb⟩
    have HB4 := Lib.hid (HB3.out.trans (hb.mono HB3.out.size))
    clear hb HB3
    go_wp2_with fail
    refine (HD1.out _ (HT.out.below HB4.out)).mono ?_
    rintro e W5 ⟨rfl, hb⟩
    have HB5 := Lib.hid (HB4.out.trans (hb.mono HB4.out.size))
    clear hb HB4
    go_wp2_with fail
    refine (HD2.out _ (HT.out.below HB5.out)).mono ?_
    rintro e W6 ⟨rfl, hb⟩
    have HB6 := Lib.hid (HB5.out.trans (hb.mono HB5.out.size))
    clear hb HB5
    go_wp2_with fail
    refine (HG3.out _ (HT.out.below HB6.out)).mono ?_
    rintro e W7 ⟨rfl, hb⟩
    have HB7 := Lib.hid (HB6.out.trans (hb.mono HB6.out.size))
    clear hb HB6
    go_wp2_with fail
    refine (product_ok a c oa oc mac _ (HT.out.below HB7.out)).mono ?_
    rintro e W8 ⟨rfl, hb⟩
    have HB8 := Lib.hid (HB7.out.trans (hb.mono HB7.out.size))
    clear hb HB7
    go_wp2_with fail
    refine (product_ok b c ob oc mbc _ (HT.out.below HB8.out)).mono ?_
    rintro e W9 ⟨rfl, hb⟩
    have HB9 := Lib.hid (HB8.out.trans (hb.mono HB8.out.size))
    clear hb HB8
    go_wp2_with fail
    refine (HG4.out _ (HT.out.below HB9.out)).mono ?_
    rintro e W10 ⟨rfl, hb⟩
    have HB10 := Lib.hid (HB9.out.trans (hb.mono HB9.out.size))
    clear hb HB9
    go_wp2_with fail
    refine (product_ok g c og oc ogc _ (HT.out.below HB10.out)).mono ?_
    rintro e W11 ⟨rfl, hb⟩
    have HB11 := Lib.hid (HB10.out.trans (hb.mono HB10.out.size))
    clear hb HB10
    go_wp2_with fail
    go_ret
    exact ⟨rfl, HB11.out⟩

end Go.Proofs.YtiocehlefpbbhaaDoor
