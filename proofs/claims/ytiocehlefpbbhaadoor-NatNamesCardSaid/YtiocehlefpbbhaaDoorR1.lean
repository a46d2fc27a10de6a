/-
  NatRing returns true for all texts.
-/
import Derived.Test.YtiocehlefpbbhaaDoorW23
namespace Go.Proofs.YtiocehlefpbbhaaDoor
open Go.RowKit NV
open Go.Lib (decDigits)

/-- n has at most d digits. -/
def Lt (d n : Nat) : Prop := n < 10 ^ d
theorem Lt.of_len {n d : Nat} (hd : 0 < d) (h : (decDigits n).length ≤ d) : Lt d n := (dec_len_le hd).1 h
theorem Lt.ok {n d : Nat} (h : Lt d n) (hd0 : 0 < d) (hd : d ≤ 4000) : Ok n := Nat.le_trans ((dec_len_le (k := d) hd0).2 h) hd
theorem Lt.mono {n d e : Nat} (h : Lt d n) (hde : d ≤ e) : Lt e n := Nat.lt_of_lt_of_le h (Nat.pow_le_pow_right (by omega) hde)
theorem Lt.mul {a b d e : Nat} (ha : Lt d a) (hb : Lt e b) : Lt (d + e) (a * b) := by
  unfold Lt at *; rw [Nat.pow_add]; exact Nat.mul_lt_mul'' ha hb
theorem Lt.add {a b d : Nat} (ha : Lt d a) (hb : Lt d b) : Lt (d + 1) (a + b) := by
  unfold Lt at *; rw [Nat.pow_succ]; omega
theorem Lt.le {a b d : Nat} (hb : Lt d b) (h : a ≤ b) : Lt d a := Nat.lt_of_le_of_lt h hb

theorem three_cells {w : World} (s t u : ByteArray) (e : TypeId) : ∀ j, j < [s, t, u].length → (w.alloc (.cells #[.string s, .string t, .string u] e)).cell? ⟨w.heap.size, j, none⟩ = some (.string ([s, t, u].getD j ByteArray.empty)) := by
  intro j hj
  rw [Lib.cell_of_heap (heap_alloc_new w _)]
  match j, hj with
  | 0, _ => rfl
  | 1, _ => rfl
  | 2, _ => rfl

/-- What valid has said. -/
theorem valid_parts {d : Nat} {ss : List ByteArray} (_hd : d ≤ 4000) (h : allV d ss = true) {s : ByteArray} (hs : s ∈ ss) : ∃ n, s = dstr n ∧ (decDigits n).length ≤ d := by
  unfold allV at h
  have := List.all_eq_true.1 h s hs
  simp [vld] at this
  obtain ⟨h1, h2⟩ := this
  obtain ⟨e1, _⟩ := dec_of_chk h1
  refine ⟨dv s.data.toList, dstr_of e1.symm, ?_⟩
  rw [e1, ← Go.Lib.size_eq]; exact h2

set_option maxHeartbeats 3200000 in
set_option maxRecDepth 100000 in
theorem ring_no (s t u : ByteArray) (w : World) (htab : Tab w) (hs : s.size ≤ 140737488351232) (ht : t.size ≤ 140737488351232) (hu : u.size ≤ 140737488351232) (hv : allV 1200 [s, t, u] = false) :
    Calls Tryd.prog 5 #[.string s, .string t, .string u] w fun e w' => e = .returned (.bool true) ∧ Below w.heap.size w w' := by
  have HL := Lib.hid (lives_any w htab)
  have HV := Lib.hid (fun (W : World) => valid_any (W.alloc (.cells #[.string s, .string t, .string u] 23)) W.heap.size 1200 [s, t, u] (by simp) (by omega) (by intro x hx; simp at hx; rcases hx with rfl | rfl | rfl <;> assumption) (three_cells s t u _))
  rw [hv] at HV
  clear htab hv
  go_enter Tryd.func5, Tryd.ntmps5
  go_wp2_with fail
  refine HL.out.mono ?_
  rintro e w1 ⟨rfl, hb1⟩
  have HB1 := Lib.hid hb1
  clear hb1
  go_wp2_with fail
  refine (HV.out w1).mono ?_
  rintro e w2 ⟨rfl, rfl⟩
  go_wp2_with fail
  go_ret
  exact ⟨rfl, HB1.out.alloc HB1.out.size _⟩

theorem Check_ok (a : Nat) (ha : Ok a) (w : World) :
    Calls Tryd.prog 20 #[.string (dstr a)] w fun e w' => e = .returned (.int .i64 0) ∧ w = w' := by
  have h := check_any (dstr a) w (small_str ha)
  rw [dstr_list, ha.chk] at h
  exact h

theorem str_eq {a b : Nat} (h : a = b) : ((dstr a).toList == (dstr b).toList) = true := by rw [h]; simp

set_option maxHeartbeats 6400000 in
set_option maxRecDepth 100000 in
theorem ring_yes (a b c : Nat) (w : World) (htab : Tab w) (hv : allV 1200 [dstr a, dstr b, dstr c] = true) (ha : Lt 1200 a) (hb : Lt 1200 b) (hc : Lt 1200 c) :
    Calls Tryd.prog 5 #[.string (dstr a), .string (dstr b), .string (dstr c)] w fun e w' => e = .returned (.bool true) ∧ Below w.heap.size w w' := by
  have oa := ha.ok (by omega) (by omega)
  have ob := hb.ok (by omega) (by omega)
  have oc := hc.ok (by omega) (by omega)
  have oab := (ha.add hb).ok (by omega) (by omega)
  have oba := (hb.add ha).ok (by omega) (by omega)
  have obc := (hb.add hc).ok (by omega) (by omega)
  have oab_c := ((ha.add hb).add (hc.mono (show 1200 ≤ 1200 + 1 by omega))).ok (by omega) (by omega)
  have oa_bc := ((ha.mono (show 1200 ≤ 1200 + 1 by omega)).add (hb.add hc)).ok (by omega) (by omega)
  have mab := (ha.mul hb).ok (by omega) (by omega)
  have mba := (hb.mul ha).ok (by omega) (by omega)
  have mbc := (hb.mul hc).ok (by omega) (by omega)
  have mac := (ha.mul hc).ok (by omega) (by omega)
  have mab_c := ((ha.mul hb).mul hc).ok (by omega) (by omega)
  have ma_bc := (ha.mul (hb.mul hc)).ok (by omega) (by omega)
  have ma_sbc := (ha.mul (hb.add hc)).ok (by omega) (by omega)
  have smab_ac := ((ha.mul hb).add (ha.mul hc)).ok (by omega) (by omega)
  have o1 : Ok 1 := one_ok
  have o0 : Ok 0 := zero_ok
  have oa0 : Ok (a + 0) := oa
  have oa1 : Ok (a * 1) := by rw [Nat.mul_one]; exact oa
  have oaz : Ok (a * 0) := by rw [Nat.mul_zero]; exact zero_ok
  have HL := Lib.hid (lives_any w htab)
  have HV := Lib.hid (fun (W : World) => valid_any (W.alloc (.cells #[.string (dstr a), .string (dstr b), .string (dstr c)] 23)) W.heap.size 1200 [dstr a, dstr b, dstr c] (by simp) (by omega) (by intro x hx; simp at hx; rcases hx with rfl | rfl | rfl <;> exact small_str (by assumption)) (three_cells _ _ _ _))
  rw [hv] at HV
  have HT := Lib.hid htab
  have e1 := str_eq (show a + b - b = a by omega)
  have e2 := str_eq (show a + b = b + a by omega)
  have e3 := str_eq (show a + b + c = a + (b + c) by omega)
  have e4 := str_eq (show a * b = b * a from Nat.mul_comm _ _)
  have e5 := str_eq (show a * b * c = a * (b * c) from Nat.mul_assoc _ _ _)
  have e6 := str_eq (show a * (b + c) = a * b + a * c from Nat.mul_add _ _ _)
  have e7 := str_eq (show a + 0 = a from rfl)
  have e8 := str_eq (show a * 1 = a from Nat.mul_one _)
  have E9 := Lib.hid (show ((dstr 0).toList == [48]) = true by rw [Go.Lib.toList_data, dstr_list, dec_small (by omega)]; rfl)
  have S0 := Lib.hid (show (⟨#[48]⟩ : ByteArray) = dstr 0 by rw [dstr, dec_small (by omega)]; rfl)
  have S1 := Lib.hid (show (⟨#[49]⟩ : ByteArray) = dstr 1 by rw [dstr, dec_one])
  clear htab hv ha hb hc
  go_enter Tryd.func5, Tryd.ntmps5
  go_wp2_with fail
  refine HL.out.mono ?_
  rintro e w1 ⟨rfl, hb1⟩
  have HB1 := Lib.hid hb1
  clear hb1
  go_wp2_with fail
  refine (HV.out w1).mono ?_
  rintro e w2 ⟨rfl, rfl⟩
  have HB2 := Lib.hid (HB1.out.alloc HB1.out.size (.cells #[.string (dstr a), .string (dstr b), .string (dstr c)] 23))
  generalize w1.alloc (.cells #[.string (dstr a), .string (dstr b), .string (dstr c)] 23) = W0 at HB2 ⊢
  go_wp2_with fail
  clear HL HV
  refine (Add_ok a b oa ob oab _ (HT.out.below HB2.out)).mono ?_
  rintro e W3 ⟨rfl, hb⟩
  have HB3 := Lib.hid (HB2.out.trans (hb.mono HB2.out.size))
  clear hb HB2
  go_wp2_with fail
  refine (Mul_ok a b oa ob mab _ (HT.out.below HB3.out)).mono ?_
  rintro e W4 ⟨rfl, hb⟩
  have HB4 := Lib.hid (HB3.out.trans (hb.mono HB3.out.size))
  clear hb HB3
  go_wp2_with fail
  refine (Sub_ok (a + b) b oab ob (Nat.le_add_left _ _) _ (HT.out.below HB4.out)).mono ?_
  rintro e W5 ⟨rfl, hb⟩
  have HB5 := Lib.hid (HB4.out.trans (hb.mono HB4.out.size))
  clear hb HB4
  go_wp2_with fail
  refine (sum_ok b a ob oa oba _ (HT.out.below HB5.out)).mono ?_
  rintro e W6 ⟨rfl, hb⟩
  have HB6 := Lib.hid (HB5.out.trans (hb.mono HB5.out.size))
  clear hb HB5
  go_wp2_with fail
  refine (sum_ok (a + b) c oab oc oab_c _ (HT.out.below HB6.out)).mono ?_
  rintro e W7 ⟨rfl, hb⟩
  have HB7 := Lib.hid (HB6.out.trans (hb.mono HB6.out.size))
  clear hb HB6
  go_wp2_with fail
  refine (sum_ok b c ob oc obc _ (HT.out.below HB7.out)).mono ?_
  rintro e W8 ⟨rfl, hb⟩
  have HB8 := Lib.hid (HB7.out.trans (hb.mono HB7.out.size))
  clear hb HB7
  go_wp2_with fail
  refine (sum_ok a (b + c) oa obc oa_bc _ (HT.out.below HB8.out)).mono ?_
  rintro e W9 ⟨rfl, hb⟩
  have HB9 := Lib.hid (HB8.out.trans (hb.mono HB8.out.size))
  clear hb HB8
  go_wp2_with fail
  refine (product_ok b a ob oa mba _ (HT.out.below HB9.out)).mono ?_
  rintro e W10 ⟨rfl, hb⟩
  have HB10 := Lib.hid (HB9.out.trans (hb.mono HB9.out.size))
  clear hb HB9
  go_wp2_with fail
  refine (product_ok (a * b) c mab oc mab_c _ (HT.out.below HB10.out)).mono ?_
  rintro e W11 ⟨rfl, hb⟩
  have HB11 := Lib.hid (HB10.out.trans (hb.mono HB10.out.size))
  clear hb HB10
  go_wp2_with fail
  refine (product_ok b c ob oc mbc _ (HT.out.below HB11.out)).mono ?_
  rintro e W12 ⟨rfl, hb⟩
  have HB12 := Lib.hid (HB11.out.trans (hb.mono HB11.out.size))
  clear hb HB11
  go_wp2_with fail
  refine (product_ok a (b * c) oa mbc ma_bc _ (HT.out.below HB12.out)).mono ?_
  rintro e W13 ⟨rfl, hb⟩
  have HB13 := Lib.hid (HB12.out.trans (hb.mono HB12.out.size))
  clear hb HB12
  go_wp2_with fail
  refine (sum_ok b c ob oc obc _ (HT.out.below HB13.out)).mono ?_
  rintro e W14 ⟨rfl, hb⟩
  have HB14 := Lib.hid (HB13.out.trans (hb.mono HB13.out.size))
  clear hb HB13
  go_wp2_with fail
  refine (product_ok a (b + c) oa obc ma_sbc _ (HT.out.below HB14.out)).mono ?_
  rintro e W15 ⟨rfl, hb⟩
  have HB15 := Lib.hid (HB14.out.trans (hb.mono HB14.out.size))
  clear hb HB14
  go_wp2_with fail
  refine (product_ok a c oa oc mac _ (HT.out.below HB15.out)).mono ?_
  rintro e W16 ⟨rfl, hb⟩
  have HB16 := Lib.hid (HB15.out.trans (hb.mono HB15.out.size))
  clear hb HB15
  go_wp2_with fail
  refine (sum_ok (a * b) (a * c) mab mac smab_ac _ (HT.out.below HB16.out)).mono ?_
  rintro e W17 ⟨rfl, hb⟩
  have HB17 := Lib.hid (HB16.out.trans (hb.mono HB16.out.size))
  clear hb HB16
  go_wp2_with fail
  refine (Check_ok (a * b) mab _).mono ?_
  rintro e V ⟨rfl, rfl⟩
  go_wp2_with fail
  refine (Check_ok (a + b) oab _).mono ?_
  rintro e V ⟨rfl, rfl⟩
  go_wp2_with fail
  rw [S0.out]
  refine (sum_ok a 0 oa o0 oa0 _ (HT.out.below HB17.out)).mono ?_
  rintro e W18 ⟨rfl, hb⟩
  have HB18 := Lib.hid (HB17.out.trans (hb.mono HB17.out.size))
  clear hb HB17
  go_wp2_with fail
  rw [S1.out]
  refine (product_ok a 1 oa o1 oa1 _ (HT.out.below HB18.out)).mono ?_
  rintro e W19 ⟨rfl, hb⟩
  have HB19 := Lib.hid (HB18.out.trans (hb.mono HB18.out.size))
  clear hb HB18
  go_wp2_with fail
  rw [S0.out]
  refine (product_ok a 0 oa o0 oaz _ (HT.out.below HB19.out)).mono ?_
  rintro e W20 ⟨rfl, hb⟩
  have HB20 := Lib.hid (HB19.out.trans (hb.mono HB19.out.size))
  clear hb HB19
  go_wp2_with fail
  go_ret
  refine ⟨?_, HB20.out⟩
  show Ending.returned (Value.bool ((dstr 0).toList == [48])) = _
  rw [E9.out]

end Go.Proofs.YtiocehlefpbbhaaDoor
