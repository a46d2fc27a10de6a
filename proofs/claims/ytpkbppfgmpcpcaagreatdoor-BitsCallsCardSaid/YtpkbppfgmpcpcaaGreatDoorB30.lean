/-
  BitsCalls returns true for any texts, int, bytes and texts of bits.
-/
import Derived.Test.YtpkbppfgmpcpcaaGreatDoorBE
namespace Go.Proofs.YtpkbppfgmpcpcaaGreatDoor
open Go.RowKit NV
open Go.Lib (decDigits)

set_option maxHeartbeats 3200000 in
set_option maxRecDepth 100000 in
theorem bcalls_far1 {s t : ByteArray} {n : Int} {b0 t0 : Option Addr} {bl bc tl tc : Nat} {bf : Nat → UInt8} {tf : Nat → ByteArray} {w : World} (_hby : BRow w b0 bl bf) (_hbc : bl ≤ bc ∧ bc ≤ maxLen) (_htt : TRow w t0 tl tf) (_htc : tl ≤ tc ∧ tc ≤ maxLen) (htab : Tab w) (h1 : 600 < s.size) :
    Calls Tryz.prog 3 #[.string s, .string t, .int .i64 n, .slice b0 bl bc, .slice t0 tl tc] w fun e w' => e = .returned (.bool true) ∧ Below w.heap.size w w' := by
  have HL := Lib.hid (lives3_any w htab)
  have hm1 := _hbc.2
  have hm2 := _htc.2
  unfold maxLen at hm1 hm2
  have hl1 : bl ≤ 9223372036854775807 := by omega
  have hl2 : tl ≤ 9223372036854775807 := by omega
  clear _hby _htt htab _hbc _htc hm1 hm2
  go_enter Tryz.func3, Tryz.ntmps3
  go_wp2_with fail
  refine HL.out.mono ?_
  rintro e w1 ⟨rfl, hb1⟩
  have HB := Lib.hid hb1
  clear hb1 HL
  go_wp2_with fail
  go_ret
  exact ⟨rfl, HB.out⟩

set_option maxHeartbeats 3200000 in
set_option maxRecDepth 100000 in
theorem bcalls_far2 {s t : ByteArray} {n : Int} {b0 t0 : Option Addr} {bl bc tl tc : Nat} {bf : Nat → UInt8} {tf : Nat → ByteArray} {w : World} (_hby : BRow w b0 bl bf) (_hbc : bl ≤ bc ∧ bc ≤ maxLen) (_htt : TRow w t0 tl tf) (_htc : tl ≤ tc ∧ tc ≤ maxLen) (htab : Tab w) (h1 : ¬ 600 < s.size) (h2 : 200 < t.size) :
    Calls Tryz.prog 3 #[.string s, .string t, .int .i64 n, .slice b0 bl bc, .slice t0 tl tc] w fun e w' => e = .returned (.bool true) ∧ Below w.heap.size w w' := by
  have HL := Lib.hid (lives3_any w htab)
  have hm1 := _hbc.2
  have hm2 := _htc.2
  unfold maxLen at hm1 hm2
  have hl1 : bl ≤ 9223372036854775807 := by omega
  have hl2 : tl ≤ 9223372036854775807 := by omega
  clear _hby _htt htab _hbc _htc hm1 hm2
  go_enter Tryz.func3, Tryz.ntmps3
  go_wp2_with fail
  refine HL.out.mono ?_
  rintro e w1 ⟨rfl, hb1⟩
  have HB := Lib.hid hb1
  clear hb1 HL
  go_wp2_with fail
  go_ret
  exact ⟨rfl, HB.out⟩

set_option maxHeartbeats 3200000 in
set_option maxRecDepth 100000 in
theorem bcalls_far3 {s t : ByteArray} {n : Int} {b0 t0 : Option Addr} {bl bc tl tc : Nat} {bf : Nat → UInt8} {tf : Nat → ByteArray} {w : World} (_hby : BRow w b0 bl bf) (_hbc : bl ≤ bc ∧ bc ≤ maxLen) (_htt : TRow w t0 tl tf) (_htc : tl ≤ tc ∧ tc ≤ maxLen) (htab : Tab w) (h1 : ¬ 600 < s.size) (h2 : ¬ 200 < t.size) (h3 : 100 < bl) :
    Calls Tryz.prog 3 #[.string s, .string t, .int .i64 n, .slice b0 bl bc, .slice t0 tl tc] w fun e w' => e = .returned (.bool true) ∧ Below w.heap.size w w' := by
  have HL := Lib.hid (lives3_any w htab)
  have hm1 := _hbc.2
  have hm2 := _htc.2
  unfold maxLen at hm1 hm2
  have hl1 : bl ≤ 9223372036854775807 := by omega
  have hl2 : tl ≤ 9223372036854775807 := by omega
  clear _hby _htt htab _hbc _htc hm1 hm2
  go_enter Tryz.func3, Tryz.ntmps3
  go_wp2_with fail
  refine HL.out.mono ?_
  rintro e w1 ⟨rfl, hb1⟩
  have HB := Lib.hid hb1
  clear hb1 HL
  go_wp2_with fail
  go_ret
  exact ⟨rfl, HB.out⟩

set_option maxHeartbeats 3200000 in
set_option maxRecDepth 100000 in
theorem bcalls_far4 {s t : ByteArray} {n : Int} {b0 t0 : Option Addr} {bl bc tl tc : Nat} {bf : Nat → UInt8} {tf : Nat → ByteArray} {w : World} (_hby : BRow w b0 bl bf) (_hbc : bl ≤ bc ∧ bc ≤ maxLen) (_htt : TRow w t0 tl tf) (_htc : tl ≤ tc ∧ tc ≤ maxLen) (htab : Tab w) (h1 : ¬ 600 < s.size) (h2 : ¬ 200 < t.size) (h3 : ¬ 100 < bl) (h4 : 40 < tl) :
    Calls Tryz.prog 3 #[.string s, .string t, .int .i64 n, .slice b0 bl bc, .slice t0 tl tc] w fun e w' => e = .returned (.bool true) ∧ Below w.heap.size w w' := by
  have HL := Lib.hid (lives3_any w htab)
  have hm1 := _hbc.2
  have hm2 := _htc.2
  unfold maxLen at hm1 hm2
  have hl1 : bl ≤ 9223372036854775807 := by omega
  have hl2 : tl ≤ 9223372036854775807 := by omega
  clear _hby _htt htab _hbc _htc hm1 hm2
  go_enter Tryz.func3, Tryz.ntmps3
  go_wp2_with fail
  refine HL.out.mono ?_
  rintro e w1 ⟨rfl, hb1⟩
  have HB := Lib.hid hb1
  clear hb1 HL
  go_wp2_with fail
  go_ret
  exact ⟨rfl, HB.out⟩

set_option maxHeartbeats 3200000 in
set_option maxRecDepth 100000 in
theorem bcalls_long {s t : ByteArray} {n : Int} {b0 t0 : Option Addr} {bl bc tl tc : Nat} {bf : Nat → UInt8} {tf : Nat → ByteArray} {w : World} (_hby : BRow w b0 bl bf) (_hbc : bl ≤ bc ∧ bc ≤ maxLen) (_htt : TRow w t0 tl tf) (_htc : tl ≤ tc ∧ tc ≤ maxLen) (htab : Tab w) (h1 : ¬ 600 < s.size) (h2 : ¬ 200 < t.size) (h3 : ¬ 100 < bl) (h4 : ¬ 40 < tl) (hno : ¬ ∀ j, j < tl → (tf j).size ≤ 100) :
    Calls Tryz.prog 3 #[.string s, .string t, .int .i64 n, .slice b0 bl bc, .slice t0 tl tc] w fun e w' => e = .returned (.bool true) ∧ Below w.heap.size w w' := by
  have HL := Lib.hid (lives3_any w htab)
  have HTT := Lib.hid _htt
  have HNO := Lib.hid hno
  clear _hby _htt htab _hbc _htc hno
  go_enter Tryz.func3, Tryz.ntmps3
  go_wp2_with fail
  refine HL.out.mono ?_
  rintro e w1 ⟨rfl, hb1⟩
  have HB := Lib.hid hb1
  clear hb1 HL
  go_wp2_with fail
  go_loop [11] (fun iv => ∃ k : Nat, k ≤ tl ∧ iv = .int .i64 (k : Int) ∧ Hid (∀ j, j < k → (tf j).size ≤ 100)) (fun iv => tl - (intOf iv).toNat)
  case atStart => exact ⟨0, Nat.zero_le _, rfl, Lib.hid (fun j hj => absurd hj (Nat.not_lt_zero _))⟩
  case round =>
    obtain ⟨k, hk, rfl, HN⟩ := hrel
    by_cases hlt : k < tl
    · rcases (HTT.out.below HB.out) with h0 | ⟨a, rfl, ha, hcell⟩
      · omega
      have c0 := hcell k hlt
      clear hcell ha
      by_cases hz : (tf k).size ≤ 100
      · have HN2 := Lib.hid (show ∀ j, j < k + 1 → (tf j).size ≤ 100 from fun j hj => by
          by_cases h : j = k
          · subst h; exact hz
          · exact HN.out j (by omega))
        have hz2 : ¬ (100 : Int) < (((tf k).size : Nat) : Int) := by omega
        clear HTT
        go_wp2_with fail
        go_round
        case rel => exact ⟨k + 1, by omega, by go_num, HN2⟩
        case measure => simp [intOf]; omega
      · have hz2 : (100 : Int) < (((tf k).size : Nat) : Int) := by omega
        clear HTT
        go_wp2_with fail
        go_ret
        exact ⟨rfl, HB.out⟩
    · exact absurd (fun j (hj : j < tl) => HN.out j (by omega)) HNO.out

set_option maxHeartbeats 12800000 in
set_option maxRecDepth 100000 in
theorem bcalls_yes {s t : ByteArray} {n : Int} {b0 t0 : Option Addr} {bl bc tl tc : Nat} {bf : Nat → UInt8} {tf : Nat → ByteArray} {w : World} (_hby : BRow w b0 bl bf) (_hbc : bl ≤ bc ∧ bc ≤ maxLen) (_htt : TRow w t0 tl tf) (_htc : tl ≤ tc ∧ tc ≤ maxLen) (htab : Tab w) (h1 : ¬ 600 < s.size) (h2 : ¬ 200 < t.size) (h3 : ¬ 100 < bl) (h4 : ¬ 40 < tl) (hall : ∀ j, j < tl → (tf j).size ≤ 100) :
    Calls Tryz.prog 3 #[.string s, .string t, .int .i64 n, .slice b0 bl bc, .slice t0 tl tc] w fun e w' => e = .returned (.bool true) ∧ Below w.heap.size w w' := by
  have HL := Lib.hid (lives3_any w htab)
  have HTT := Lib.hid _htt
  have HBY := Lib.hid _hby
  have HTAB := Lib.hid (fun W (h : Below w.heap.size w W) => htab.below h)
  obtain ⟨n1, n2, hN1, hN2⟩ := both_Number s (by omega)
  obtain ⟨c1, c2, c3, hC1, hC2⟩ := both_Cell s (by omega)
  obtain ⟨p1, p2, hW1, hW2⟩ := both_Word t n (by omega)
  obtain ⟨f1, f2, hF1, hF2⟩ := both_FromBytes (ao := b0) (N := bl) (cap := bc) (f := bf) n (by omega)
  obtain ⟨M, mf, u2, hM, hU1, hU2⟩ := both_Cut s n (by omega)
  obtain ⟨j1, j2, hJ1, hJ2⟩ := both_Join (ao := t0) (N := tl) (cap := tc) (f := tf) (by omega) (fun j hj => by have := hall j hj; omega)
  have HN1 := Lib.hid hN1
  have HN2 := Lib.hid hN2
  have HC1 := Lib.hid hC1
  have HC2 := Lib.hid hC2
  have HW1 := Lib.hid hW1
  have HW2 := Lib.hid hW2
  have HF1 := Lib.hid hF1
  have HF2 := Lib.hid hF2
  have HU1 := Lib.hid hU1
  have HU2 := Lib.hid hU2
  have HJ1 := Lib.hid hJ1
  have HJ2 := Lib.hid hJ2
  have HK1 := Lib.hid (fun W => bCheck_any s W (by omega))
  have HK2 := Lib.hid (fun W => rCheck3_any s W (by omega))
  have HALL := Lib.hid hall
  clear _hby _htt htab _hbc _htc hall hN1 hN2 hC1 hC2 hW1 hW2 hF1 hF2 hU1 hU2 hJ1 hJ2
  go_enter Tryz.func3, Tryz.ntmps3
  go_wp2_with fail
  refine HL.out.mono ?_
  rintro e w1 ⟨rfl, hb1⟩
  have HB := Lib.hid hb1
  clear hb1 HL
  go_wp2_with fail
  go_loop [11] (fun iv => ∃ k : Nat, k ≤ tl ∧ iv = .int .i64 (k : Int) ∧ Hid (∀ j, j < k → (tf j).size ≤ 100)) (fun iv => tl - (intOf iv).toNat)
  case atStart => exact ⟨0, Nat.zero_le _, rfl, Lib.hid (fun j hj => absurd hj (Nat.not_lt_zero _))⟩
  case round =>
    obtain ⟨k, hk, rfl, HN⟩ := hrel
    by_cases hlt : k < tl
    · rcases (HTT.out.below HB.out) with h0 | ⟨a, rfl, ha, hcell⟩
      · omega
      have c0 := hcell k hlt
      clear hcell ha
      by_cases hz : (tf k).size ≤ 100
      · have HN2 := Lib.hid (show ∀ j, j < k + 1 → (tf j).size ≤ 100 from fun j hj => by
          by_cases h : j = k
          · subst h; exact hz
          · exact HN.out j (by omega))
        have hz2 : ¬ (100 : Int) < (((tf k).size : Nat) : Int) := by omega
        clear HTT
        go_wp2_with fail
        go_round
        case rel => exact ⟨k + 1, by omega, by go_num, HN2⟩
        case measure => simp [intOf]; omega
      · exact absurd (HALL.out k hlt) hz
    · obtain rfl : k = tl := by omega
      clear HN HALL
      go_wp2_with fail
      refine (HN1.out _ (HTAB.out _ HB.out)).mono ?_
      rintro e x1 ⟨rfl, hb⟩
      replace HB := Lib.hid (HB.out.trans (hb.mono HB.out.size))
      clear hb
      go_wp2_with fail
      refine (HN2.out _).mono ?_
      rintro e x2 ⟨rfl, hb⟩
      replace HB := Lib.hid (HB.out.trans (hb.mono HB.out.size))
      clear hb
      go_wp2_with fail
      refine (HC1.out _ (HTAB.out _ HB.out)).mono ?_
      rintro e x3 ⟨rfl, hb⟩
      replace HB := Lib.hid (HB.out.trans (hb.mono HB.out.size))
      clear hb
      go_wp2_with fail
      refine (HC2.out _).mono ?_
      rintro e x4 ⟨rfl, hb⟩
      replace HB := Lib.hid (HB.out.trans (hb.mono HB.out.size))
      clear hb
      go_wp2_with fail
      refine (HW1.out _ (HTAB.out _ HB.out)).mono ?_
      rintro e x5 ⟨rfl, hb⟩
      replace HB := Lib.hid (HB.out.trans (hb.mono HB.out.size))
      clear hb
      go_wp2_with fail
      refine (HW2.out _).mono ?_
      rintro e x6 ⟨rfl, hb⟩
      replace HB := Lib.hid (HB.out.trans (hb.mono HB.out.size))
      clear hb
      go_wp2_with fail
      refine (Own_bytes _ (HBY.out.below HB.out) (by omega)).mono ?_
      rintro e x7 ⟨oa, ok, rfl, ho1, ho2, ho3, hb⟩
      replace HB := Lib.hid (HB.out.trans (hb.mono HB.out.size))
      have HO := Lib.hid (And.intro ho1 (And.intro ho2 ho3))
      clear hb ho1 ho2 ho3
      go_wp2_with fail
      refine (HF1.out _ _ _ HO.out.1 HO.out.2.1 HO.out.2.2).mono ?_
      rintro e x8 ⟨rfl, hb⟩
      replace HB := Lib.hid (HB.out.trans (hb.mono HB.out.size))
      clear hb
      clear HO
      go_wp2_with fail
      refine (HF2.out _ (HBY.out.below HB.out)).mono ?_
      rintro e x9 ⟨rfl, hb⟩
      replace HB := Lib.hid (HB.out.trans (hb.mono HB.out.size))
      clear hb
      go_wp2_with fail
      refine (HU1.out _).mono ?_
      rintro e x10 ⟨v1, rfl, hs1, hb⟩
      replace HB := Lib.hid (HB.out.trans (hb.mono HB.out.size))
      obtain ⟨vo1, vc1, rfl⟩ := hs1.form
      have HS1 := Lib.hid hs1
      clear hb hs1
      go_wp2_with fail
      refine (HU2.out _).mono ?_
      rintro e x11 ⟨v2, rfl, hs2, hb⟩
      replace HB := Lib.hid (HB.out.trans (hb.mono HB.out.size))
      obtain ⟨vo2, vc2, rfl⟩ := hs2.form
      have HS2 := Lib.hid (And.intro (HS1.out.below hb) hs2)
      clear hb hs2 HS1
      go_wp2_with fail
      refine (Own_texts _ (HTT.out.below HB.out) (by omega)).mono ?_
      rintro e x12 ⟨oa2, ok2, rfl, ho1, ho2, ho3, hb⟩
      replace HB := Lib.hid (HB.out.trans (hb.mono HB.out.size))
      replace HS2 := Lib.hid (And.intro (HS2.out.1.below hb) (HS2.out.2.below hb))
      have HO := Lib.hid ho3
      clear hb ho1 ho2 ho3
      go_wp2_with fail
      refine (HJ1.out _ _ _ HO.out).mono ?_
      rintro e x13 ⟨rfl, hb⟩
      replace HB := Lib.hid (HB.out.trans (hb.mono HB.out.size))
      replace HS2 := Lib.hid (And.intro (HS2.out.1.below hb) (HS2.out.2.below hb))
      clear hb
      clear HO
      go_wp2_with fail
      refine (HJ2.out _ (HTT.out.below HB.out)).mono ?_
      rintro e x14 ⟨rfl, hb⟩
      replace HB := Lib.hid (HB.out.trans (hb.mono HB.out.size))
      replace HS2 := Lib.hid (And.intro (HS2.out.1.below hb) (HS2.out.2.below hb))
      clear hb
      have hsame : Calls Tryz.prog 29 #[.slice vo1 M vc1, .slice vo2 M vc2] x14 fun e w' => e = .returned (.bool true) ∧ Below x14.heap.size x14 w' := by
        obtain ⟨a1, k1, e1, t1, _⟩ := HS2.out.1.trow
        obtain ⟨a2, k2, e2, t2, _⟩ := HS2.out.2.trow
        simp only [Value.slice.injEq, true_and] at e1 e2
        obtain ⟨rfl, rfl⟩ := e1
        obtain ⟨rfl, rfl⟩ := e2
        exact Same_row t1 t2 (by omega)
      have HSAME := Lib.hid hsame
      clear hsame HS2
      go_wp2_with fail
      refine (HSAME.out).mono ?_
      rintro e x15 ⟨rfl, hb⟩
      replace HB := Lib.hid (HB.out.trans (hb.mono HB.out.size))
      clear hb
      go_wp2_with fail
      refine (HK1.out _).mono ?_
      rintro e x16 ⟨rfl, rfl⟩
      go_wp2_with fail
      refine (HK2.out _).mono ?_
      rintro e x17 ⟨rfl, rfl⟩
      go_wp2_with fail
      go_ret
      exact ⟨ret_bool (by simp), HB.out⟩

theorem bcalls_any {s t : ByteArray} {n : Int} {b0 t0 : Option Addr} {bl bc tl tc : Nat} {bf : Nat → UInt8} {tf : Nat → ByteArray} {w : World} (_hby : BRow w b0 bl bf) (_hbc : bl ≤ bc ∧ bc ≤ maxLen) (_htt : TRow w t0 tl tf) (_htc : tl ≤ tc ∧ tc ≤ maxLen) (htab : Tab w) :
    Calls Tryz.prog 3 #[.string s, .string t, .int .i64 n, .slice b0 bl bc, .slice t0 tl tc] w fun e w' => e = .returned (.bool true) ∧ Below w.heap.size w w' := by
  by_cases h1 : 600 < s.size
  · exact bcalls_far1 _hby _hbc _htt _htc htab h1
  by_cases h2 : 200 < t.size
  · exact bcalls_far2 _hby _hbc _htt _htc htab h1 h2
  by_cases h3 : 100 < bl
  · exact bcalls_far3 _hby _hbc _htt _htc htab h1 h2 h3
  by_cases h4 : 40 < tl
  · exact bcalls_far4 _hby _hbc _htt _htc htab h1 h2 h3 h4
  by_cases hall : ∀ j, j < tl → (tf j).size ≤ 100
  · exact bcalls_yes _hby _hbc _htt _htc htab h1 h2 h3 h4 hall
  · exact bcalls_long _hby _hbc _htt _htc htab h1 h2 h3 h4 hall

end Go.Proofs.YtpkbppfgmpcpcaaGreatDoor
