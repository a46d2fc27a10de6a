/-
  The contracts of binaryDigits and Bits.
-/
import Derived.Test.YtiocehlefpbbhaaGreatDoorW24
import Derived.Laws.AppendOwn
namespace Go.Proofs.YtiocehlefpbbhaaGreatDoor
open Go.RowKit NV
open Go.Lib (decDigits)

/-- What append leaves is a row. -/
theorem row_of_owns {w : World} {base n L : Nat} {v : Value} (h : w.ownsRow base 65 1 v L ((List.range (ln n)).map (fun j => Value.int .u64 ((dg n j : Nat) : Int)))) (hL : L = ln n) (h0 : v ≠ .slice none 0 0) :
    ∃ g c, v = .slice (some ⟨g, 0, none⟩) (ln n) c ∧ base ≤ g ∧ ln n ≤ c ∧ c ≤ maxLen ∧ Row w g (ln n) (dg n) := by
  subst hL
  rcases h.2 with ⟨h', _⟩ | ⟨g, cap, cur, h', hb, hg, hnc, hcm, hcs, htake⟩
  · exact absurd h' h0
  · refine ⟨g, cap, h', hb, hnc, hcm, cur, hg, by omega, fun j hj => ?_⟩
    have e : (cur.toList.take (ln n * 1))[j]? = some (.int .u64 ((dg n j : Nat) : Int)) := by
      rw [htake]; simp [hj]
    rw [List.getElem?_take, if_pos (by omega)] at e
    simpa using e

theorem at_nil (w : World) (k : Nat) (hk : k < 4611686018427387904) :
    Calls Tryz.prog 52 #[.slice none 0 0, .int .i64 k] w fun e w' => e = .returned (.int .u64 0) ∧ w = w' := by
  have h := at_any (Num.nil w) k hk
  rw [dg_past (by rw [ln_zero]; omega)] at h
  exact h

theorem bl_chunk {v : Nat} (h : 1 < ln v) : v / 536870912 ≠ 0 ∧ bl v = 29 + bl (v / 536870912) ∧ v / 536870912 < B ^ ln v := by
  have h1 : B ^ 1 ≤ v := by
    obtain ⟨k, hk⟩ : ∃ k, ln v = k + 1 := ⟨ln v - 1, by omega⟩
    have := pow_le_of_ln hk
    exact Nat.le_trans (Nat.pow_le_pow_right B_pos (by omega)) this
  have h2 : v / 536870912 ≠ 0 := by rw [Nat.pow_one, B_eq] at h1; omega
  refine ⟨h2, bl_shift 29 v h2, Nat.lt_of_le_of_lt (Nat.div_le_self _ _) (lt_pow_ln v)⟩

set_option maxHeartbeats 1600000 in
set_option maxRecDepth 100000 in
theorem binaryDigits_zero {w : World} {x : Value} (hx : Num w x 0) :
    Calls Tryz.prog 46 #[x] w fun e w' => e = .returned (.int .i64 0) ∧ Below w.heap.size w w' := by
  obtain ⟨i0, hi, hz0, hz1, hz2⟩ := info_parts info72
  have hn0 : w.ownsRow w.heap.size 65 1 (.slice none 0 0) 0 [] := World.ownsRow_nil w _ _ _
  obtain ⟨xa, xc, rfl, hcase⟩ := hx
  rw [ln_zero] at hcase ⊢
  rcases hcase with ⟨_, rfl, rfl⟩ | ⟨xb, rfl, _, hcx, _⟩
  all_goals
    go_enter Tryz.func46, Tryz.ntmps46
    go_wp2
    go_loop [3, 4] (fun c r => c = .int .i64 0 ∧ r = .slice none 0 0) (fun _ _ => 0)
    case atStart => exact ⟨rfl, rfl⟩
    case round =>
      obtain ⟨rfl, rfl⟩ := hrel
      go_wp2_with fail
      refine (at_nil _ 0 (by omega)).mono ?_
      rintro e w1 ⟨rfl, rfl⟩
      go_wp2_with fail
      have HL64 := Tryz.bits_Len64 0 w (by omega) (by omega)
      rw [show Lib.bitLen (0 : Int).toNat = 0 from rfl] at HL64
      refine HL64.mono ?_
      rintro e w1 ⟨rfl, rfl⟩
      go_wp2_with fail
      go_ret
      exact ⟨rfl, Below.refl _ _⟩

theorem bl_len (n : Nat) : bl n ≤ 30 * ln n := by
  apply bl_le
  have h := lt_pow_ln n
  have h2 : B ^ ln n ≤ (2 ^ 30) ^ ln n := Nat.pow_le_pow_left (by rw [B_eq]; omega) _
  rw [← Nat.pow_mul] at h2
  omega

set_option maxHeartbeats 1600000 in
set_option maxRecDepth 100000 in
/-- binaryDigits counts the binary digits. -/
theorem binaryDigits_any {w : World} {x : Value} {n : Nat} (hx : Num w x n) (hn : ln n ≤ 1000000) (h0 : n ≠ 0) :
    Calls Tryz.prog 46 #[x] w fun e w' => e = .returned (.int .i64 ((bl n : Nat) : Int)) ∧ Below w.heap.size w w' := by
  obtain ⟨i0, hi, hz0, hz1, hz2⟩ := info_parts info72
  obtain ⟨xb, xc, rfl, hxb, hxc⟩ := slice_form hx (ln_pos h0)
  have hpos := ln_pos h0
  have hn0 : w.ownsRow w.heap.size 65 1 (.slice none 0 0) 0 [] := World.ownsRow_nil w _ _ _
  go_enter Tryz.func46, Tryz.ntmps46
  have HNEWS := Lib.hid (show ∀ (j : Nat) (u : Value), ((List.range (ln n)).map (fun j => Value.int .u64 ((dg n j : Nat) : Int)))[j]? = some u → w.cell? ((⟨xb, 0, none⟩ : Addr).add j) = some u from fun j u hu => by
    have hj : j < ln n := by
      by_cases hj : j < ln n
      · exact hj
      · rw [List.getElem?_eq_none (by simp; omega)] at hu; cases hu
    have hc := hx.cell hj
    simp [hj] at hu
    rw [← hu]
    by_cases hj0 : j = 0
    · subst hj0; simpa [Addr.add] using hc
    · simpa [Addr.add, hj0] using hc)
  go_wp2_with (at_builtin; refine wpList_append_own _ rfl _ _ 40 rfl w.heap.size 65 i0 (.int .u64 0) 1 8 Tryz.underlying40 hi hz0 hz1 hz2 rfl (by omega) _ 0 [] rfl hn0 _ _ _ ((List.range (ln n)).map (fun j => Value.int .u64 ((dg n j : Nat) : Int))) rfl (by simp) HNEWS.out (by simp [Value.oneCell']) (by unfold maxLen; omega) (by omega) (Nat.le_refl _) ?_)
  intro v1 w1 hown1 hgrow1 hnil1
  obtain ⟨g1, c1, rfl, hg1, hc1, hm1, hrow1⟩ := row_of_owns hown1 (by omega) (by rw [Ne, hnil1]; omega)
  have hb1 : Below w.heap.size w w1 := (Below.refl _ _).grown hgrow1 (by simp) (fun k hk => by cases hk)
  have hbl : bl n ≤ 30 * ln n := bl_len n
  clear hown1 hgrow1 hnil1 HNEWS
  go_wp2
  go_loopw [3, 4] (fun c r wr => ∃ (cnt v g cap : Nat), c = .int .i64 ((cnt : Nat) : Int) ∧ r = .slice (some ⟨g, 0, none⟩) (ln v) cap ∧ Hid (cnt + bl v = bl n) ∧ v ≠ 0 ∧ ln v ≤ ln n ∧ ln v ≤ cap ∧ w.heap.size ≤ g ∧ Row wr g (ln v) (dg v) ∧ Below w.heap.size w wr) (fun c _ _ => bl n - (intOf c).toNat)
  case atStart => exact ⟨0, n, g1, c1, rfl, rfl, Lib.hid (by omega), h0, Nat.le_refl _, hc1, hg1, hrow1, hb1⟩
  case round =>
    obtain ⟨cnt, v, g, cap, rfl, rfl, hsum, hv0, hvn, hvc, hg, hrow, hbr⟩ := hrel
    clear hrow1 hb1
    have hvp := ln_pos hv0
    have hcnt : cnt ≤ bl n := by have := hsum.out; omega
    by_cases h1 : 1 < ln v
    · obtain ⟨k1, k2, k3⟩ := bl_chunk h1
      have K1 := Lib.hid k1
      have K2 := Lib.hid k2
      have K3 := Lib.hid k3
      have hs2 : cnt + 29 + bl (v / 536870912) = bl n := by have := hsum.out; omega
      have hcnt2 : cnt + 29 ≤ bl n := by omega
      have HS2 := Lib.hid hs2
      clear k1 k2 k3 hs2
      go_wp2_with fail
      refine (halve_any (b := w.heap.size) hrow (by omega) (fun _ _ => rfl) (lt_pow_ln v) hg).mono ?_
      rintro e w2 ⟨rfl, hrow2, hb2⟩
      have hb3 := hbr.trans hb2
      go_wp2_with fail
      refine (trim_any (n := v / 536870912) (by omega) hvc K3.out (fun j hj => hrow2.cell hj)).mono ?_
      rintro e w3 ⟨rfl, rfl⟩
      go_wp2_with fail
      have hln := ln_mono (Nat.div_le_self v 536870912)
      go_roundw
      case rel => exact ⟨cnt + 29, v / 536870912, g, cap, by go_num, rfl, HS2, K1.out, by omega, by omega, hg, hrow2.less hln, hb3⟩
      case measure => simp [intOf]; omega
    · have hl1 : ln v = 1 := by omega
      have hvb : v < B := by have := lt_pow_ln v; rw [hl1, Nat.pow_one] at this; exact this
      have hd0 : dg v 0 = v := by rw [dg, Nat.pow_zero, Nat.div_one, Nat.mod_eq_of_lt hvb]
      rw [B_eq] at hvb
      have HL64 := Tryz.bits_Len64 (v : Int) wr (by omega) (by omega)
      rw [Int.toNat_natCast, bl_lib (v + 1) v (by omega) (by omega)] at HL64
      have HA := at_any (w := wr) (v := .slice (some ⟨g, 0, none⟩) (ln v) cap) ⟨_, cap, rfl, .inr ⟨g, rfl, hrow.lt, hvc, fun j hj => hrow.cell hj⟩⟩ 0 (by omega)
      rw [hd0] at HA
      have H1 := Lib.hid HL64
      have H2 := Lib.hid HA
      have hcb : cnt + bl v ≤ 30 * ln n := by have := hsum.out; omega
      clear HL64 HA hd0 hvb hl1
      go_wp2_with fail
      refine H2.out.mono ?_
      rintro e w2 ⟨rfl, rfl⟩
      go_wp2_with fail
      refine H1.out.mono ?_
      rintro e w2 ⟨rfl, rfl⟩
      go_wp2_with fail
      go_ret
      refine ⟨?_, hbr⟩
      rw [← hsum.out]
      exact ret_int (by simp)

set_option maxHeartbeats 800000 in
set_option maxRecDepth 100000 in
/-- Bits: the number of binary digits. -/
theorem Bits_ok (a : Nat) (ha : Ok a) (w : World) :
    Calls Tryz.prog 18 #[.string (dstr a)] w fun e w' => e = .returned (.tuple #[.int .i64 ((bl a : Nat) : Int), .int .i64 0]) ∧ Below w.heap.size w w' := by
  have hck := check_any (dstr a) w (small_str ha)
  rw [dstr_list, ha.chk] at hck
  have HC := Lib.hid hck
  clear hck
  have hl := ha.ln
  have HP := Lib.hid (parse_dec a ha w)
  have HD : ∀ (W : World) (x : Value), Num W x a → Calls Tryz.prog 46 #[x] W fun e w' => e = .returned (.int .i64 ((bl a : Nat) : Int)) ∧ Below W.heap.size W w' := by
    intro W x hx
    by_cases h0 : a = 0
    · subst h0; rw [bl_zero]; exact binaryDigits_zero hx
    · exact binaryDigits_any hx (by omega) h0
  have HDD := Lib.hid HD
  clear HD
  go_enter Tryz.func18, Tryz.ntmps18
  go_wp2_with fail
  refine HC.out.mono ?_
  rintro e w1 ⟨rfl, rfl⟩
  go_wp2_with fail
  refine HP.out.mono ?_
  rintro e w2 ⟨x, rfl, hx, hb2⟩
  have HX := Lib.hid (HDD.out _ _ hx.num)
  have HB2 := Lib.hid hb2
  clear hx hb2
  go_wp2_with fail
  refine HX.out.mono ?_
  rintro e w3 ⟨rfl, hb3⟩
  have HB3 := Lib.hid (HB2.out.trans (hb3.mono HB2.out.size))
  clear hb3
  go_wp2_with fail
  go_ret2
  exact ⟨rfl, HB3.out⟩

end Go.Proofs.YtiocehlefpbbhaaGreatDoor
