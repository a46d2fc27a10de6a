/-
  Int of both; the reference's small numbers. The reference of layer 3: small, Value, Two, Share, Check. What PickCounts draws: the reference's All, share; Has of a distribution. PickCounts returns true for any weights and int. PickCounts returns true for any weights and int: the walk.
-/
import Derived.Test.YteojekiocecdnaaGreatDoorHG
import Derived.Test.YteojekiocecdnaaGreatDoorHR
import Derived.Test.YteojekiocecdnaaGreatDoorGM
import Derived.Test.YteojekiocecdnaaGreatDoorGL
import Derived.Test.YteojekiocecdnaaGreatDoorBC
import Derived.Test.YteojekiocecdnaaGreatDoorHE
import Derived.Test.YteojekiocecdnaaGreatDoorEE
import Derived.Test.YteojekiocecdnaaGreatDoorBB
import Derived.Deep.AppendLies
import Derived.Laws.OwnMore
import Derived.Deep.QuietTactic
import Derived.BigQuiet
import Derived.Sort.Walk0
import Derived.Laws.Cover1
namespace Go.Proofs.YteojekiocecdnaaGreatDoor
open Go.RowKit NV
open Go.Lib (decDigits)

theorem qstr_negnat (k : Nat) (hk : k ≤ 9223372036854775808) (h0 : 0 < k) : qstr ((-(k : Int) : Int) : Rat) = (⟨#[45]⟩ : ByteArray) ++ dstr k := by
  rw [← itoa_str (-(k : Int)) (by omega) (by omega), Lib.itoa, if_pos (by omega)]
  have : (-(k : Int)).natAbs = k := by omega
  rw [this]
  apply ByteArray.ext
  rw [ByteArray.data_append]
  simp [dstr]

theorem qstr_natI (k : Nat) (hk : k ≤ 9223372036854775807) : qstr ((k : Int) : Rat) = dstr k := by
  rw [← itoa_str (k : Int) (by omega) (by omega), Lib.itoa, if_neg (by omega)]
  rfl

theorem ok_int (k : Nat) (hk : k ≤ 9223372036854775807) : Ok k := Nat.le_trans ((dec_len_le (n := k) (k := 19) (by omega)).2 (by omega)) (by omega)

theorem rsmall_any (k : Nat) (hk : k ≤ 9223372036854775807) (w : World) :
    Calls Tryz.prog 105 #[.int .i64 (k : Int)] w fun e w' => e = .returned (.string (dstr k)) ∧ Below w.heap.size w w' := by
  have hf := iFromInt_any (k : Int) (by omega) (by omega) w
  rw [intR_nat] at hf
  have HF := Lib.hid hf
  clear hf
  go_enter Tryz.func105, Tryz.ntmps105
  go_wp2_with fail
  refine HF.out.mono ?_
  rintro e w1 ⟨rfl, hb⟩
  have HB := Lib.hid hb
  clear hb HF
  go_wp2_with fail
  go_ret
  exact ⟨rfl, HB.out⟩

theorem rInt_nat (k : Nat) (hk : k ≤ 9223372036854775807) (w : World) :
    Calls Tryz.prog 47 #[.int .i64 (k : Int)] w fun e w' => e = .returned (.string (dstr k)) ∧ Below w.heap.size w w' := by
  have hf := iFromInt_any (k : Int) (by omega) (by omega) w
  rw [intR_nat] at hf
  have HF := Lib.hid hf
  clear hf
  go_enter Tryz.func47, Tryz.ntmps47
  go_wp2_with fail
  refine HF.out.mono ?_
  rintro e w1 ⟨rfl, hb⟩
  have HB := Lib.hid hb
  clear hb HF
  go_wp2_with fail
  go_ret
  exact ⟨rfl, HB.out⟩

set_option maxHeartbeats 3200000 in
set_option maxRecDepth 100000 in
theorem rInt_neg (k : Nat) (hk : k ≤ 9223372036854775807) (w : World) :
    Calls Tryz.prog 47 #[.int .i64 (-((k + 1 : Nat) : Int))] w fun e w' => e = .returned (.string ((⟨#[45]⟩ : ByteArray) ++ dstr (k + 1))) ∧ Below w.heap.size w w' := by
  have HS := Lib.hid (fun W => rsmall_any k hk W)
  have HR := Lib.hid (fun W => iread_d k W (ok_int k hk))
  have hln : ln (k + 1) ≤ 445 := (ok_int (k + 1) |> fun _ => by
    have h : Ok (k + 1) := Nat.le_trans ((dec_len_le (n := k + 1) (k := 19) (by omega)).2 (by omega)) (by omega)
    exact h.ln)
  have hlk : ln k ≤ 445 := (ok_int k hk).ln
  have hsz : (dstr (k + 1)).size ≤ 4000 := by
    have h : Ok (k + 1) := Nat.le_trans ((dec_len_le (n := k + 1) (k := 19) (by omega)).2 (by omega)) (by omega)
    rw [dstr_size]; exact h
  have hsz2 : ¬ (9223372036854775807 : Int) < 1 + (((dstr (k + 1)).size : Nat) : Int) := by omega
  have HL := Lib.hid (And.intro hln hlk)
  obtain ⟨n, hn⟩ : ∃ n : Int, n = -((k + 1 : Nat) : Int) := ⟨_, rfl⟩
  have e1 : -(n + 1) = (k : Int) := by omega
  have n0 : n < 0 := by omega
  have n1 : -9223372036854775808 ≤ n := by omega
  rw [← hn]
  have HE := Lib.hid e1
  clear hn e1 hln hlk
  go_enter Tryz.func47, Tryz.ntmps47
  go_wp2_with fail
  first | rw [HE.out] | (rw [show -1 + -n = (k : Int) by have := HE.out; omega]) | (rw [show -n - 1 = (k : Int) by have := HE.out; omega])
  refine (HS.out _).mono ?_
  rintro e w1 ⟨rfl, hb1⟩
  have HB := Lib.hid hb1
  clear hb1 HS
  go_wp2_with fail
  refine (HR.out _).mono ?_
  rintro e w2 ⟨v, rfl, hv, hb2⟩
  obtain ⟨a1, k1, rfl⟩ := islice_any hv
  replace HB := Lib.hid (HB.out.trans (hb2.mono HB.out.size))
  have HV := Lib.hid hv
  clear hv hb2 HR
  go_wp2_with fail
  refine (rone_any _).mono ?_
  rintro e w3 ⟨o, rfl, ho, hb3⟩
  obtain ⟨a2, k2, rfl⟩ := islice_any ho
  replace HV := Lib.hid (HV.out.below hb3)
  replace HB := Lib.hid (HB.out.trans (hb3.mono HB.out.size))
  have HO := Lib.hid ho
  clear ho hb3
  go_wp2_with fail
  refine (iplus_any HV.out HO.out (Nat.le_trans HL.out.2 (by omega)) (by rw [ln_one]; omega) (Nat.le_trans HL.out.1 (by omega))).mono ?_
  rintro e w4 ⟨z, rfl, hz, hb4⟩
  obtain ⟨a3, k3, rfl⟩ := islice_any hz
  replace HB := Lib.hid (HB.out.trans (hb4.mono HB.out.size))
  have HZ := Lib.hid hz
  clear hz hb4
  go_wp2_with fail
  refine (iwrite_any HZ.out (Nat.le_trans HL.out.1 (by omega))).mono ?_
  rintro e w5 ⟨rfl, hb5⟩
  replace HB := Lib.hid (HB.out.trans (hb5.mono HB.out.size))
  clear hb5
  go_wp2_with fail
  go_ret
  exact ⟨rfl, HB.out⟩

open Go.RowKit NV
open Go.Lib (decDigits)

theorem rsmall3 (n : Nat) (hn : n ≤ 9223372036854775807) (w : World) :
    Calls Tryz.prog 131 #[.int .i64 (n : Int)] w fun e w' => ∃ v, e = .returned v ∧ INum w' v n ∧ Below w.heap.size w w' := by
  have HI := Lib.hid (fun W => rInt_nat n hn W)
  have HR := Lib.hid (fun W => iread_d n W (ok_int n hn))
  go_enter Tryz.func131, Tryz.ntmps131
  go_wp2_with fail
  refine (HI.out _).mono ?_
  rintro e w1 ⟨rfl, hb⟩
  have HB := Lib.hid hb
  clear hb HI
  go_wp2_with fail
  refine (HR.out _).mono ?_
  rintro e w2 ⟨v, rfl, hv, hb⟩
  obtain ⟨a1, k1, rfl⟩ := islice_any hv
  have HF := Lib.hid (And.intro hv (HB.out.trans (hb.mono HB.out.size)))
  clear hv hb HR HB
  go_wp2_with fail
  go_ret
  exact ⟨_, rfl, HF.out.1, HF.out.2⟩

theorem bv_snoc (l : List UInt8) (c : UInt8) : bv (l ++ [c]) = 2 * bv l + (c.toNat - 48) := by
  rw [bv_append]
  show bv l * 2 ^ 1 + (2 * 0 + (c.toNat - 48)) = _
  rw [Nat.pow_one]; omega
theorem lnb {a : Nat} (e : Nat) (he : e ≤ 320) (h : a ≤ 2 ^ e) : ln a ≤ 445 := (ok_two (n := e) he h).ln
theorem pow3 {k n : Nat} (h : k ≤ n) : (2 : Nat) ^ k ≤ 2 ^ n := Nat.pow_le_pow_right (by omega) h

set_option maxHeartbeats 3200000 in
set_option maxRecDepth 100000 in
theorem rValue_ok {s : ByteArray} (hb : IsBits s.data.toList) (hs : s.size ≤ 256) (w : World) :
    Calls Tryz.prog 77 #[.string s] w fun e w' => ∃ v, e = .returned v ∧ INum w' v (bv s.data.toList) ∧ Below w.heap.size w w' := by
  have HSZ := Lib.hid (Go.Lib.size_eq s)
  have H0 := Lib.hid (fun W => rsmall3 0 (by omega) W)
  have H1 := Lib.hid (fun W => rsmall3 1 (by omega) W)
  have HLN := Lib.hid (show ∀ k, k ≤ s.size → bv (s.data.toList.take k) < 2 ^ k from fun k hk => by
    have := bv_lt _ (hb.take k)
    rwa [List.length_take, Nat.min_eq_left (by rw [← Go.Lib.size_eq]; exact hk)] at this)
  have HBT := Lib.hid hb
  clear hb
  go_enter Tryz.func77, Tryz.ntmps77
  go_wp2_with fail
  refine (H0.out _).mono ?_
  rintro e w1 ⟨v, rfl, hv, hb⟩
  obtain ⟨a1, k1, rfl⟩ := islice_any hv
  have HF := Lib.hid (And.intro hv hb)
  clear hv hb H0
  go_wp2_with fail
  go_loopw [3, 4] (fun ov iv wr => ∃ k : Nat, k ≤ s.size ∧ iv = .int .i64 (k : Int) ∧ INum wr ov (bv (s.data.toList.take k)) ∧ Below w.heap.size w wr) (fun _ iv _ => s.size - (intOf iv).toNat)
  case atStart => exact ⟨0, Nat.zero_le _, rfl, by rw [List.take_zero]; exact HF.out.1, HF.out.2⟩
  case round =>
    obtain ⟨k, hk, rfl, hv, hb⟩ := hrel
    clear HF
    by_cases hlt : k < s.size
    · have hbt := byte_at s k hlt
      have htk : s.data.toList.take (k + 1) = s.data.toList.take k ++ [s[k]] := by
        rw [List.take_add_one, hbt]; rfl
      have hc : s[k] = 48 ∨ s[k] = 49 := HBT.out s[k] (by
        obtain ⟨h1, h2⟩ := List.getElem?_eq_some_iff.1 hbt
        rw [← h2]; exact List.getElem_mem h1)
      have hlt2 := HLN.out k hk
      have h2k : (2 : Nat) ^ (k + 1) = 2 ^ k * 2 := Nat.pow_succ ..
      have hsn := bv_snoc (s.data.toList.take k) s[k]
      rw [← htk] at hsn
      obtain ⟨a1, k1, rfl⟩ := islice_any hv
      have HV := Lib.hid hv
      have HB := Lib.hid hb
      generalize bv (s.data.toList.take k) = A at *
      have HA := Lib.hid (And.intro (lnb (a := A) (k + 1) (by omega) (by omega)) (And.intro (lnb (a := A + A) (k + 1) (by omega) (by omega)) (lnb (a := A + A + 1) (k + 1) (by omega) (by omega))))
      have HSN := Lib.hid hsn
      have HSH := Lib.hid (HBT.out)
      clear hv hb hbt htk hlt2 h2k hsn
      rcases hc with hc | hc
      · have h49 : ((((s[k]).toNat : Nat) : Int) == 49) = false := by rw [hc]; rfl
        have HE := Lib.hid (show bv (s.data.toList.take (k + 1)) = A + A by rw [HSN.out, hc]; show 2 * A + 0 = _; omega)
        clear hc HSN
        go_wp2_with fail
        refine (iplus_any HV.out HV.out (Nat.le_trans HA.out.1 (by omega)) (Nat.le_trans HA.out.1 (by omega)) (Nat.le_trans HA.out.2.1 (by omega))).mono ?_
        rintro e w2 ⟨v, rfl, hv, hb⟩
        obtain ⟨a2, k2, rfl⟩ := islice_any hv
        have HF := Lib.hid (And.intro hv (HB.out.trans (hb.mono HB.out.size)))
        clear hv hb HB HV
        go_wp2_with fail
        go_roundw
        case rel => exact ⟨k + 1, by omega, by go_num, by rw [HE.out]; exact HF.out.1, HF.out.2⟩
        case measure => simp [intOf]; omega
      · have h49 : ((((s[k]).toNat : Nat) : Int) == 49) = true := by rw [hc]; rfl
        have HE := Lib.hid (show bv (s.data.toList.take (k + 1)) = A + A + 1 by rw [HSN.out, hc]; show 2 * A + 1 = _; omega)
        clear hc HSN
        go_wp2_with fail
        refine (iplus_any HV.out HV.out (Nat.le_trans HA.out.1 (by omega)) (Nat.le_trans HA.out.1 (by omega)) (Nat.le_trans HA.out.2.1 (by omega))).mono ?_
        rintro e w2 ⟨v, rfl, hv, hb⟩
        obtain ⟨a2, k2, rfl⟩ := islice_any hv
        have HF := Lib.hid (And.intro hv (HB.out.trans (hb.mono HB.out.size)))
        clear hv hb HB HV
        go_wp2_with fail
        refine (H1.out _).mono ?_
        rintro e w3 ⟨v, rfl, hv, hb⟩
        obtain ⟨a3, k3, rfl⟩ := islice_any hv
        have HG := Lib.hid (And.intro (HF.out.1.below hb) (And.intro hv (HF.out.2.trans (hb.mono HF.out.2.size))))
        clear hv hb HF
        go_wp2_with fail
        refine (iplus_any HG.out.1 HG.out.2.1 (Nat.le_trans HA.out.2.1 (by omega)) (by rw [ln_one]; omega) (Nat.le_trans HA.out.2.2 (by omega))).mono ?_
        rintro e w4 ⟨v, rfl, hv, hb⟩
        obtain ⟨a4, k4, rfl⟩ := islice_any hv
        have HF := Lib.hid (And.intro hv (HG.out.2.2.trans (hb.mono HG.out.2.2.size)))
        clear hv hb HG
        go_wp2_with fail
        go_roundw
        case rel => exact ⟨k + 1, by omega, by go_num, by rw [HE.out]; exact HF.out.1, HF.out.2⟩
        case measure => simp [intOf]; omega
    · obtain rfl : k = s.size := by omega
      rw [List.take_of_length_le (by rw [← HSZ.out]; exact Nat.le_refl _)] at hv
      obtain ⟨a1, k1, rfl⟩ := islice_any hv
      have HF := Lib.hid (And.intro hv hb)
      clear hv hb
      go_wp2_with fail
      go_ret
      exact ⟨_, rfl, HF.out.1, HF.out.2⟩

set_option maxHeartbeats 3200000 in
set_option maxRecDepth 100000 in
theorem rTwo_ok (n : Nat) (hn : n ≤ 256) (w : World) :
    Calls Tryz.prog 66 #[.int .i64 (n : Int)] w fun e w' => ∃ v, e = .returned v ∧ INum w' v (2 ^ n) ∧ Below w.heap.size w w' := by
  have H1 := Lib.hid (fun W => rsmall3 1 (by omega) W)
  go_enter Tryz.func66, Tryz.ntmps66
  go_wp2_with fail
  refine (H1.out _).mono ?_
  rintro e w1 ⟨v, rfl, hv, hb⟩
  obtain ⟨a1, k1, rfl⟩ := islice_any hv
  have HF := Lib.hid (And.intro hv hb)
  clear hv hb H1
  go_wp2_with fail
  go_loopw [0, 3] (fun nv ov wr => ∃ j : Nat, j ≤ n ∧ nv = .int .i64 ((n : Int) - (j : Int)) ∧ INum wr ov (2 ^ j) ∧ Below w.heap.size w wr) (fun nv _ _ => (intOf nv).toNat)
  case atStart => exact ⟨0, Nat.zero_le _, by simp, by rw [Nat.pow_zero]; exact HF.out.1, HF.out.2⟩
  case round =>
    obtain ⟨j, hj, rfl, hv, hb⟩ := hrel
    clear HF
    by_cases hjn : j < n
    · have hpos : (0 : Int) < (n : Int) - (j : Int) := by omega
      have he : (2 : Nat) ^ (j + 1) = 2 ^ j + 2 ^ j := by rw [Nat.pow_succ]; omega
      have HE := Lib.hid he
      obtain ⟨a1, k1, rfl⟩ := islice_any hv
      have HV := Lib.hid hv
      have HB := Lib.hid hb
      have HA := Lib.hid (And.intro (lnb (a := 2 ^ j) j (by omega) (Nat.le_refl _)) (lnb (a := 2 ^ j + 2 ^ j) (j + 1) (by omega) (by omega)))
      clear hv hb he
      generalize 2 ^ j = A at *
      go_wp2_with fail
      refine (iplus_any HV.out HV.out (Nat.le_trans HA.out.1 (by omega)) (Nat.le_trans HA.out.1 (by omega)) (Nat.le_trans HA.out.2 (by omega))).mono ?_
      rintro e w2 ⟨v, rfl, hv, hb⟩
      obtain ⟨a2, k2, rfl⟩ := islice_any hv
      have HF := Lib.hid (And.intro hv (HB.out.trans (hb.mono HB.out.size)))
      clear hv hb HB HV
      go_wp2_with fail
      go_roundw
      case rel => exact ⟨j + 1, by omega, by go_num, by rw [HE.out]; exact HF.out.1, HF.out.2⟩
      case measure => simp [intOf]; omega
    · obtain rfl : j = n := by omega
      have hpos : ¬ (0 : Int) < (j : Int) - (j : Int) := by omega
      obtain ⟨a1, k1, rfl⟩ := islice_any hv
      have HF := Lib.hid (And.intro hv hb)
      clear hv hb
      go_wp2_with fail
      go_ret
      exact ⟨_, rfl, HF.out.1, HF.out.2⟩

theorem rMakeC3 {k n : Nat} (hn : n ≤ 256) (hk : k ≤ 2 ^ n) (w : World) :
    Calls Tryz.prog 92 #[.string (dstr k), .string (dstr (2 ^ n))] w fun e w' => e = .returned (.tuple #[.string (qstr (cQ k n)), .int .i64 0]) ∧ Below w.heap.size w w' := by
  have ok1 : Ok k := ok_two (n := n) (by omega) hk
  have ok2 : Ok (2 ^ n) := ok_two (n := n) (by omega) (Nat.le_refl _)
  have s1 : (dstr k).size ≤ 1000000 := by rw [dstr_size]; unfold Ok at ok1; omega
  have s2 : (dstr (2 ^ n)).size ≤ 1000000 := by rw [dstr_size]; unfold Ok at ok2; omega
  have h := rMake_q (s := istr false k) (t := dstr (2 ^ n)) w s1 s2 (chkI_istr ok1 (by simp)) (by rw [dstr_list, ok2.chk]) (by rw [dstr_list, dv_dec]; exact Nat.pos_iff_ne_zero.1 (Nat.pow_pos (by omega)))
  rw [istr_minus, istr_rest, dstr_list, dv_dec, dstr_list, dv_dec] at h
  exact rq_done (r := cQ k n) h rfl (cQ_ok hn hk)

set_option maxHeartbeats 1600000 in
theorem rShare_ok {x : Value} {k n : Nat} (hn : n ≤ 256) (hk : k ≤ 2 ^ n) (w : World) (hx : INum w x k) :
    Calls Tryz.prog 64 #[x, .int .i64 (n : Int)] w fun e w' => e = .returned (.string (qstr (cQ k n))) ∧ Below w.heap.size w w' := by
  have HM := Lib.hid (fun W => rMakeC3 hn hk W)
  have HT := Lib.hid (fun W => rTwo_ok n hn W)
  have HL := Lib.hid (And.intro (lnb (a := k) n (by omega) hk) (lnb (a := 2 ^ n) n (by omega) (Nat.le_refl _)))
  have HX := Lib.hid hx
  obtain ⟨a0, k0, rfl⟩ := islice_any hx
  generalize qstr (cQ k n) = sq at *
  clear hx hk
  go_enter Tryz.func64, Tryz.ntmps64
  go_wp2_with fail
  refine (iwrite_any HX.out (Nat.le_trans HL.out.1 (by omega))).mono ?_
  rintro e w1 ⟨rfl, hb⟩
  have HB := Lib.hid hb
  clear hb
  go_wp2_with fail
  refine (HT.out _).mono ?_
  rintro e w2 ⟨v, rfl, hv, hb⟩
  obtain ⟨a1, k1, rfl⟩ := islice_any hv
  replace HB := Lib.hid (HB.out.trans (hb.mono HB.out.size))
  have HV := Lib.hid hv
  clear hv hb HT
  go_wp2_with fail
  refine (iwrite_any HV.out (Nat.le_trans HL.out.2 (by omega))).mono ?_
  rintro e w3 ⟨rfl, hb⟩
  replace HB := Lib.hid (HB.out.trans (hb.mono HB.out.size))
  clear hb
  go_wp2_with fail
  refine (HM.out _).mono ?_
  rintro e w4 ⟨rfl, hb⟩
  replace HB := Lib.hid (HB.out.trans (hb.mono HB.out.size))
  clear hb
  go_wp2_with fail
  go_ret
  exact ⟨rfl, HB.out⟩

set_option maxHeartbeats 1600000 in
theorem rCheck3_any (s : ByteArray) (w : World) (hs : s.size ≤ 140737488351232) :
    Calls Tryz.prog 53 #[.string s] w fun e w' => e = .returned (.int .i64 ((bchk s.data.toList : Nat) : Int)) ∧ w = w' := by
  have HSZ := Lib.hid (Go.Lib.size_eq s)
  go_enter Tryz.func53, Tryz.ntmps53
  go_wp2_with fail
  go_loop [3] (fun i => ∃ k : Nat, k ≤ s.size ∧ i = .int .i64 (k : Int) ∧ Hid (IsBits (s.data.toList.take k))) (fun i => s.size - (intOf i).toNat)
  case atStart => exact ⟨0, Nat.zero_le _, rfl, Lib.hid (fun c h => by simp at h)⟩
  case round =>
    obtain ⟨k, hk, rfl, HN⟩ := hrel
    by_cases hlt : k < s.size
    · have hb := byte_at s k hlt
      have hlen : k < s.data.toList.length := by rw [← HSZ.out]; exact hlt
      have htk : s.data.toList.take (k + 1) = s.data.toList.take k ++ [s[k]] := by
        rw [List.take_add_one, hb]; rfl
      by_cases hc : s[k] = 48 ∨ s[k] = 49
      · have HN2 := Lib.hid (show IsBits (s.data.toList.take (k + 1)) from fun c h => by
          rw [htk] at h
          rcases List.mem_append.1 h with h | h
          · exact HN.out c h
          · rw [List.mem_singleton] at h; rw [h]; exact hc)
        clear hb htk
        rcases hc with hc | hc
        · have h48 : ((((s[k]).toNat : Nat) : Int) != 48) = false := by rw [hc]; rfl
          clear hc
          go_wp2_with fail
          go_round
          case rel => exact ⟨k + 1, by omega, by go_num, HN2⟩
          case measure => simp [intOf]; omega
        · have h48 : ((((s[k]).toNat : Nat) : Int) != 48) = true := by rw [hc]; rfl
          have h49 : ((((s[k]).toNat : Nat) : Int) != 49) = false := by rw [hc]; rfl
          clear hc
          go_wp2_with fail
          go_round
          case rel => exact ⟨k + 1, by omega, by go_num, HN2⟩
          case measure => simp [intOf]; omega
      · have h48 : ((((s[k]).toNat : Nat) : Int) != 48) = true := by
          rw [bne_iff_ne]; intro e; apply hc; left; apply UInt8.toNat_inj.1; show _ = 48; omega
        have h49 : ((((s[k]).toNat : Nat) : Int) != 49) = true := by
          rw [bne_iff_ne]; intro e; apply hc; right; apply UInt8.toNat_inj.1; show _ = 49; omega
        have HR := Lib.hid (show (3 : Int) = ((bchk s.data.toList : Nat) : Int) by
          rw [bchk_no (fun h => hc (h s[k] (by
            have := List.getElem?_eq_some_iff.1 hb
            obtain ⟨h1, h2⟩ := this
            rw [← h2]; exact List.getElem_mem h1)))]; rfl)
        clear hb htk hc
        go_wp2_with fail
        go_ret
        exact ⟨ret_int HR.out, rfl⟩
    · obtain rfl : k = s.size := by omega
      have HR := Lib.hid (show (0 : Int) = ((bchk s.data.toList : Nat) : Int) by
        rw [bchk_yes (by have := HN.out; rw [HSZ.out, List.take_length] at this; exact this)]; rfl)
      go_wp2_with fail
      go_ret
      exact ⟨ret_int HR.out, rfl⟩

open Go.RowKit NV
open Go.Lib (decDigits)

theorem slice_of_rowP {w : World} {base size n : Nat} {e : TypeId} {v : Value} {xs : List Value} (h : w.ownsRow base e size v n xs) : ∃ ao m c, v = .slice ao m c := by
  rcases h.2 with ⟨hv, _⟩ | ⟨g, cap, cur, hv, _⟩
  · exact ⟨_, _, _, hv⟩
  · exact ⟨_, _, _, hv⟩

theorem wstr_listKP (k n : Nat) : (wstr k n).data.toList = wbits k n := by unfold wstr; simp
theorem wbits_oneP {i j : Nat} (hi : i < 2 ^ j) : wbits (2 * i) (j + 1) = wbits i j ++ [48] ∧ wbits (2 * i + 1) (j + 1) = wbits i j ++ [49] := by
  have hp : 2 ^ (j + 1) = 2 ^ j * 2 := Nat.pow_succ ..
  have key : ∀ c : UInt8, (c = 48 ∨ c = 49) → wbits (2 * i + (c.toNat - 48)) (j + 1) = wbits i j ++ [c] := by
    intro c hc
    apply bv_inj
    · exact wbits_bits _ _
    · intro x hx
      rcases List.mem_append.1 hx with hx | hx
      · exact wbits_bits _ _ x hx
      · rw [List.mem_singleton] at hx; rw [hx]; exact hc
    · rw [List.length_append, wbits_len, wbits_len]; rfl
    · have hlt : 2 * i + (c.toNat - 48) < 2 ^ (j + 1) := by
        rcases hc with rfl | rfl
        · show 2 * i + 0 < _; omega
        · show 2 * i + 1 < _; omega
      rw [bv_append, wbits_val hi, wbits_val hlt]
      have h1 : bv [c] = c.toNat - 48 := by
        show 2 * 0 + (c.toNat - 48) = _; omega
      rw [h1]; simp; omega
  exact ⟨key 48 (.inl rfl), key 49 (.inr rfl)⟩
theorem wstr_oneP {i j : Nat} (hi : i < 2 ^ j) : wstr i j ++ (⟨#[48]⟩ : ByteArray) = wstr (2 * i) (j + 1) ∧ wstr i j ++ (⟨#[49]⟩ : ByteArray) = wstr (2 * i + 1) (j + 1) := by
  obtain ⟨h1, h2⟩ := wbits_oneP hi
  constructor
  · apply ba_ext; rw [app_list, wstr_listKP, wstr_listKP, h1]
  · apply ba_ext; rw [app_list, wstr_listKP, wstr_listKP, h2]

/-- The first k words of j bits. -/
def wsLP (j k : Nat) : List Value := (List.range k).map (fun i => Value.string (wstr i j))
theorem wsL_getP {j k i : Nat} (h : i < k) : (wsLP j k)[i]? = some (.string (wstr i j)) := by unfold wsLP; simp [h]
theorem wsL_twoP (j i : Nat) (hi : i < 2 ^ j) : wsLP (j + 1) (2 * (i + 1)) = wsLP (j + 1) (2 * i) ++ [.string (wstr i j ++ (⟨#[48]⟩ : ByteArray)), .string (wstr i j ++ (⟨#[49]⟩ : ByteArray))] := by
  obtain ⟨h1, h2⟩ := wstr_oneP hi
  rw [h1, h2]
  unfold wsLP
  rw [show 2 * (i + 1) = 2 * i + 1 + 1 by omega, List.range_succ, List.range_succ, List.map_append, List.map_append, List.append_assoc]
  rfl

theorem row_formP {w : World} {base N : Nat} {v : Value} {xs : List Value} (h : w.ownsRow base 23 1 v N xs) (h0 : N ≠ 0) : ∃ g cap, v = .slice (some ⟨g, 0, none⟩) N cap ∧ base ≤ g ∧ g < w.heap.size := by
  rcases h.2 with ⟨_, h1⟩ | ⟨g, cap, cur, h1, hb, hg, _⟩
  · exact absurd h1 h0
  · exact ⟨g, cap, h1, hb, (Array.getElem?_eq_some_iff.1 hg).1⟩

set_option maxHeartbeats 6400000 in
set_option maxRecDepth 100000 in
theorem rAll_okP (n : Nat) (hn : n ≤ 12) (w : World) :
    Calls Tryz.prog 45 #[.int .i64 (n : Int)] w fun e w' => ∃ v, e = .returned (.tuple #[v, .int .i64 0]) ∧ w'.ownsRow w.heap.size 23 1 v (2 ^ n) (wsLP n (2 ^ n)) ∧ Below w.heap.size w w' := by
  obtain ⟨i0, hi, hz0, hz1, hz2⟩ := info_parts infoBits
  have hr0 : (w.alloc (.cells #[.string ⟨#[]⟩] 23)).ownsRow w.heap.size 23 1 (.slice (some ⟨w.heap.size, 0, none⟩) 1 1) 1 (wsLP 0 1) := World.ownsRow_lit w #[.string ⟨#[]⟩] 1 (Nat.le_refl _) (by unfold maxLen; omega) rfl
  have HR0 := Lib.hid (And.intro hr0 ((Below.refl w.heap.size w).alloc (Nat.le_refl _) (.cells #[.string ⟨#[]⟩] 23)))
  clear hr0
  go_enter Tryz.func45, Tryz.ntmps45
  go_wp2_with fail
  go_loopw [0, 4] (fun nv ov wr => ∃ j : Nat, j ≤ n ∧ nv = .int .i64 ((n : Int) - (j : Int)) ∧ wr.ownsRow w.heap.size 23 1 ov (2 ^ j) (wsLP j (2 ^ j)) ∧ Below w.heap.size w wr) (fun nv _ _ => (intOf nv).toNat)
  case atStart => exact ⟨0, Nat.zero_le _, by simp, HR0.out.1, HR0.out.2⟩
  case round =>
    obtain ⟨j, hj, rfl, hrow, hb⟩ := hrel
    clear HR0
    obtain ⟨N, hN⟩ : ∃ N, N = 2 ^ j := ⟨_, rfl⟩
    have hN0 : N ≠ 0 := by rw [hN]; exact Nat.pos_iff_ne_zero.1 (Nat.pow_pos (by omega))
    have hN4 : N ≤ 4096 := by
      rw [hN]; exact Nat.le_trans (Nat.pow_le_pow_right (n := 2) (by omega) (show j ≤ 12 by omega)) (by decide)
    have HN := Lib.hid hN
    rw [← hN] at hrow
    obtain ⟨g, cap, rfl, _, hg⟩ := row_formP hrow hN0
    by_cases hjn : j < n
    · have hpos : (0 : Int) < (n : Int) - (j : Int) := by omega
      have HCELL := Lib.hid (show ∀ i, i < N → wr.cell? ⟨g, i, none⟩ = some (.string (wstr i j)) from fun i hi => by
        have := hrow.cells (g := g) rfl i (.string (wstr i j)) (wsL_getP hi)
        rw [Addr.add_lit, Nat.zero_add] at this; exact this)
      have HB := Lib.hid (And.intro hb hg)
      clear hrow hb hg
      clear hN
      go_wp2_with fail
      obtain ⟨wo, rfl⟩ : ∃ wo, wo = wr := ⟨_, rfl⟩
      go_loopw [6, 5] (fun iv nx wr => ∃ k : Nat, k ≤ N ∧ iv = .int .i64 (k : Int) ∧ wr.ownsRow wo.heap.size 23 1 nx (2 * k) (wsLP (j + 1) (2 * k)) ∧ Below wo.heap.size wo wr) (fun iv _ _ => N - (intOf iv).toNat)
      case atStart => exact ⟨0, Nat.zero_le _, rfl, World.ownsRow_nil _ _ _ _, Below.refl _ _⟩
      case round =>
        obtain ⟨k, hk, rfl, hrn, hb2⟩ := hrel
        by_cases hlt : k < N
        · have HT := Lib.hid (wsL_twoP j k (by rw [← HN.out]; exact hlt))
          have c0 : wr.cell? ⟨g, k, none⟩ = some (.string (wstr k j)) := (hb2.cell (p := ⟨g, k, none⟩) HB.out.2).trans (HCELL.out k hlt)
          have hxs : (wstr k j).size ≤ 12 := by rw [Go.Lib.size_eq, wstr_listKP, wbits_len]; omega
          generalize hX : wstr k j = X at hxs c0 HT
          have HX := Lib.hid hX
          have hx1 : X.size < 9223372036854775807 := by omega
          have hx2 : X.size + 1 ≤ 9223372036854775807 := by omega
          have hx3 : ¬ 9223372036854775807 < X.size + 1 := by omega
          have hx48 : ∀ W : World, (Op.stringOp .add X ⟨#[48]⟩).run Tryz.prog W = .ok (.string (X ++ (⟨#[48]⟩ : ByteArray))) W := fun W => run_string_add_sum W X _ hx2
          have hx49 : ∀ W : World, (Op.stringOp .add X ⟨#[49]⟩).run Tryz.prog W = .ok (.string (X ++ (⟨#[49]⟩ : ByteArray))) W := fun W => run_string_add_sum W X _ hx2
          clear hX
          obtain ⟨xo, xm, xc, rfl⟩ := slice_of_rowP hrn
          have HKP := Lib.hid (show ∀ W, Below wo.heap.size wo W → W.cell? ⟨g, k, none⟩ = some (.string X) from fun W h => HX.out ▸ (h.cell (p := ⟨g, k, none⟩) HB.out.2).trans (HCELL.out k hlt))
          have HROW := Lib.hid (show wr.ownsRow wo.heap.size 23 1 (.slice xo xm xc) (2 * k) (wsLP (j + 1) (2 * k)) from hrn)
          have HB2 := Lib.hid hb2
          clear hrn hb2
          go_wp2_with fail
          go_region_held3 (fun W => W.cell? ⟨g, k, none⟩ = some (.string X))
            (first | exact c0 | assumption | exact HKP.out _ (HB2.out.alloc HB2.out.size _).drew | exact HKP.out _ (HB2.out.alloc HB2.out.size _))
            (first
              | (refine step_append_lies _ rfl _ _ _ rfl wo.heap.size 23 i0 (.string ⟨#[]⟩) 1 16 Tryz.underlying56 hi hz0 hz1 hz2 rfl (by decide) _ _ _ rfl (HROW.out.alloc _) ⟨_, 0, none⟩ 2 2 [.string (X ++ (⟨#[48]⟩ : ByteArray)), .string (X ++ (⟨#[49]⟩ : ByteArray))] rfl rfl (World.news_of_block (heap_alloc_new _ _)) (fun u hu => by simp at hu; rcases hu with rfl | rfl <;> rfl) (by omega) (by unfold maxLen; omega) (by omega) (by have := HB2.out.size; simp; omega) _ rfl ?_; intro gg cc w6 hown hgrow hat hlt6; have hlt5 := HROW.out.lt; have hbf := ((HB2.out.alloc HB2.out.size _).drew).grown hgrow (by have := HB2.out.size; simp; omega) (fun q hq => (hlt5 q hq).1); have hk6 : w6.cell? ⟨g, k, none⟩ = some (.string X) := HKP.out _ hbf))
          have HF := Lib.hid (And.intro hown hbf)
          clear hown hgrow hat hlt6 hlt5 hbf hk6 HROW c0
          go_wp2_with fail
          go_roundw
          case rel => exact ⟨k + 1, by omega, by go_num, by rw [HT.out, show 2 * (k + 1) = 2 * k + 2 by omega]; exact HF.out.1, HF.out.2⟩
          case measure => simp [intOf]; omega
        · obtain rfl : k = N := by omega
          obtain ⟨xo, xm, xc, rfl⟩ := slice_of_rowP hrn
          have HF := Lib.hid (And.intro hrn hb2)
          clear hrn hb2
          go_wp2_with fail
          go_roundw
          case rel => exact ⟨j + 1, by omega, by go_num, by rw [show 2 ^ (j + 1) = 2 * k by rw [HN.out, Nat.pow_succ]; omega]; exact row_baseP HF.out.1 HB.out.1.size, HB.out.1.trans (HF.out.2.mono HB.out.1.size)⟩
          case measure => simp [intOf]; omega
    · obtain rfl : j = n := by omega
      have hpos : ¬ (0 : Int) < (j : Int) - (j : Int) := by omega
      have HF := Lib.hid (And.intro hrow hb)
      clear hrow hb
      go_wp2_with fail
      go_ret2
      exact ⟨_, rfl, by rw [← HN.out]; exact HF.out.1, HF.out.2⟩

theorem rMakeCP {k n : Nat} (hn : n ≤ 256) (hk : k ≤ 2 ^ n) (w : World) :
    Calls Tryz.prog 92 #[.string (dstr k), .string (dstr (2 ^ n))] w fun e w' => e = .returned (.tuple #[.string (qstr (cQ k n)), .int .i64 0]) ∧ Below w.heap.size w w' := by
  have ok1 : Ok k := ok_two (n := n) (by omega) hk
  have ok2 : Ok (2 ^ n) := ok_two (n := n) (by omega) (Nat.le_refl _)
  have s1 : (dstr k).size ≤ 1000000 := by rw [dstr_size]; unfold Ok at ok1; omega
  have s2 : (dstr (2 ^ n)).size ≤ 1000000 := by rw [dstr_size]; unfold Ok at ok2; omega
  have h := rMake_q (s := istr false k) (t := dstr (2 ^ n)) w s1 s2 (chkI_istr ok1 (by simp)) (by rw [dstr_list, ok2.chk]) (by rw [dstr_list, dv_dec]; exact Nat.pos_iff_ne_zero.1 (Nat.pow_pos (by omega)))
  rw [istr_minus, istr_rest, dstr_list, dv_dec, dstr_list, dv_dec] at h
  exact rq_done (r := cQ k n) h rfl (cQ_ok hn hk)

theorem rInt_allP {x : Int} (h0 : 0 ≤ x) (h1 : x ≤ 9223372036854775807) (w : World) :
    Calls Tryz.prog 47 #[.int .i64 x] w fun e w' => e = .returned (.string (dstr x.toNat)) ∧ Below w.heap.size w w' := by
  obtain ⟨k, rfl⟩ : ∃ k : Nat, x = (k : Int) := ⟨x.toNat, by omega⟩
  exact rInt_nat k (by omega) w

theorem eqIn_massG (x y a b : ByteArray) (W : World) : (Op.equalIn 10000 38 (.agg #[.string x, .string y]) (.agg #[.string a, .string b])).run Tryz.prog W = .ok (x.toList == a.toList && y.toList == b.toList) W := by
  rw [run_equalIn_agg W 9999 _ _ _ struct_massP held_massP]
  have hf := fields_massP
  generalize (Tryz.prog.fieldsOf 38).toList = l at hf ⊢
  unfold fieldsMP at hf
  obtain ⟨f0, f1, rfl⟩ := list_twoP (show l.length = 2 by have := congrArg List.length hf; simpa using this)
  simp only [List.map_cons, List.map_nil, List.cons.injEq, Prod.mk.injEq, and_true] at hf
  obtain ⟨⟨n0, t0, o0⟩, ⟨n1, t1, o1⟩⟩ := hf
  simp only [Op.eqFields, n0, t0, o0, n1, t1, o1]
  by_cases h0 : x.toList = a.toList <;> by_cases h1 : y.toList = b.toList <;>
    simp [Sem.run_bind, part_strP #[.string x, .string y] 0 (.string x) rfl, part_numP #[.string x, .string y] 1 (.string y) rfl, part_strP #[.string a, .string b] 0 (.string a) rfl, part_numP #[.string a, .string b] 1 (.string b) rfl,
      run_equalIn_string _ _ _ _ _ Tryz.underlying9, run_equalIn_string _ _ _ _ _ Tryz.underlying22, h0, h1]
theorem eql_massG (x y a b : ByteArray) (W : World) : (binOp .eql 38 (.agg #[.string x, .string y]) (.agg #[.string a, .string b])).run Tryz.prog W = .ok (.bool (x.toList == a.toList && y.toList == b.toList)) W := by
  rw [run_eql_struct, eqIn_massG]; rfl

open Go.RowKit NV
open Go.Lib (decDigits)

/-- How many of the first i bit strings lead to j. -/
def cP (f : Nat → Nat) (m n i j : Nat) : Nat := min i (endP f m n j) - fstP f m n j
theorem cP_in {f : Nat → Nat} {m n i j : Nat} (h1 : fstP f m n j ≤ i) (h2 : i < endP f m n j) : cP f m n (i + 1) j = cP f m n i j + 1 := by unfold cP; omega
theorem cP_out {f : Nat → Nat} {m n i j : Nat} (h : ¬ (fstP f m n j ≤ i ∧ i < endP f m n j)) : cP f m n (i + 1) j = cP f m n i j := by unfold cP; omega
theorem end_le {f : Nat → Nat} {m n j : Nat} (hs : ScF f m) (hj : j < m) : endP f m n j ≤ 2 ^ n := by
  unfold endP
  have h := Nat.div_le_div_right (c := f m) (Nat.mul_le_mul_right (2 ^ n) (hs.mono _ _ hj (Nat.le_refl _)))
  rwa [Nat.mul_comm (f m), Nat.mul_div_cancel _ hs.pos] at h
theorem cP_all {f : Nat → Nat} {m n j : Nat} (hs : ScF f m) (hj : j < m) : cP f m n (2 ^ n) j = cntP f m n j := by
  have := end_le hs hj (n := n)
  unfold cP cntP; rw [Nat.min_eq_right this]
theorem wsum_up {g h : Nat → Nat} {v : Nat} : ∀ {m : Nat}, v < m → (∀ j, j < m → j ≠ v → g j = h j) → g v = h v + 1 → wsum g m = wsum h m + 1
  | 0, hv, _, _ => absurd hv (Nat.not_lt_zero _)
  | m + 1, hv, e, hg => by
    show wsum g m + g m = wsum h m + h m + 1
    rcases Nat.lt_or_ge v m with h1 | h1
    · rw [wsum_up h1 (fun j hj => e j (by omega)) hg, e m (by omega) (by omega)]; omega
    · obtain rfl : v = m := by omega
      rw [wsum_congr (fun j hj => e j (by omega) (by omega)), hg]; omega
theorem sumP_wsum (f : Nat → Nat) (m n : Nat) : ∀ i, sumP f m n i = wsum (cntP f m n) i
  | 0 => rfl
  | i + 1 => by show sumP f m n i + cntP f m n i = wsum (cntP f m n) i + cntP f m n i; rw [sumP_wsum f m n i]
/-- What a whole bit string leads to. -/
theorem pick_class {f : Nat → Nat} {m n i : Nat} {d : Bool} {v u : Nat} (hs : ScF f m) (hi : i < 2 ^ n) (h : PickIs f m (wbits i n) d v u) :
    (d = true ∧ v < m ∧ fstP f m n v ≤ i ∧ i < endP f m n v ∧ ∀ j, j < m → j ≠ v → ¬ (fstP f m n j ≤ i ∧ i < endP f m n j)) ∨ (d = false ∧ v = 0 ∧ ∀ j, j < m → ¬ (fstP f m n j ≤ i ∧ i < endP f m n j)) := by
  rcases h with ⟨rfl, hv, hu, hc, _⟩ | ⟨rfl, rfl, _, hn⟩
  · have h1 := inC_take (wbits_bits i n) hu (Nat.le_refl _) hc
    rw [List.take_length, wbits_len, wbits_val hi] at h1
    have h2 := (inC_iff hs).1 h1
    exact .inl ⟨rfl, hv, h2.1, h2.2, fun j hj hne hc2 => hne (inC_one hs hj hv ((inC_iff hs).2 hc2) h1)⟩
  · refine .inr ⟨rfl, rfl, fun j hj hc => hn j hj ?_⟩
    rw [wbits_len, wbits_val hi]; exact (inC_iff hs).2 hc

/-- A list of counts in memory. -/
def KArr (w : World) (g N : Nat) (c : Nat → Nat) : Prop :=
  ∃ cur, w.heap[g]? = some (.cells cur 3 (0, 0)) ∧ cur.size = N ∧ ∀ j, j < N → cur[j]? = some (.int .i64 ((c j : Nat) : Int))
theorem KArr.cell {w : World} {g N : Nat} {c : Nat → Nat} (h : KArr w g N c) {j : Nat} (hj : j < N) : w.cell? ⟨g, j, none⟩ = some (.int .i64 ((c j : Nat) : Int)) := by
  obtain ⟨cur, h1, h2, h3⟩ := h
  rw [cell_of_row w g j cur _ _ h1]
  exact h3 j hj
theorem KArr.free {w : World} {g N : Nat} {c : Nat → Nat} (h : KArr w g N c) (j : Nat) : w.frozen? ⟨g, j, none⟩ = false := by
  obtain ⟨cur, h1, h2, h3⟩ := h
  exact frozen_of_row w g j cur _ h1
theorem KArr.lt {w : World} {g N : Nat} {c : Nat → Nat} (h : KArr w g N c) : g < w.heap.size := by
  obtain ⟨cur, h1, _⟩ := h
  exact (Array.getElem?_eq_some_iff.1 h1).1
theorem KArr.below {w w' : World} {g N : Nat} {c : Nat → Nat} (h : KArr w g N c) (hb : Below w.heap.size w w') : KArr w' g N c := by
  have hlt := h.lt
  obtain ⟨cur, h1, h2, h3⟩ := h
  exact ⟨cur, (hb.block g hlt).trans h1, h2, h3⟩
theorem KArr.congr {w : World} {g N : Nat} {c d : Nat → Nat} (h : KArr w g N c) (e : ∀ j, j < N → c j = d j) : KArr w g N d := by
  obtain ⟨cur, h1, h2, h3⟩ := h
  exact ⟨cur, h1, h2, fun j hj => by rw [← e j hj]; exact h3 j hj⟩
theorem KArr.store {w : World} {g N : Nat} {c : Nat → Nat} (h : KArr w g N c) (i : Nat) (x : Nat) : KArr (w.setCell ⟨g, i, none⟩ (.int .i64 (x : Int))) g N (fun j => if j = i then x else c j) := by
  obtain ⟨cur, h1, h2, h3⟩ := h
  refine ⟨cur.setIfInBounds i (.int .i64 (x : Int)), heap_setCell_same w g i cur _ _ h1, by simpa using h2, fun j hj => ?_⟩
  rw [Array.getElem?_setIfInBounds]
  by_cases e : i = j
  · subst e
    rw [if_pos rfl, if_pos (by omega)]
    show _ = some (Value.int .i64 (((if i = i then x else c i) : Nat) : Int))
    rw [if_pos rfl]
  · rw [if_neg e]
    show _ = some (Value.int .i64 (((if j = i then x else c j) : Nat) : Int))
    rw [if_neg (fun h => e h.symm)]
    exact h3 j hj
theorem infoIntK : (Tryz.prog.info? 3).map (fun i => (i.zero, i.size, i.bytes)) = some (some (.int .i64 0), 1, 8) := by kernel_rfl
theorem KArr.made {w : World} {base g N : Nat} (h : w.ownsRow base 3 1 (.slice (some ⟨g, 0, none⟩) N N) N (madeCells (Value.int .i64 0).cells (N * 1)).toList) : KArr w g N (fun _ => 0) := by
  rcases h.2 with ⟨h', _⟩ | ⟨g', cap', cur, h', hb, hg, hnc, hcm, hcs, htake⟩
  · simp at h'
  · simp only [Value.slice.injEq, Option.some.injEq, Addr.mk.injEq, and_true, true_and] at h'
    obtain ⟨rfl, rfl⟩ := h'
    refine ⟨cur, hg, by omega, fun j hj => ?_⟩
    have e : (cur.toList.take (N * 1))[j]? = some (.int .i64 0) := by
      rw [htake, Nat.mul_one]
      show (madeCells #[Value.int .i64 0] N).toList[j]? = _
      rw [toList_madeCells_one, List.getElem?_replicate, if_pos hj]
    rw [List.getElem?_take, if_pos (by omega)] at e
    simpa using e

set_option maxHeartbeats 3200000 in
set_option maxRecDepth 100000 in
theorem Has_any {w : World} {b1 : Nat} {v1 : Value} {L : List Item} {x : Item} (h1 : w.ownsRow b1 38 2 v1 L.length (cellsI L)) (hx : x ∈ L) (hN : L.length ≤ 1000) :
    Calls Tryz.prog 46 #[v1, .agg #[.string x.1, .string x.2]] w fun e w' => e = .returned (.bool true) ∧ Below w.heap.size w w' := by
  obtain ⟨K, hK, hx⟩ := List.mem_iff_getElem.1 hx
  have hxK : L[K]? = some x := by rw [List.getElem?_eq_getElem hK, hx]
  obtain ⟨N, hL⟩ : ∃ N, L.length = N := ⟨_, rfl⟩
  rw [hL] at h1 hN hK
  obtain ⟨a1, k1, rfl, _⟩ := row_shape h1
  have HL := Lib.hid (And.intro hL hxK)
  obtain ⟨w0, hw0⟩ : ∃ w0, w.alloc (.cells #[.string x.1, .string x.2] 38) = w0 := ⟨_, rfl⟩
  have hb0 : Below w.heap.size w w0 := by rw [← hw0]; exact (Below.refl _ w).alloc (Nat.le_refl _) _
  have hx0 : w0.heap[w.heap.size]? = some (.cells #[.string x.1, .string x.2] 38 (0, 0)) := by rw [← hw0]; exact heap_alloc_new w _
  have H1 := Lib.hid (And.intro (row_belowP h1 hb0) (And.intro hb0 hx0))
  obtain ⟨x1, x2⟩ := x
  clear h1 hL hxK hx hb0 hx0
  go_enter Tryz.func46, Tryz.ntmps46
  go_wp2_with fail
  clear hw0
  go_loopw [5] (fun iv wr => ∃ k : Nat, k ≤ K ∧ iv = .int .i64 (k : Int) ∧ Below w0.heap.size w0 wr) (fun iv _ => N - (intOf iv).toNat)
  case atStart => exact ⟨0, Nat.zero_le _, rfl, Below.refl _ _⟩
  case round =>
    obtain ⟨k, hk, rfl, hb⟩ := hrel
    have hkN : k < N := by omega
    obtain ⟨m, hm⟩ : ∃ m, L[k]? = some m := ⟨L[k]'(by rw [HL.out.1]; exact hkN), List.getElem?_eq_getElem _⟩
    obtain ⟨m1, m2⟩ := m
    have r1 := row_belowP H1.out.1 hb
    have hx0 := (hb.block _ (Array.getElem?_eq_some_iff.1 H1.out.2.2).1).trans H1.out.2.2
    obtain ⟨g, cap, hg, _⟩ := mass_formP r1 (by omega)
    simp only [Value.slice.injEq, true_and] at hg
    obtain ⟨rfl, rfl⟩ := hg
    obtain ⟨c0, c1⟩ := mass_cellsP r1 hm
    have d0 : wr.cell? ⟨w.heap.size, 0, none⟩ = some (.string x1) := by rw [Lib.cell_of_heap hx0]; rfl
    have d1 : wr.cell? ⟨w.heap.size, 1, none⟩ = some (.string x2) := by rw [Lib.cell_of_heap hx0]; rfl
    have HB := Lib.hid (H1.out.2.1.trans (hb.mono H1.out.2.1.size))
    have HB0 := Lib.hid hb
    have he := eql_massG m1 m2 x1 x2
    by_cases hq : (m1.toList == x1.toList && m2.toList == x2.toList) = true
    · rw [hq] at he
      clear hb r1 hx0 hm H1 hq
      go_wp2_with fail
      go_quiet (fail)
      go_wp2_with fail
      go_ret
      exact ⟨rfl, below_drewN HB.out _⟩
    · have hkK : k ≠ K := fun e => hq (by
        subst e
        have h2 := hm.symm.trans HL.out.2
        simp only [Option.some.injEq, Prod.mk.injEq] at h2
        rw [h2.1, h2.2, beq_self_eq_true, beq_self_eq_true]; rfl)
      have hq : (m1.toList == x1.toList && m2.toList == x2.toList) = false := by simpa using hq
      rw [hq] at he
      clear hb r1 hx0 hm hq
      go_wp2_with fail
      go_quiet (fail)
      go_wp2_with fail
      go_roundw
      case rel => exact ⟨k + 1, by omega, by go_num, below_drewN HB0.out _⟩
      case measure => simp [intOf]; omega

open Go.RowKit NV
open Go.Lib (decDigits)

theorem KArr.stI {w : World} {g N : Nat} {c : Nat → Nat} (h : KArr w g N c) (i : Nat) (x : Nat) (y : Int) (hy : y = (x : Int)) : KArr (w.setCell ⟨g, i, none⟩ (.int .i64 y)) g N (fun j => if j = i then x else c j) := by
  subst hy; exact h.store i x

theorem sort_ge {L : List Item} (hn : (L.map keyI).Nodup) {j : Nat} {x y : Item} (hx : (sortI L)[j]? = some x) (hy : (sortI L)[j + 1]? = some y) : Op.bytesLess x.1.toList y.1.toList = true := by
  rw [bytesLess_eq, Lib.toList_data, Lib.toList_data]
  refine decide_eq_true ?_
  obtain ⟨h1, rfl⟩ := List.getElem?_eq_some_iff.1 hx
  obtain ⟨h2, rfl⟩ := List.getElem?_eq_some_iff.1 hy
  exact List.pairwise_iff_getElem.1 (sortI_strict hn) j (j + 1) h1 h2 (Nat.lt_succ_self _)

theorem late_all {f : Nat → Nat} {m n : Nat} (hs : ScF f m) : lateP f m n + wsum (cntP f m n) m = 2 ^ n := by
  have h1 := sum_le (n := n) hs m (Nat.le_refl _)
  rw [Nat.mul_div_cancel_left _ hs.pos, sumP_wsum] at h1
  unfold lateP; rw [sumP_wsum]; omega
theorem wsum_z : ∀ (m : Nat) {g : Nat → Nat}, (∀ j, j < m → g j = 0) → wsum g m = 0
  | 0, _, _ => rfl
  | m + 1, g, h => by show wsum g m + g m = 0; rw [wsum_z m (fun j hj => h j (by omega)), h m (by omega)]
theorem law_size (g : Nat → Nat) (late all m : Nat) : (lawL g late all m).length = (itemsP g all m).length + (if late = 0 then 0 else 1) := by
  unfold lawL; rw [List.length_append]; split <;> rfl

end Go.Proofs.YteojekiocecdnaaGreatDoor
