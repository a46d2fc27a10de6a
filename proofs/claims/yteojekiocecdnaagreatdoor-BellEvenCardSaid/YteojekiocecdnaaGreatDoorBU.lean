/-
  Int of both; the reference's small numbers. The reference of layer 3: small, Value, Two, Share, Check.
-/
import Derived.Test.YteojekiocecdnaaGreatDoorHG
import Derived.Test.YteojekiocecdnaaGreatDoorHR
import Derived.Test.YteojekiocecdnaaGreatDoorGM
import Derived.Test.YteojekiocecdnaaGreatDoorGL
import Derived.Test.YteojekiocecdnaaGreatDoorBC
import Derived.Test.YteojekiocecdnaaGreatDoorHE
namespace Go.Proofs.YteojekiocecdnaaGreatDoor
open Go.RowKit NV
open Go.Lib (decDigits)

theorem qstr_negnat (k : Nat) (hk : k ≤ 9223372036854775808) (h0 : 0 < k) : qstr ((-(k : Int) : Int) : Rat) = (⟨#[45]⟩ : ByteArray) ++ dstr k := by
  rw [← itoa_str (-(k : Int)) (by omega) (by omega), Lib.itoa, if_pos (by omega)]
  have : (-(k : Int)).natAbs = k := by omega
  rw [this]
  apply ByteArray.ext
  rw [ByteArray.data_append]
  simp [dstr]

theorem qstr_natI (k : Nat) (hk : k ≤ 9223372036854775807) : qstr ((k : Int) : Rat) = dstr k := by
  rw [← itoa_str (k : Int) (by omega) (by omega), Lib.itoa, if_neg (by omega)]
  rfl

theorem ok_int (k : Nat) (hk : k ≤ 9223372036854775807) : Ok k := Nat.le_trans ((dec_len_le (n := k) (k := 19) (by omega)).2 (by omega)) (by omega)

theorem rsmall_any (k : Nat) (hk : k ≤ 9223372036854775807) (w : World) :
    Calls Tryz.prog 105 #[.int .i64 (k : Int)] w fun e w' => e = .returned (.string (dstr k)) ∧ Below w.heap.size w w' := by
  have hf := iFromInt_any (k : Int) (by omega) (by omega) w
  rw [intR_nat] at hf
  have HF := Lib.hid hf
  clear hf
  go_enter Tryz.func105, Tryz.ntmps105
  go_wp2_with fail
  refine HF.out.mono ?_
  rintro e w1 ⟨rfl, hb⟩
  have HB := Lib.hid hb
  clear hb HF
  go_wp2_with fail
  go_ret
  exact ⟨rfl, HB.out⟩

theorem rInt_nat (k : Nat) (hk : k ≤ 9223372036854775807) (w : World) :
    Calls Tryz.prog 47 #[.int .i64 (k : Int)] w fun e w' => e = .returned (.string (dstr k)) ∧ Below w.heap.size w w' := by
  have hf := iFromInt_any (k : Int) (by omega) (by omega) w
  rw [intR_nat] at hf
  have HF := Lib.hid hf
  clear hf
  go_enter Tryz.func47, Tryz.ntmps47
  go_wp2_with fail
  refine HF.out.mono ?_
  rintro e w1 ⟨rfl, hb⟩
  have HB := Lib.hid hb
  clear hb HF
  go_wp2_with fail
  go_ret
  exact ⟨rfl, HB.out⟩

set_option maxHeartbeats 3200000 in
set_option maxRecDepth 100000 in
theorem rInt_neg (k : Nat) (hk : k ≤ 9223372036854775807) (w : World) :
    Calls Tryz.prog 47 #[.int .i64 (-((k + 1 : Nat) : Int))] w fun e w' => e = .returned (.string ((⟨#[45]⟩ : ByteArray) ++ dstr (k + 1))) ∧ Below w.heap.size w w' := by
  have HS := Lib.hid (fun W => rsmall_any k hk W)
  have HR := Lib.hid (fun W => iread_d k W (ok_int k hk))
  have hln : ln (k + 1) ≤ 445 := (ok_int (k + 1) |> fun _ => by
    have h : Ok (k + 1) := Nat.le_trans ((dec_len_le (n := k + 1) (k := 19) (by omega)).2 (by omega)) (by omega)
    exact h.ln)
  have hlk : ln k ≤ 445 := (ok_int k hk).ln
  have hsz : (dstr (k + 1)).size ≤ 4000 := by
    have h : Ok (k + 1) := Nat.le_trans ((dec_len_le (n := k + 1) (k := 19) (by omega)).2 (by omega)) (by omega)
    rw [dstr_size]; exact h
  have hsz2 : ¬ (9223372036854775807 : Int) < 1 + (((dstr (k + 1)).size : Nat) : Int) := by omega
  have HL := Lib.hid (And.intro hln hlk)
  obtain ⟨n, hn⟩ : ∃ n : Int, n = -((k + 1 : Nat) : Int) := ⟨_, rfl⟩
  have e1 : -(n + 1) = (k : Int) := by omega
  have n0 : n < 0 := by omega
  have n1 : -9223372036854775808 ≤ n := by omega
  rw [← hn]
  have HE := Lib.hid e1
  clear hn e1 hln hlk
  go_enter Tryz.func47, Tryz.ntmps47
  go_wp2_with fail
  first | rw [HE.out] | (rw [show -1 + -n = (k : Int) by have := HE.out; omega]) | (rw [show -n - 1 = (k : Int) by have := HE.out; omega])
  refine (HS.out _).mono ?_
  rintro e w1 ⟨rfl, hb1⟩
  have HB := Lib.hid hb1
  clear hb1 HS
  go_wp2_with fail
  refine (HR.out _).mono ?_
  rintro e w2 ⟨v, rfl, hv, hb2⟩
  obtain ⟨a1, k1, rfl⟩ := islice_any hv
  replace HB := Lib.hid (HB.out.trans (hb2.mono HB.out.size))
  have HV := Lib.hid hv
  clear hv hb2 HR
  go_wp2_with fail
  refine (rone_any _).mono ?_
  rintro e w3 ⟨o, rfl, ho, hb3⟩
  obtain ⟨a2, k2, rfl⟩ := islice_any ho
  replace HV := Lib.hid (HV.out.below hb3)
  replace HB := Lib.hid (HB.out.trans (hb3.mono HB.out.size))
  have HO := Lib.hid ho
  clear ho hb3
  go_wp2_with fail
  refine (iplus_any HV.out HO.out (Nat.le_trans HL.out.2 (by omega)) (by rw [ln_one]; omega) (Nat.le_trans HL.out.1 (by omega))).mono ?_
  rintro e w4 ⟨z, rfl, hz, hb4⟩
  obtain ⟨a3, k3, rfl⟩ := islice_any hz
  replace HB := Lib.hid (HB.out.trans (hb4.mono HB.out.size))
  have HZ := Lib.hid hz
  clear hz hb4
  go_wp2_with fail
  refine (iwrite_any HZ.out (Nat.le_trans HL.out.1 (by omega))).mono ?_
  rintro e w5 ⟨rfl, hb5⟩
  replace HB := Lib.hid (HB.out.trans (hb5.mono HB.out.size))
  clear hb5
  go_wp2_with fail
  go_ret
  exact ⟨rfl, HB.out⟩

open Go.RowKit NV
open Go.Lib (decDigits)

theorem rsmall3 (n : Nat) (hn : n ≤ 9223372036854775807) (w : World) :
    Calls Tryz.prog 131 #[.int .i64 (n : Int)] w fun e w' => ∃ v, e = .returned v ∧ INum w' v n ∧ Below w.heap.size w w' := by
  have HI := Lib.hid (fun W => rInt_nat n hn W)
  have HR := Lib.hid (fun W => iread_d n W (ok_int n hn))
  go_enter Tryz.func131, Tryz.ntmps131
  go_wp2_with fail
  refine (HI.out _).mono ?_
  rintro e w1 ⟨rfl, hb⟩
  have HB := Lib.hid hb
  clear hb HI
  go_wp2_with fail
  refine (HR.out _).mono ?_
  rintro e w2 ⟨v, rfl, hv, hb⟩
  obtain ⟨a1, k1, rfl⟩ := islice_any hv
  have HF := Lib.hid (And.intro hv (HB.out.trans (hb.mono HB.out.size)))
  clear hv hb HR HB
  go_wp2_with fail
  go_ret
  exact ⟨_, rfl, HF.out.1, HF.out.2⟩

theorem bv_snoc (l : List UInt8) (c : UInt8) : bv (l ++ [c]) = 2 * bv l + (c.toNat - 48) := by
  rw [bv_append]
  show bv l * 2 ^ 1 + (2 * 0 + (c.toNat - 48)) = _
  rw [Nat.pow_one]; omega
theorem lnb {a : Nat} (e : Nat) (he : e ≤ 320) (h : a ≤ 2 ^ e) : ln a ≤ 445 := (ok_two (n := e) he h).ln
theorem pow3 {k n : Nat} (h : k ≤ n) : (2 : Nat) ^ k ≤ 2 ^ n := Nat.pow_le_pow_right (by omega) h

set_option maxHeartbeats 3200000 in
set_option maxRecDepth 100000 in
theorem rValue_ok {s : ByteArray} (hb : IsBits s.data.toList) (hs : s.size ≤ 256) (w : World) :
    Calls Tryz.prog 77 #[.string s] w fun e w' => ∃ v, e = .returned v ∧ INum w' v (bv s.data.toList) ∧ Below w.heap.size w w' := by
  have HSZ := Lib.hid (Go.Lib.size_eq s)
  have H0 := Lib.hid (fun W => rsmall3 0 (by omega) W)
  have H1 := Lib.hid (fun W => rsmall3 1 (by omega) W)
  have HLN := Lib.hid (show ∀ k, k ≤ s.size → bv (s.data.toList.take k) < 2 ^ k from fun k hk => by
    have := bv_lt _ (hb.take k)
    rwa [List.length_take, Nat.min_eq_left (by rw [← Go.Lib.size_eq]; exact hk)] at this)
  have HBT := Lib.hid hb
  clear hb
  go_enter Tryz.func77, Tryz.ntmps77
  go_wp2_with fail
  refine (H0.out _).mono ?_
  rintro e w1 ⟨v, rfl, hv, hb⟩
  obtain ⟨a1, k1, rfl⟩ := islice_any hv
  have HF := Lib.hid (And.intro hv hb)
  clear hv hb H0
  go_wp2_with fail
  go_loopw [3, 4] (fun ov iv wr => ∃ k : Nat, k ≤ s.size ∧ iv = .int .i64 (k : Int) ∧ INum wr ov (bv (s.data.toList.take k)) ∧ Below w.heap.size w wr) (fun _ iv _ => s.size - (intOf iv).toNat)
  case atStart => exact ⟨0, Nat.zero_le _, rfl, by rw [List.take_zero]; exact HF.out.1, HF.out.2⟩
  case round =>
    obtain ⟨k, hk, rfl, hv, hb⟩ := hrel
    clear HF
    by_cases hlt : k < s.size
    · have hbt := byte_at s k hlt
      have htk : s.data.toList.take (k + 1) = s.data.toList.take k ++ [s[k]] := by
        rw [List.take_add_one, hbt]; rfl
      have hc : s[k] = 48 ∨ s[k] = 49 := HBT.out s[k] (by
        obtain ⟨h1, h2⟩ := List.getElem?_eq_some_iff.1 hbt
        rw [← h2]; exact List.getElem_mem h1)
      have hlt2 := HLN.out k hk
      have h2k : (2 : Nat) ^ (k + 1) = 2 ^ k * 2 := Nat.pow_succ ..
      have hsn := bv_snoc (s.data.toList.take k) s[k]
      rw [← htk] at hsn
      obtain ⟨a1, k1, rfl⟩ := islice_any hv
      have HV := Lib.hid hv
      have HB := Lib.hid hb
      generalize bv (s.data.toList.take k) = A at *
      have HA := Lib.hid (And.intro (lnb (a := A) (k + 1) (by omega) (by omega)) (And.intro (lnb (a := A + A) (k + 1) (by omega) (by omega)) (lnb (a := A + A + 1) (k + 1) (by omega) (by omega))))
      have HSN := Lib.hid hsn
      have HSH := Lib.hid (HBT.out)
      clear hv hb hbt htk hlt2 h2k hsn
      rcases hc with hc | hc
      · have h49 : ((((s[k]).toNat : Nat) : Int) == 49) = false := by rw [hc]; rfl
        have HE := Lib.hid (show bv (s.data.toList.take (k + 1)) = A + A by rw [HSN.out, hc]; show 2 * A + 0 = _; omega)
        clear hc HSN
        go_wp2_with fail
        refine (iplus_any HV.out HV.out (Nat.le_trans HA.out.1 (by omega)) (Nat.le_trans HA.out.1 (by omega)) (Nat.le_trans HA.out.2.1 (by omega))).mono ?_
        rintro e w2 ⟨v, rfl, hv, hb⟩
        obtain ⟨a2, k2, rfl⟩ := islice_any hv
        have HF := Lib.hid (And.intro hv (HB.out.trans (hb.mono HB.out.size)))
        clear hv hb HB HV
        go_wp2_with fail
        go_roundw
        case rel => exact ⟨k + 1, by omega, by go_num, by rw [HE.out]; exact HF.out.1, HF.out.2⟩
        case measure => simp [intOf]; omega
      · have h49 : ((((s[k]).toNat : Nat) : Int) == 49) = true := by rw [hc]; rfl
        have HE := Lib.hid (show bv (s.data.toList.take (k + 1)) = A + A + 1 by rw [HSN.out, hc]; show 2 * A + 1 = _; omega)
        clear hc HSN
        go_wp2_with fail
        refine (iplus_any HV.out HV.out (Nat.le_trans HA.out.1 (by omega)) (Nat.le_trans HA.out.1 (by omega)) (Nat.le_trans HA.out.2.1 (by omega))).mono ?_
        rintro e w2 ⟨v, rfl, hv, hb⟩
        obtain ⟨a2, k2, rfl⟩ := islice_any hv
        have HF := Lib.hid (And.intro hv (HB.out.trans (hb.mono HB.out.size)))
        clear hv hb HB HV
        go_wp2_with fail
        refine (H1.out _).mono ?_
        rintro e w3 ⟨v, rfl, hv, hb⟩
        obtain ⟨a3, k3, rfl⟩ := islice_any hv
        have HG := Lib.hid (And.intro (HF.out.1.below hb) (And.intro hv (HF.out.2.trans (hb.mono HF.out.2.size))))
        clear hv hb HF
        go_wp2_with fail
        refine (iplus_any HG.out.1 HG.out.2.1 (Nat.le_trans HA.out.2.1 (by omega)) (by rw [ln_one]; omega) (Nat.le_trans HA.out.2.2 (by omega))).mono ?_
        rintro e w4 ⟨v, rfl, hv, hb⟩
        obtain ⟨a4, k4, rfl⟩ := islice_any hv
        have HF := Lib.hid (And.intro hv (HG.out.2.2.trans (hb.mono HG.out.2.2.size)))
        clear hv hb HG
        go_wp2_with fail
        go_roundw
        case rel => exact ⟨k + 1, by omega, by go_num, by rw [HE.out]; exact HF.out.1, HF.out.2⟩
        case measure => simp [intOf]; omega
    · obtain rfl : k = s.size := by omega
      rw [List.take_of_length_le (by rw [← HSZ.out]; exact Nat.le_refl _)] at hv
      obtain ⟨a1, k1, rfl⟩ := islice_any hv
      have HF := Lib.hid (And.intro hv hb)
      clear hv hb
      go_wp2_with fail
      go_ret
      exact ⟨_, rfl, HF.out.1, HF.out.2⟩

set_option maxHeartbeats 3200000 in
set_option maxRecDepth 100000 in
theorem rTwo_ok (n : Nat) (hn : n ≤ 256) (w : World) :
    Calls Tryz.prog 66 #[.int .i64 (n : Int)] w fun e w' => ∃ v, e = .returned v ∧ INum w' v (2 ^ n) ∧ Below w.heap.size w w' := by
  have H1 := Lib.hid (fun W => rsmall3 1 (by omega) W)
  go_enter Tryz.func66, Tryz.ntmps66
  go_wp2_with fail
  refine (H1.out _).mono ?_
  rintro e w1 ⟨v, rfl, hv, hb⟩
  obtain ⟨a1, k1, rfl⟩ := islice_any hv
  have HF := Lib.hid (And.intro hv hb)
  clear hv hb H1
  go_wp2_with fail
  go_loopw [0, 3] (fun nv ov wr => ∃ j : Nat, j ≤ n ∧ nv = .int .i64 ((n : Int) - (j : Int)) ∧ INum wr ov (2 ^ j) ∧ Below w.heap.size w wr) (fun nv _ _ => (intOf nv).toNat)
  case atStart => exact ⟨0, Nat.zero_le _, by simp, by rw [Nat.pow_zero]; exact HF.out.1, HF.out.2⟩
  case round =>
    obtain ⟨j, hj, rfl, hv, hb⟩ := hrel
    clear HF
    by_cases hjn : j < n
    · have hpos : (0 : Int) < (n : Int) - (j : Int) := by omega
      have he : (2 : Nat) ^ (j + 1) = 2 ^ j + 2 ^ j := by rw [Nat.pow_succ]; omega
      have HE := Lib.hid he
      obtain ⟨a1, k1, rfl⟩ := islice_any hv
      have HV := Lib.hid hv
      have HB := Lib.hid hb
      have HA := Lib.hid (And.intro (lnb (a := 2 ^ j) j (by omega) (Nat.le_refl _)) (lnb (a := 2 ^ j + 2 ^ j) (j + 1) (by omega) (by omega)))
      clear hv hb he
      generalize 2 ^ j = A at *
      go_wp2_with fail
      refine (iplus_any HV.out HV.out (Nat.le_trans HA.out.1 (by omega)) (Nat.le_trans HA.out.1 (by omega)) (Nat.le_trans HA.out.2 (by omega))).mono ?_
      rintro e w2 ⟨v, rfl, hv, hb⟩
      obtain ⟨a2, k2, rfl⟩ := islice_any hv
      have HF := Lib.hid (And.intro hv (HB.out.trans (hb.mono HB.out.size)))
      clear hv hb HB HV
      go_wp2_with fail
      go_roundw
      case rel => exact ⟨j + 1, by omega, by go_num, by rw [HE.out]; exact HF.out.1, HF.out.2⟩
      case measure => simp [intOf]; omega
    · obtain rfl : j = n := by omega
      have hpos : ¬ (0 : Int) < (j : Int) - (j : Int) := by omega
      obtain ⟨a1, k1, rfl⟩ := islice_any hv
      have HF := Lib.hid (And.intro hv hb)
      clear hv hb
      go_wp2_with fail
      go_ret
      exact ⟨_, rfl, HF.out.1, HF.out.2⟩

theorem rMakeC3 {k n : Nat} (hn : n ≤ 256) (hk : k ≤ 2 ^ n) (w : World) :
    Calls Tryz.prog 92 #[.string (dstr k), .string (dstr (2 ^ n))] w fun e w' => e = .returned (.tuple #[.string (qstr (cQ k n)), .int .i64 0]) ∧ Below w.heap.size w w' := by
  have ok1 : Ok k := ok_two (n := n) (by omega) hk
  have ok2 : Ok (2 ^ n) := ok_two (n := n) (by omega) (Nat.le_refl _)
  have s1 : (dstr k).size ≤ 1000000 := by rw [dstr_size]; unfold Ok at ok1; omega
  have s2 : (dstr (2 ^ n)).size ≤ 1000000 := by rw [dstr_size]; unfold Ok at ok2; omega
  have h := rMake_q (s := istr false k) (t := dstr (2 ^ n)) w s1 s2 (chkI_istr ok1 (by simp)) (by rw [dstr_list, ok2.chk]) (by rw [dstr_list, dv_dec]; exact Nat.pos_iff_ne_zero.1 (Nat.pow_pos (by omega)))
  rw [istr_minus, istr_rest, dstr_list, dv_dec, dstr_list, dv_dec] at h
  exact rq_done (r := cQ k n) h rfl (cQ_ok hn hk)

set_option maxHeartbeats 1600000 in
theorem rShare_ok {x : Value} {k n : Nat} (hn : n ≤ 256) (hk : k ≤ 2 ^ n) (w : World) (hx : INum w x k) :
    Calls Tryz.prog 64 #[x, .int .i64 (n : Int)] w fun e w' => e = .returned (.string (qstr (cQ k n))) ∧ Below w.heap.size w w' := by
  have HM := Lib.hid (fun W => rMakeC3 hn hk W)
  have HT := Lib.hid (fun W => rTwo_ok n hn W)
  have HL := Lib.hid (And.intro (lnb (a := k) n (by omega) hk) (lnb (a := 2 ^ n) n (by omega) (Nat.le_refl _)))
  have HX := Lib.hid hx
  obtain ⟨a0, k0, rfl⟩ := islice_any hx
  generalize qstr (cQ k n) = sq at *
  clear hx hk
  go_enter Tryz.func64, Tryz.ntmps64
  go_wp2_with fail
  refine (iwrite_any HX.out (Nat.le_trans HL.out.1 (by omega))).mono ?_
  rintro e w1 ⟨rfl, hb⟩
  have HB := Lib.hid hb
  clear hb
  go_wp2_with fail
  refine (HT.out _).mono ?_
  rintro e w2 ⟨v, rfl, hv, hb⟩
  obtain ⟨a1, k1, rfl⟩ := islice_any hv
  replace HB := Lib.hid (HB.out.trans (hb.mono HB.out.size))
  have HV := Lib.hid hv
  clear hv hb HT
  go_wp2_with fail
  refine (iwrite_any HV.out (Nat.le_trans HL.out.2 (by omega))).mono ?_
  rintro e w3 ⟨rfl, hb⟩
  replace HB := Lib.hid (HB.out.trans (hb.mono HB.out.size))
  clear hb
  go_wp2_with fail
  refine (HM.out _).mono ?_
  rintro e w4 ⟨rfl, hb⟩
  replace HB := Lib.hid (HB.out.trans (hb.mono HB.out.size))
  clear hb
  go_wp2_with fail
  go_ret
  exact ⟨rfl, HB.out⟩

set_option maxHeartbeats 1600000 in
theorem rCheck3_any (s : ByteArray) (w : World) (hs : s.size ≤ 140737488351232) :
    Calls Tryz.prog 53 #[.string s] w fun e w' => e = .returned (.int .i64 ((bchk s.data.toList : Nat) : Int)) ∧ w = w' := by
  have HSZ := Lib.hid (Go.Lib.size_eq s)
  go_enter Tryz.func53, Tryz.ntmps53
  go_wp2_with fail
  go_loop [3] (fun i => ∃ k : Nat, k ≤ s.size ∧ i = .int .i64 (k : Int) ∧ Hid (IsBits (s.data.toList.take k))) (fun i => s.size - (intOf i).toNat)
  case atStart => exact ⟨0, Nat.zero_le _, rfl, Lib.hid (fun c h => by simp at h)⟩
  case round =>
    obtain ⟨k, hk, rfl, HN⟩ := hrel
    by_cases hlt : k < s.size
    · have hb := byte_at s k hlt
      have hlen : k < s.data.toList.length := by rw [← HSZ.out]; exact hlt
      have htk : s.data.toList.take (k + 1) = s.data.toList.take k ++ [s[k]] := by
        rw [List.take_add_one, hb]; rfl
      by_cases hc : s[k] = 48 ∨ s[k] = 49
      · have HN2 := Lib.hid (show IsBits (s.data.toList.take (k + 1)) from fun c h => by
          rw [htk] at h
          rcases List.mem_append.1 h with h | h
          · exact HN.out c h
          · rw [List.mem_singleton] at h; rw [h]; exact hc)
        clear hb htk
        rcases hc with hc | hc
        · have h48 : ((((s[k]).toNat : Nat) : Int) != 48) = false := by rw [hc]; rfl
          clear hc
          go_wp2_with fail
          go_round
          case rel => exact ⟨k + 1, by omega, by go_num, HN2⟩
          case measure => simp [intOf]; omega
        · have h48 : ((((s[k]).toNat : Nat) : Int) != 48) = true := by rw [hc]; rfl
          have h49 : ((((s[k]).toNat : Nat) : Int) != 49) = false := by rw [hc]; rfl
          clear hc
          go_wp2_with fail
          go_round
          case rel => exact ⟨k + 1, by omega, by go_num, HN2⟩
          case measure => simp [intOf]; omega
      · have h48 : ((((s[k]).toNat : Nat) : Int) != 48) = true := by
          rw [bne_iff_ne]; intro e; apply hc; left; apply UInt8.toNat_inj.1; show _ = 48; omega
        have h49 : ((((s[k]).toNat : Nat) : Int) != 49) = true := by
          rw [bne_iff_ne]; intro e; apply hc; right; apply UInt8.toNat_inj.1; show _ = 49; omega
        have HR := Lib.hid (show (3 : Int) = ((bchk s.data.toList : Nat) : Int) by
          rw [bchk_no (fun h => hc (h s[k] (by
            have := List.getElem?_eq_some_iff.1 hb
            obtain ⟨h1, h2⟩ := this
            rw [← h2]; exact List.getElem_mem h1)))]; rfl)
        clear hb htk hc
        go_wp2_with fail
        go_ret
        exact ⟨ret_int HR.out, rfl⟩
    · obtain rfl : k = s.size := by omega
      have HR := Lib.hid (show (0 : Int) = ((bchk s.data.toList : Nat) : Int) by
        rw [bchk_yes (by have := HN.out; rw [HSZ.out, List.take_length] at this; exact this)]; rfl)
      go_wp2_with fail
      go_ret
      exact ⟨ret_int HR.out, rfl⟩

end Go.Proofs.YteojekiocecdnaaGreatDoor
