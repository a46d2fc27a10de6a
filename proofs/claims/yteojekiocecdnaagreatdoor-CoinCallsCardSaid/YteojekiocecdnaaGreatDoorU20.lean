/-
  Int of both; the reference's small numbers.
-/
import Derived.Test.YteojekiocecdnaaGreatDoorHG
import Derived.Test.YteojekiocecdnaaGreatDoorHR
import Derived.Test.YteojekiocecdnaaGreatDoorGM
import Derived.Test.YteojekiocecdnaaGreatDoorGL
namespace Go.Proofs.YteojekiocecdnaaGreatDoor
open Go.RowKit NV
open Go.Lib (decDigits)

theorem qstr_negnat (k : Nat) (hk : k ≤ 9223372036854775808) (h0 : 0 < k) : qstr ((-(k : Int) : Int) : Rat) = (⟨#[45]⟩ : ByteArray) ++ dstr k := by
  rw [← itoa_str (-(k : Int)) (by omega) (by omega), Lib.itoa, if_pos (by omega)]
  have : (-(k : Int)).natAbs = k := by omega
  rw [this]
  apply ByteArray.ext
  rw [ByteArray.data_append]
  simp [dstr]

theorem qstr_natI (k : Nat) (hk : k ≤ 9223372036854775807) : qstr ((k : Int) : Rat) = dstr k := by
  rw [← itoa_str (k : Int) (by omega) (by omega), Lib.itoa, if_neg (by omega)]
  rfl

theorem ok_int (k : Nat) (hk : k ≤ 9223372036854775807) : Ok k := Nat.le_trans ((dec_len_le (n := k) (k := 19) (by omega)).2 (by omega)) (by omega)

theorem rsmall_any (k : Nat) (hk : k ≤ 9223372036854775807) (w : World) :
    Calls Tryz.prog 105 #[.int .i64 (k : Int)] w fun e w' => e = .returned (.string (dstr k)) ∧ Below w.heap.size w w' := by
  have hf := iFromInt_any (k : Int) (by omega) (by omega) w
  rw [intR_nat] at hf
  have HF := Lib.hid hf
  clear hf
  go_enter Tryz.func105, Tryz.ntmps105
  go_wp2_with fail
  refine HF.out.mono ?_
  rintro e w1 ⟨rfl, hb⟩
  have HB := Lib.hid hb
  clear hb HF
  go_wp2_with fail
  go_ret
  exact ⟨rfl, HB.out⟩

theorem rInt_nat (k : Nat) (hk : k ≤ 9223372036854775807) (w : World) :
    Calls Tryz.prog 47 #[.int .i64 (k : Int)] w fun e w' => e = .returned (.string (dstr k)) ∧ Below w.heap.size w w' := by
  have hf := iFromInt_any (k : Int) (by omega) (by omega) w
  rw [intR_nat] at hf
  have HF := Lib.hid hf
  clear hf
  go_enter Tryz.func47, Tryz.ntmps47
  go_wp2_with fail
  refine HF.out.mono ?_
  rintro e w1 ⟨rfl, hb⟩
  have HB := Lib.hid hb
  clear hb HF
  go_wp2_with fail
  go_ret
  exact ⟨rfl, HB.out⟩

set_option maxHeartbeats 3200000 in
set_option maxRecDepth 100000 in
theorem rInt_neg (k : Nat) (hk : k ≤ 9223372036854775807) (w : World) :
    Calls Tryz.prog 47 #[.int .i64 (-((k + 1 : Nat) : Int))] w fun e w' => e = .returned (.string ((⟨#[45]⟩ : ByteArray) ++ dstr (k + 1))) ∧ Below w.heap.size w w' := by
  have HS := Lib.hid (fun W => rsmall_any k hk W)
  have HR := Lib.hid (fun W => iread_d k W (ok_int k hk))
  have hln : ln (k + 1) ≤ 445 := (ok_int (k + 1) |> fun _ => by
    have h : Ok (k + 1) := Nat.le_trans ((dec_len_le (n := k + 1) (k := 19) (by omega)).2 (by omega)) (by omega)
    exact h.ln)
  have hlk : ln k ≤ 445 := (ok_int k hk).ln
  have hsz : (dstr (k + 1)).size ≤ 4000 := by
    have h : Ok (k + 1) := Nat.le_trans ((dec_len_le (n := k + 1) (k := 19) (by omega)).2 (by omega)) (by omega)
    rw [dstr_size]; exact h
  have hsz2 : ¬ (9223372036854775807 : Int) < 1 + (((dstr (k + 1)).size : Nat) : Int) := by omega
  have HL := Lib.hid (And.intro hln hlk)
  obtain ⟨n, hn⟩ : ∃ n : Int, n = -((k + 1 : Nat) : Int) := ⟨_, rfl⟩
  have e1 : -(n + 1) = (k : Int) := by omega
  have n0 : n < 0 := by omega
  have n1 : -9223372036854775808 ≤ n := by omega
  rw [← hn]
  have HE := Lib.hid e1
  clear hn e1 hln hlk
  go_enter Tryz.func47, Tryz.ntmps47
  go_wp2_with fail
  first | rw [HE.out] | (rw [show -1 + -n = (k : Int) by have := HE.out; omega]) | (rw [show -n - 1 = (k : Int) by have := HE.out; omega])
  refine (HS.out _).mono ?_
  rintro e w1 ⟨rfl, hb1⟩
  have HB := Lib.hid hb1
  clear hb1 HS
  go_wp2_with fail
  refine (HR.out _).mono ?_
  rintro e w2 ⟨v, rfl, hv, hb2⟩
  obtain ⟨a1, k1, rfl⟩ := islice_any hv
  replace HB := Lib.hid (HB.out.trans (hb2.mono HB.out.size))
  have HV := Lib.hid hv
  clear hv hb2 HR
  go_wp2_with fail
  refine (rone_any _).mono ?_
  rintro e w3 ⟨o, rfl, ho, hb3⟩
  obtain ⟨a2, k2, rfl⟩ := islice_any ho
  replace HV := Lib.hid (HV.out.below hb3)
  replace HB := Lib.hid (HB.out.trans (hb3.mono HB.out.size))
  have HO := Lib.hid ho
  clear ho hb3
  go_wp2_with fail
  refine (iplus_any HV.out HO.out (Nat.le_trans HL.out.2 (by omega)) (by rw [ln_one]; omega) (Nat.le_trans HL.out.1 (by omega))).mono ?_
  rintro e w4 ⟨z, rfl, hz, hb4⟩
  obtain ⟨a3, k3, rfl⟩ := islice_any hz
  replace HB := Lib.hid (HB.out.trans (hb4.mono HB.out.size))
  have HZ := Lib.hid hz
  clear hz hb4
  go_wp2_with fail
  refine (iwrite_any HZ.out (Nat.le_trans HL.out.1 (by omega))).mono ?_
  rintro e w5 ⟨rfl, hb5⟩
  replace HB := Lib.hid (HB.out.trans (hb5.mono HB.out.size))
  clear hb5
  go_wp2_with fail
  go_ret
  exact ⟨rfl, HB.out⟩

end Go.Proofs.YteojekiocecdnaaGreatDoor
