/-
  The statements' own helpers: sum, product and valid.
-/
import Derived.Test.YtiocehlefpbbhaaDoorW22
namespace Go.Proofs.YtiocehlefpbbhaaDoor
open Go.RowKit NV
open Go.Lib (decDigits)

set_option maxHeartbeats 800000 in
theorem sum_ok (a b : Nat) (ha : Ok a) (hb : Ok b) (hab : Ok (a + b)) (w : World) (htab : Tab w) :
    Calls Tryd.prog 27 #[.string (dstr a), .string (dstr b)] w fun e w' => e = .returned (.string (dstr (a + b))) ∧ Below w.heap.size w w' := by
  have HA := Lib.hid (Add_ok a b ha hb hab w htab)
  clear ha hb hab htab
  go_enter Tryd.func27, Tryd.ntmps27
  go_wp2_with fail
  refine HA.out.mono ?_
  rintro e w1 ⟨rfl, hb1⟩
  have HB := Lib.hid hb1
  clear hb1 HA
  go_wp2_with fail
  go_ret
  exact ⟨rfl, HB.out⟩

set_option maxHeartbeats 800000 in
theorem product_ok (a b : Nat) (ha : Ok a) (hb : Ok b) (hab : Ok (a * b)) (w : World) (htab : Tab w) :
    Calls Tryd.prog 28 #[.string (dstr a), .string (dstr b)] w fun e w' => e = .returned (.string (dstr (a * b))) ∧ Below w.heap.size w w' := by
  have HA := Lib.hid (Mul_ok a b ha hb hab w htab)
  clear ha hb hab htab
  go_enter Tryd.func28, Tryd.ntmps28
  go_wp2_with fail
  refine HA.out.mono ?_
  rintro e w1 ⟨rfl, hb1⟩
  have HB := Lib.hid hb1
  clear hb1 HA
  go_wp2_with fail
  go_ret
  exact ⟨rfl, HB.out⟩

/-- Is the text a number of at most d digits? -/
def vld (d : Nat) (s : ByteArray) : Bool := decide (chk s.data.toList = 0 ∧ s.size ≤ d)

def allV (d : Nat) (ss : List ByteArray) : Bool := ss.all (vld d)

theorem all_no {d : Nat} {ss : List ByteArray} {s : ByteArray} (h : s ∈ ss) (hv : ¬ (chk s.data.toList = 0 ∧ s.size ≤ d)) : false = allV d ss := by
  unfold allV
  symm
  rw [List.all_eq_false]
  exact ⟨s, h, by simpa [vld] using hv⟩

theorem all_yes {d : Nat} {ss : List ByteArray} (h : ∀ s ∈ ss, chk s.data.toList = 0 ∧ s.size ≤ d) : true = allV d ss := by
  unfold allV
  symm
  rw [List.all_eq_true]
  intro s hs
  simpa [vld] using h s hs

set_option maxHeartbeats 1600000 in
set_option maxRecDepth 100000 in
theorem valid_any (w : World) (g d : Nat) (ss : List ByteArray) (hn : ss.length ≤ 1000) (_hd : d ≤ 4000) (hs : ∀ s ∈ ss, s.size ≤ 140737488351232)
    (hc : ∀ j, j < ss.length → w.cell? ⟨g, j, none⟩ = some (.string (ss.getD j ByteArray.empty))) :
    Calls Tryd.prog 26 #[.int .i64 (d : Int), .slice (some ⟨g, 0, none⟩) ss.length ss.length] w fun e w' => e = .returned (.bool (allV d ss)) ∧ w = w' := by
  have HC := Lib.hid hc
  have HS := Lib.hid hs
  obtain ⟨n, hnn⟩ : ∃ n, n = ss.length := ⟨_, rfl⟩
  rw [← hnn] at hn ⊢
  have HN := Lib.hid hnn
  clear hc hs hnn
  go_enter Tryd.func26, Tryd.ntmps26
  go_wp2_with fail
  go_loopw [5] (fun i wr => ∃ k : Nat, k ≤ n ∧ i = .int .i64 (k : Int) ∧ (∀ s ∈ ss.take k, chk s.data.toList = 0 ∧ s.size ≤ d) ∧ w = wr) (fun i _ => n - (intOf i).toNat)
  case atStart => exact ⟨0, Nat.zero_le _, rfl, fun s hs => by simp at hs, rfl⟩
  case round =>
    obtain ⟨k, hk, rfl, hall, rfl⟩ := hrel
    have HALL := Lib.hid hall
    clear hall
    by_cases hlt : k < n
    · obtain ⟨s, hse⟩ : ∃ s, s = ss.getD k ByteArray.empty := ⟨_, rfl⟩
      have c0 := HC.out k (by rw [← HN.out]; exact hlt)
      rw [← hse] at c0
      have hmem : s ∈ ss := by
        rw [hse]
        have : k < ss.length := by rw [← HN.out]; exact hlt
        simp [List.getD, this]
      have HM := Lib.hid hmem
      have htk : ss.take (k + 1) = ss.take k ++ [s] := by
        have : k < ss.length := by rw [← HN.out]; exact hlt
        rw [List.take_add_one, hse]; simp [List.getD, this]
      have HTK := Lib.hid htk
      have hsz := HS.out s hmem
      have HRC := Lib.hid (refcheck_any s w hsz)
      clear hse hmem htk
      by_cases h0 : chk s.data.toList = 0
      · have hb0 : (((chk s.data.toList : Nat) : Int) != 0) = false := by rw [h0]; rfl
        have H0 := Lib.hid h0
        clear h0
        by_cases hsd : s.size ≤ d
        · have HNX := Lib.hid (show ∀ s' ∈ ss.take (k + 1), chk s'.data.toList = 0 ∧ s'.size ≤ d from fun s' hs' => by
            rw [HTK.out] at hs'
            rcases List.mem_append.1 hs' with h | h
            · exact HALL.out s' h
            · rw [List.mem_singleton] at h; subst h; exact ⟨H0.out, hsd⟩)
          go_wp2_with fail
          refine HRC.out.mono ?_
          rintro e w1 ⟨rfl, rfl⟩
          go_wp2_with fail
          go_roundw
          case rel => exact ⟨k + 1, by omega, by go_num, HNX.out, by first | rfl | trivial⟩
          case measure => simp [intOf]; omega
        · have HR := Lib.hid (all_no (d := d) HM.out (by omega))
          go_wp2_with fail
          refine HRC.out.mono ?_
          rintro e w1 ⟨rfl, rfl⟩
          go_wp2_with fail
          go_ret
          exact ⟨ret_bool HR.out, rfl⟩
      · have hb0 : (((chk s.data.toList : Nat) : Int) != 0) = true := by rw [bne_iff_ne]; omega
        have HR := Lib.hid (all_no (d := d) HM.out (fun h => h0 h.1))
        clear h0
        go_wp2_with fail
        refine HRC.out.mono ?_
        rintro e w1 ⟨rfl, rfl⟩
        go_wp2_with fail
        go_ret
        exact ⟨ret_bool HR.out, rfl⟩
    · have HR := Lib.hid (all_yes (d := d) (ss := ss) (fun s hs => HALL.out s (by rw [List.take_of_length_le (by rw [← HN.out]; omega)]; exact hs)))
      go_wp2_with fail
      go_ret
      exact ⟨ret_bool HR.out, rfl⟩

end Go.Proofs.YtiocehlefpbbhaaDoor
