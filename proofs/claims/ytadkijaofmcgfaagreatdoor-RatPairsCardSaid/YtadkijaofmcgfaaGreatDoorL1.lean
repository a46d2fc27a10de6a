/-
  The statements' own helpers of layer 2: sum, product, valid, lives.
-/
import Derived.Test.YtadkijaofmcgfaaGreatDoorP24
import Derived.Test.YtadkijaofmcgfaaGreatDoorP25
namespace Go.Proofs.YtadkijaofmcgfaaGreatDoor
open Go.RowKit NV
open Go.Lib (decDigits)

set_option maxHeartbeats 800000 in
theorem sum_of {s t r : ByteArray} {c : Int} {w : World} (h : Calls Tryz.prog 24 #[.string s, .string t] w fun e w' => e = .returned (.tuple #[.string r, .int .i64 c]) ∧ Below w.heap.size w w') :
    Calls Tryz.prog 52 #[.string s, .string t] w fun e w' => e = .returned (.string r) ∧ Below w.heap.size w w' := by
  have HA := Lib.hid h
  clear h
  go_enter Tryz.func52, Tryz.ntmps52
  go_wp2_with fail
  refine HA.out.mono ?_
  rintro e w1 ⟨rfl, hb1⟩
  have HB := Lib.hid hb1
  clear hb1 HA
  go_wp2_with fail
  go_ret
  exact ⟨rfl, HB.out⟩

set_option maxHeartbeats 800000 in
theorem product_of {s t r : ByteArray} {c : Int} {w : World} (h : Calls Tryz.prog 15 #[.string s, .string t] w fun e w' => e = .returned (.tuple #[.string r, .int .i64 c]) ∧ Below w.heap.size w w') :
    Calls Tryz.prog 53 #[.string s, .string t] w fun e w' => e = .returned (.string r) ∧ Below w.heap.size w w' := by
  have HA := Lib.hid h
  clear h
  go_enter Tryz.func53, Tryz.ntmps53
  go_wp2_with fail
  refine HA.out.mono ?_
  rintro e w1 ⟨rfl, hb1⟩
  have HB := Lib.hid hb1
  clear hb1 HA
  go_wp2_with fail
  go_ret
  exact ⟨rfl, HB.out⟩

/-- Is the text a number of at most d bytes? -/
def vld2 (d : Nat) (s : ByteArray) : Bool := decide (rchk s = 0 ∧ s.size ≤ d)
def allV2 (d : Nat) (ss : List ByteArray) : Bool := ss.all (vld2 d)

theorem all2_no {d : Nat} {ss : List ByteArray} {s : ByteArray} (h : s ∈ ss) (hv : ¬ (rchk s = 0 ∧ s.size ≤ d)) : false = allV2 d ss := by
  unfold allV2
  symm
  rw [List.all_eq_false]
  exact ⟨s, h, by simpa [vld2] using hv⟩

theorem all2_yes {d : Nat} {ss : List ByteArray} (h : ∀ s ∈ ss, rchk s = 0 ∧ s.size ≤ d) : true = allV2 d ss := by
  unfold allV2
  symm
  rw [List.all_eq_true]
  intro s hs
  simpa [vld2] using h s hs

set_option maxHeartbeats 3200000 in
set_option maxRecDepth 100000 in
theorem valid2_any (w : World) (g d : Nat) (ss : List ByteArray) (hg : g < w.heap.size) (hn : ss.length ≤ 1000) (_hd : d ≤ 4000) (hs : ∀ s ∈ ss, s.size ≤ 140737488351232)
    (hc : ∀ j, j < ss.length → w.cell? ⟨g, j, none⟩ = some (.string (ss.getD j ByteArray.empty))) :
    Calls Tryz.prog 51 #[.int .i64 (d : Int), .slice (some ⟨g, 0, none⟩) ss.length ss.length] w fun e w' => e = .returned (.bool (allV2 d ss)) ∧ Below w.heap.size w w' := by
  have HC := Lib.hid (show ∀ W, Below w.heap.size w W → ∀ j, j < ss.length → W.cell? ⟨g, j, none⟩ = some (.string (ss.getD j ByteArray.empty)) from fun W h j hj => (h.cell (p := ⟨g, j, none⟩) hg).trans (hc j hj))
  have HS := Lib.hid hs
  obtain ⟨n, hnn⟩ : ∃ n, n = ss.length := ⟨_, rfl⟩
  rw [← hnn] at hn ⊢
  have HN := Lib.hid hnn
  have HB0 := Lib.hid (Below.refl w.heap.size w)
  clear hc hs hnn hg
  go_enter Tryz.func51, Tryz.ntmps51
  go_wp2_with fail
  go_loopw [5] (fun i wr => ∃ k : Nat, k ≤ n ∧ i = .int .i64 (k : Int) ∧ (∀ s ∈ ss.take k, rchk s = 0 ∧ s.size ≤ d) ∧ Below w.heap.size w wr) (fun i _ => n - (intOf i).toNat)
  case atStart => exact ⟨0, Nat.zero_le _, rfl, fun s hs => by simp at hs, HB0.out⟩
  case round =>
    obtain ⟨k, hk, rfl, hall, hbr⟩ := hrel
    have HALL := Lib.hid hall
    have HBR := Lib.hid hbr
    clear hall
    by_cases hlt : k < n
    · obtain ⟨s, hse⟩ : ∃ s, s = ss.getD k ByteArray.empty := ⟨_, rfl⟩
      have c0 := HC.out _ hbr k (by rw [← HN.out]; exact hlt)
      rw [← hse] at c0
      have hmem : s ∈ ss := by
        rw [hse]
        have : k < ss.length := by rw [← HN.out]; exact hlt
        simp [List.getD, this]
      have HM := Lib.hid hmem
      have htk : ss.take (k + 1) = ss.take k ++ [s] := by
        have : k < ss.length := by rw [← HN.out]; exact hlt
        rw [List.take_add_one, hse]; simp [List.getD, this]
      have HTK := Lib.hid htk
      have hsz := HS.out s hmem
      have HRC := Lib.hid (rcheck_any s wr hsz)
      clear hse hmem htk hbr
      by_cases hsd : s.size ≤ d
      · by_cases h0 : rchk s = 0
        · have hb0 : (((rchk s : Nat) : Int) != 0) = false := by rw [h0]; rfl
          have H0 := Lib.hid h0
          have HSD := Lib.hid hsd
          clear h0
          have HNX := Lib.hid (show ∀ s' ∈ ss.take (k + 1), rchk s' = 0 ∧ s'.size ≤ d from fun s' hs' => by
            rw [HTK.out] at hs'
            rcases List.mem_append.1 hs' with h | h
            · exact HALL.out s' h
            · rw [List.mem_singleton] at h; subst h; exact ⟨H0.out, HSD.out⟩)
          go_wp2_with fail
          refine HRC.out.mono ?_
          rintro e w1 ⟨rfl, hb1⟩
          have HB1 := Lib.hid (HBR.out.trans (hb1.mono HBR.out.size))
          clear hb1 c0
          go_wp2_with fail
          go_roundw
          case rel => exact ⟨k + 1, by omega, by go_num, HNX.out, HB1.out⟩
          case measure => simp [intOf]; omega
        · have hb0 : (((rchk s : Nat) : Int) != 0) = true := by rw [bne_iff_ne]; omega
          have HR := Lib.hid (all2_no (d := d) HM.out (fun h => h0 h.1))
          clear h0
          go_wp2_with fail
          refine HRC.out.mono ?_
          rintro e w1 ⟨rfl, hb1⟩
          have HB1 := Lib.hid (HBR.out.trans (hb1.mono HBR.out.size))
          clear hb1 c0
          go_wp2_with fail
          go_ret
          exact ⟨ret_bool HR.out, HB1.out⟩
      · have HR := Lib.hid (all2_no (d := d) HM.out (by omega))
        go_wp2_with fail
        go_ret
        exact ⟨ret_bool HR.out, HBR.out⟩
    · have HR := Lib.hid (all2_yes (d := d) (ss := ss) (fun s hs => HALL.out s (by rw [List.take_of_length_le (by rw [← HN.out]; omega)]; exact hs)))
      go_wp2_with fail
      go_ret
      exact ⟨ret_bool HR.out, HBR.out⟩

theorem three_cells {w : World} (s t u : ByteArray) (e : TypeId) : ∀ j, j < [s, t, u].length → (w.alloc (.cells #[.string s, .string t, .string u] e)).cell? ⟨w.heap.size, j, none⟩ = some (.string ([s, t, u].getD j ByteArray.empty)) := by
  intro j hj
  rw [Lib.cell_of_heap (heap_alloc_new w _)]
  match j, hj with
  | 0, _ => rfl
  | 1, _ => rfl
  | 2, _ => rfl

theorem one_cell2 {w : World} (s : ByteArray) (e : TypeId) : ∀ j, j < [s].length → (w.alloc (.cells #[.string s] e)).cell? ⟨w.heap.size, j, none⟩ = some (.string ([s].getD j ByteArray.empty)) := by
  intro j hj
  rw [Lib.cell_of_heap (heap_alloc_new w _)]
  match j, hj with
  | 0, _ => rfl

theorem Sz.qok {k : Nat} {q : Rat} (h : Sz k q) (hk0 : 0 < k) (hk : k ≤ 4000) : QOk q :=
  ⟨Nat.le_trans ((dec_len_le hk0).2 h.1) hk, Nat.le_trans ((dec_len_le hk0).2 h.2) hk⟩

theorem qstr_sizes (q : Rat) : (decDigits (tp q)).length ≤ (qstr q).size ∧ (decDigits q.den).length ≤ (qstr q).size := by
  have hi : (istr (ng q) (tp q)).size = (if ng q then 1 else 0) + (decDigits (tp q)).length := by
    rw [Go.Lib.size_eq, istr_list]; cases ng q <;> simp <;> omega
  have hd := dec_len_pos (tp q)
  unfold qstr
  rw [rstr_eq]
  by_cases h : q.den = 1
  · rw [if_pos h, hi, h, dec_one]
    constructor
    · omega
    · show 1 ≤ _; omega
  · rw [if_neg h, ByteArray.size_append, ByteArray.size_append, hi, dstr_size]
    have : (⟨#[47]⟩ : ByteArray).size = 1 := rfl
    omega

/-- What valid has said. -/
theorem valid2_parts {d : Nat} {ss : List ByteArray} (hd0 : 0 < d) (h : allV2 d ss = true) {s : ByteArray} (hs : s ∈ ss) : ∃ q : Rat, s = qstr q ∧ QOk q ∧ Sz d q := by
  unfold allV2 at h
  have := List.all_eq_true.1 h s hs
  simp [vld2] at this
  obtain ⟨h1, h2⟩ := this
  obtain ⟨q, rfl, ho⟩ := rchk_rat h1
  obtain ⟨s1, s2⟩ := qstr_sizes q
  exact ⟨q, rfl, ho, (dec_len_le hd0).1 (by omega), (dec_len_le hd0).1 (by omega)⟩

end Go.Proofs.YtadkijaofmcgfaaGreatDoor
