/-
  light, same; RatPairs returns true.
-/
import Derived.Test.YtadkijaofmcgfaaGreatDoorU11
import Derived.Test.YtadkijaofmcgfaaGreatDoorL2
namespace Go.Proofs.YtadkijaofmcgfaaGreatDoor
open Go.RowKit NV
open Go.Lib (decDigits)

/-- Is no text longer than d? -/
def allL (d : Nat) (ss : List ByteArray) : Bool := ss.all (fun s => decide (s.size ≤ d))
theorem allL_no {d : Nat} {ss : List ByteArray} {s : ByteArray} (h : s ∈ ss) (hs : ¬ s.size ≤ d) : false = allL d ss := by
  symm; unfold allL
  rw [List.all_eq_false]
  exact ⟨s, h, by simpa using hs⟩
theorem allL_yes {d : Nat} {ss : List ByteArray} (h : ∀ s ∈ ss, s.size ≤ d) : true = allL d ss := by
  symm; unfold allL
  rw [List.all_eq_true]
  intro s hs
  simpa using h s hs

set_option maxHeartbeats 3200000 in
set_option maxRecDepth 100000 in
theorem light_any (w : World) (g d : Nat) (ss : List ByteArray) (hg : g < w.heap.size) (hn : ss.length ≤ 1000) (_hd : d ≤ 10000) (hs : ∀ s ∈ ss, s.size ≤ 140737488351232)
    (hc : ∀ j, j < ss.length → w.cell? ⟨g, j, none⟩ = some (.string (ss.getD j ByteArray.empty))) :
    Calls Tryz.prog 28 #[.int .i64 (d : Int), .slice (some ⟨g, 0, none⟩) ss.length ss.length] w fun e w' => e = .returned (.bool (allL d ss)) ∧ Below w.heap.size w w' := by
  have HC := Lib.hid (show ∀ W, Below w.heap.size w W → ∀ j, j < ss.length → W.cell? ⟨g, j, none⟩ = some (.string (ss.getD j ByteArray.empty)) from fun W h j hj => (h.cell (p := ⟨g, j, none⟩) hg).trans (hc j hj))
  have HS := Lib.hid hs
  obtain ⟨n, hnn⟩ : ∃ n, n = ss.length := ⟨_, rfl⟩
  rw [← hnn] at hn ⊢
  have HN := Lib.hid hnn
  have HB0 := Lib.hid (Below.refl w.heap.size w)
  clear hc hs hnn hg
  go_enter Tryz.func28, Tryz.ntmps28
  go_wp2_with fail
  go_loopw [5] (fun i wr => ∃ k : Nat, k ≤ n ∧ i = .int .i64 (k : Int) ∧ (∀ s ∈ ss.take k, s.size ≤ d) ∧ Below w.heap.size w wr) (fun i _ => n - (intOf i).toNat)
  case atStart => exact ⟨0, Nat.zero_le _, rfl, fun s hs => by simp at hs, HB0.out⟩
  case round =>
    obtain ⟨k, hk, rfl, hall, hbr⟩ := hrel
    have HALL := Lib.hid hall
    have HBR := Lib.hid hbr
    clear hall
    by_cases hlt : k < n
    · obtain ⟨s, hse⟩ : ∃ s, s = ss.getD k ByteArray.empty := ⟨_, rfl⟩
      have c0 := HC.out _ hbr k (by rw [← HN.out]; exact hlt)
      rw [← hse] at c0
      have hmem : s ∈ ss := by
        rw [hse]
        have : k < ss.length := by rw [← HN.out]; exact hlt
        simp [List.getD, this]
      have HM := Lib.hid hmem
      have htk : ss.take (k + 1) = ss.take k ++ [s] := by
        have : k < ss.length := by rw [← HN.out]; exact hlt
        rw [List.take_add_one, hse]; simp [List.getD, this]
      have HTK := Lib.hid htk
      have hsz := HS.out s hmem
      clear hse hmem htk hbr
      by_cases hsd : s.size ≤ d
      · have HSD := Lib.hid hsd
        have HNX := Lib.hid (show ∀ s' ∈ ss.take (k + 1), s'.size ≤ d from fun s' hs' => by
          rw [HTK.out] at hs'
          rcases List.mem_append.1 hs' with h | h
          · exact HALL.out s' h
          · rw [List.mem_singleton] at h; subst h; exact HSD.out)
        go_wp2_with fail
        go_roundw
        case rel => exact ⟨k + 1, by omega, by go_num, HNX.out, HBR.out⟩
        case measure => simp [intOf]; omega
      · have HR := Lib.hid (allL_no (d := d) HM.out hsd)
        go_wp2_with fail
        go_ret
        exact ⟨ret_bool HR.out, HBR.out⟩
    · have HR := Lib.hid (allL_yes (d := d) (ss := ss) (fun s hs => HALL.out s (by rw [List.take_of_length_le (by rw [← HN.out]; omega)]; exact hs)))
      go_wp2_with fail
      go_ret
      exact ⟨ret_bool HR.out, HBR.out⟩

theorem two_cells {w : World} (s t : ByteArray) (e : TypeId) : ∀ j, j < [s, t].length → (w.alloc (.cells #[.string s, .string t] e)).cell? ⟨w.heap.size, j, none⟩ = some (.string ([s, t].getD j ByteArray.empty)) := by
  intro j hj
  rw [Lib.cell_of_heap (heap_alloc_new w _)]
  match j, hj with
  | 0, _ => rfl
  | 1, _ => rfl

set_option maxHeartbeats 800000 in
theorem same_yes (s : ByteArray) (c : Int) (w : World) :
    Calls Tryz.prog 33 #[.string s, .int .i64 c, .string s, .int .i64 c] w fun e w' => e = .returned (.bool true) ∧ w = w' := by
  go_enter Tryz.func33, Tryz.ntmps33
  go_wp2_with fail
  go_ret
  exact ⟨ret_bool (by simp), rfl⟩

end Go.Proofs.YtadkijaofmcgfaaGreatDoor
