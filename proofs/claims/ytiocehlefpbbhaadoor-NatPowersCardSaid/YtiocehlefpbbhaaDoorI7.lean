/-
  Pow and FromInt for every text and int: the program's and the reference's; light.
-/
import Derived.Test.YtiocehlefpbbhaaDoorI6
import Derived.Test.YtiocehlefpbbhaaDoorW36
import Derived.Test.YtiocehlefpbbhaaDoorW25
namespace Go.Proofs.YtiocehlefpbbhaaDoor
open Go.RowKit NV
open Go.Lib (decDigits)

/-- What Pow returns. -/
def powR (s : ByteArray) (n : Int) : ByteArray × Nat := if chk s.data.toList = 0 then (if n < 0 then (⟨#[]⟩, 2) else outR (dv s.data.toList ^ n.toNat)) else (⟨#[]⟩, chk s.data.toList)
theorem powR_bad {s : ByteArray} {n : Int} (h : chk s.data.toList ≠ 0) : powR s n = (⟨#[]⟩, chk s.data.toList) := if_neg h
theorem powR_neg {s : ByteArray} {n : Int} (h : chk s.data.toList = 0) (hn : n < 0) : powR s n = (⟨#[]⟩, 2) := by rw [powR, if_pos h, if_pos hn]
theorem powR_nat {s : ByteArray} {k : Nat} (h : chk s.data.toList = 0) : powR s (k : Int) = outR (dv s.data.toList ^ k) := by
  rw [powR, if_pos h, if_neg (by omega)]; rfl

/-- A text without error is a numeral. -/
theorem text_of_chk {s : ByteArray} (h : chk s.data.toList = 0) : ∃ a, s = dstr a ∧ Ok a := by
  obtain ⟨h1, h2⟩ := dec_of_chk h
  exact ⟨dv s.data.toList, dstr_of h1.symm, by unfold Ok; rw [h1]; exact h2⟩

set_option maxHeartbeats 800000 in
theorem npow_bad (s : ByteArray) (n : Int) (hs : s.size ≤ 140737488351232) (h : chk s.data.toList ≠ 0) (w : World) :
    Calls Tryd.prog 15 #[.string s, .int .i64 n] w fun e w' => e = .returned (.tuple #[.string ⟨#[]⟩, .int .i64 ((chk s.data.toList : Nat) : Int)]) ∧ w = w' := by
  have HC := Lib.hid (check_any s w hs)
  have hz : (((chk s.data.toList : Nat) : Int) != 0) = true := by rw [bne_iff_ne]; omega
  clear h
  go_enter Tryd.func15, Tryd.ntmps15
  go_wp2_with fail
  refine HC.out.mono ?_
  rintro e w1 ⟨rfl, rfl⟩
  go_wp2_with fail
  go_ret2
  exact ⟨rfl, rfl⟩

set_option maxHeartbeats 800000 in
theorem ipow_bad (s : ByteArray) (n : Int) (hs : s.size ≤ 140737488351232) (h : chk s.data.toList ≠ 0) (w : World) :
    Calls Tryd.prog 23 #[.string s, .int .i64 n] w fun e w' => e = .returned (.tuple #[.string ⟨#[]⟩, .int .i64 ((chk s.data.toList : Nat) : Int)]) ∧ w = w' := by
  have HC := Lib.hid (refcheck_any s w hs)
  have hz : (((chk s.data.toList : Nat) : Int) != 0) = true := by rw [bne_iff_ne]; omega
  clear h
  go_enter Tryd.func23, Tryd.ntmps23
  go_wp2_with fail
  refine HC.out.mono ?_
  rintro e w1 ⟨rfl, rfl⟩
  go_wp2_with fail
  go_ret2
  exact ⟨rfl, rfl⟩

set_option maxHeartbeats 800000 in
theorem ipow_neg (a : Nat) (n : Int) (ha : Ok a) (hn : n < 0) (w : World) :
    Calls Tryd.prog 23 #[.string (dstr a), .int .i64 n] w fun e w' => e = .returned (.tuple #[.string ⟨#[]⟩, .int .i64 2]) ∧ w = w' := by
  have hc := refcheck_any (dstr a) w (small_str ha)
  rw [dstr_list, ha.chk] at hc
  have HC := Lib.hid hc
  clear hc
  go_enter Tryd.func23, Tryd.ntmps23
  go_wp2_with fail
  refine HC.out.mono ?_
  rintro e w1 ⟨rfl, rfl⟩
  go_wp2_with fail
  go_ret2
  exact ⟨rfl, rfl⟩

set_option maxHeartbeats 1600000 in
set_option maxRecDepth 100000 in
theorem ipow_nat (a n : Nat) (ha : Ok a) (hn : n ≤ 9223372036854775807) (w : World) :
    Calls Tryd.prog 23 #[.string (dstr a), .int .i64 n] w fun e w' => e = .returned (.tuple #[.string (outR (a ^ n)).1, .int .i64 ((outR (a ^ n)).2 : Int)]) ∧ Below w.heap.size w w' := by
  have hc := refcheck_any (dstr a) w (small_str ha)
  rw [dstr_list, ha.chk] at hc
  have HC := Lib.hid hc
  have hr := iread_any (dstr a) w (by rw [dstr_size]; exact dec_len_pos a) (by rw [dstr_size]; unfold Ok at ha; omega) (by rw [dstr_list]; exact digs_dec a)
  rw [dstr_list, dv_dec] at hr
  have HR := Lib.hid hr
  clear hc hr
  go_enter Tryd.func23, Tryd.ntmps23
  go_wp2_with fail
  refine HC.out.mono ?_
  rintro e w1 ⟨rfl, rfl⟩
  go_wp2_with fail
  refine HR.out.mono ?_
  rintro e w2 ⟨x, rfl, hx, hb2⟩
  have HPW := Lib.hid (ipower_any hx ha hn)
  have HB2 := Lib.hid hb2
  clear hx hb2 HR HC
  by_cases hp : Ok (a ^ n)
  · rw [fitB_yes hp] at HPW
    have HP := Lib.hid hp
    clear hp
    go_wp2_with fail
    refine HPW.out.mono ?_
    rintro e w3 ⟨v, rfl, hv, hb3⟩
    have HB3 := Lib.hid (HB2.out.trans (hb3.mono HB2.out.size))
    have HN := Lib.hid (inumber_any (hv HP.out) (by have := HP.out.ln; omega))
    clear hv hb3 HPW
    go_wp2_with fail
    refine HN.out.mono ?_
    rintro e w4 ⟨rfl, hb4⟩
    have HB4 := Lib.hid (HB3.out.trans (hb4.mono HB3.out.size))
    clear hb4 HN
    go_wp2_with fail
    go_ret2
    exact ⟨rfl, HB4.out⟩
  · rw [fitB_no hp] at HPW
    have HE := Lib.hid (outR_no hp)
    clear hp
    go_wp2_with fail
    refine HPW.out.mono ?_
    rintro e w3 ⟨v, rfl, _, hb3⟩
    have HB3 := Lib.hid (HB2.out.trans (hb3.mono HB2.out.size))
    clear hb3 HPW
    go_wp2_with fail
    go_ret2
    exact ⟨by rw [HE.out]; rfl, HB3.out⟩

theorem npow_any (s : ByteArray) (n : Int) (hs : s.size ≤ 140737488351232) (hn : n ≤ 9223372036854775807) (w : World) (htab : Tab w) :
    Calls Tryd.prog 15 #[.string s, .int .i64 n] w fun e w' => e = .returned (.tuple #[.string (powR s n).1, .int .i64 ((powR s n).2 : Int)]) ∧ Below w.heap.size w w' := by
  by_cases h : chk s.data.toList = 0
  · obtain ⟨a, rfl, ha⟩ := text_of_chk h
    by_cases h0 : n < 0
    · rw [powR_neg h h0]
      exact (Pow_neg a n ha h0 w).mono fun e w' ⟨h1, h2⟩ => ⟨h1, h2 ▸ Below.refl _ _⟩
    · obtain ⟨k, rfl⟩ : ∃ k : Nat, n = (k : Int) := ⟨n.toNat, by omega⟩
      rw [powR_nat h, dstr_list, dv_dec]
      by_cases hp : Ok (a ^ k)
      · rw [outR_yes hp]
        exact Pow_ok a k ha (by omega) hp w htab
      · rw [outR_no hp]
        exact Pow_over a k ha (by omega) hp w
  · rw [powR_bad h]
    exact (npow_bad s n hs h w).mono fun e w' ⟨h1, h2⟩ => ⟨h1, h2 ▸ Below.refl _ _⟩

theorem ipow_any (s : ByteArray) (n : Int) (hs : s.size ≤ 140737488351232) (hn : n ≤ 9223372036854775807) (w : World) :
    Calls Tryd.prog 23 #[.string s, .int .i64 n] w fun e w' => e = .returned (.tuple #[.string (powR s n).1, .int .i64 ((powR s n).2 : Int)]) ∧ Below w.heap.size w w' := by
  by_cases h : chk s.data.toList = 0
  · obtain ⟨a, rfl, ha⟩ := text_of_chk h
    by_cases h0 : n < 0
    · rw [powR_neg h h0]
      exact (ipow_neg a n ha h0 w).mono fun e w' ⟨h1, h2⟩ => ⟨h1, h2 ▸ Below.refl _ _⟩
    · obtain ⟨k, rfl⟩ : ∃ k : Nat, n = (k : Int) := ⟨n.toNat, by omega⟩
      rw [powR_nat h, dstr_list, dv_dec]
      exact ipow_nat a k ha (by omega) w
  · rw [powR_bad h]
    exact (ipow_bad s n hs h w).mono fun e w' ⟨h1, h2⟩ => ⟨h1, h2 ▸ Below.refl _ _⟩

theorem nFromInt_any (m : Int) (hm : m ≤ 9223372036854775807) (w : World) (htab : Tab w) :
    Calls Tryd.prog 24 #[.int .i64 m] w fun e w' => e = .returned (.tuple #[.string (intR m).1, .int .i64 ((intR m).2 : Int)]) ∧ Below w.heap.size w w' := by
  by_cases h0 : m < 0
  · rw [intR_neg h0]
    exact (FromInt_neg m h0 w).mono fun e w' ⟨h1, h2⟩ => ⟨h1, h2 ▸ Below.refl _ _⟩
  · obtain ⟨k, rfl⟩ : ∃ k : Nat, m = (k : Int) := ⟨m.toNat, by omega⟩
    rw [intR_nat]
    exact FromInt_ok k (by omega) w htab

set_option maxHeartbeats 800000 in
/-- light tells whether the texts are short enough. -/
theorem light_any (l : List ByteArray) (hl : l.length ≤ 1000) (g c : Nat) (w : World) (hc : ∀ j (h : j < l.length), w.cell? ⟨g, j, none⟩ = some (.string l[j])) :
    Calls Tryd.prog 22 #[.slice (some ⟨g, 0, none⟩) l.length c] w fun e w' => e = .returned (.bool (l.all fun s => decide (s.size ≤ 4100))) ∧ w = w' := by
  obtain ⟨L, hL⟩ : ∃ L, L = l.length := ⟨_, rfl⟩
  have HL := Lib.hid hL
  have HC := Lib.hid hc
  rw [← hL] at hl ⊢
  clear hL hc
  go_enter Tryd.func22, Tryd.ntmps22
  go_wp2_with fail
  go_loop [3] (fun i => ∃ k : Nat, k ≤ L ∧ i = .int .i64 k ∧ Hid (∀ j (h : j < l.length), j < k → l[j].size ≤ 4100)) (fun i => L - (intOf i).toNat)
  case atStart => exact ⟨0, Nat.zero_le _, rfl, Lib.hid (fun j _ h => by omega)⟩
  case round =>
    obtain ⟨k, hk, rfl, HS⟩ := hrel
    by_cases hlt : k < L
    · have hlt2 : k < l.length := by have := HL.out; omega
      have c1 := HC.out k hlt2
      obtain ⟨s, hs⟩ : ∃ s, s = l[k] := ⟨_, rfl⟩
      rw [← hs] at c1
      have HSS := Lib.hid hs
      clear hs
      by_cases hsz : s.size ≤ 4100
      · have hz : ((s.size : Nat) : Int) ≤ 4100 := by omega
        go_wp2_with fail
        go_round
        case rel => exact ⟨k + 1, by omega, by go_num, Lib.hid (fun j hj h => by
          by_cases e : j = k
          · subst e; rw [← HSS.out]; exact hsz
          · exact HS.out j hj (by omega))⟩
        case measure => simp [intOf]; omega
      · have hz : (4100 : Int) < ((s.size : Nat) : Int) := by omega
        have HF := Lib.hid (show false = l.all fun s => decide (s.size ≤ 4100) from (List.all_eq_false.2 ⟨s, by rw [HSS.out]; exact List.getElem_mem _, by simpa using hsz⟩).symm)
        go_wp2_with fail
        go_ret
        exact ⟨ret_bool HF.out, rfl⟩
    · have HT := Lib.hid (show true = l.all fun s => decide (s.size ≤ 4100) from (List.all_eq_true.2 (fun s hs => by
        obtain ⟨j, hj, rfl⟩ := List.mem_iff_getElem.1 hs
        simpa using HS.out j hj (by have := HL.out; omega))).symm)
      go_wp2_with fail
      go_ret
      exact ⟨ret_bool HT.out, rfl⟩

end Go.Proofs.YtiocehlefpbbhaaDoor
