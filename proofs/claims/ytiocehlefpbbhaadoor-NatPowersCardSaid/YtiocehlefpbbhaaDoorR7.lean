/-
  NatPowers returns true for all texts and ints.
-/
import Derived.Test.YtiocehlefpbbhaaDoorI7
namespace Go.Proofs.YtiocehlefpbbhaaDoor
open Go.RowKit NV
open Go.Lib (decDigits)

theorem one_cell (s : ByteArray) (w : World) (e : TypeId) : ∀ j (h : j < [s].length), (w.alloc (.cells #[.string s] e)).cell? ⟨w.heap.size, j, none⟩ = some (.string [s][j]) := by
  intro j hj
  have hj0 : j = 0 := by simp at hj; omega
  subst hj0
  exact cell_at_new rfl _ _

set_option maxHeartbeats 3200000 in
set_option maxRecDepth 100000 in
theorem powers_any (s : ByteArray) (n m : Int) (w : World) (htab : Tab w) (hs : s.size ≤ 140737488351232) (hn1 : n ≤ 9223372036854775807) (hm0 : -9223372036854775808 ≤ m) (hm1 : m ≤ 9223372036854775807) :
    Calls Tryd.prog 4 #[.string s, .int .i64 n, .int .i64 m] w fun e w' => e = .returned (.bool true) ∧ Below w.heap.size w w' := by
  have HL := Lib.hid (lives_any w htab)
  have HV := Lib.hid (fun (W : World) => light_any [s] (by simp) W.heap.size 1 (W.alloc (.cells #[.string s] 23)) (one_cell s W _))
  have HP := Lib.hid (fun (W : World) (h : Tab W) => npow_any s n hs hn1 W h)
  have HI := Lib.hid (fun (W : World) => ipow_any s n hs hn1 W)
  have HF := Lib.hid (fun (W : World) (h : Tab W) => nFromInt_any m hm1 W h)
  have HG := Lib.hid (fun (W : World) => iFromInt_any m hm1 hm0 W)
  have HT := Lib.hid htab
  generalize powR s n = X at HP HI
  generalize intR m = Y at HF HG
  obtain ⟨X1, X2⟩ := X
  obtain ⟨Y1, Y2⟩ := Y
  clear htab hs hn1 hm0 hm1
  by_cases hsz : s.size ≤ 4100
  · have e : ([s].all fun s => decide (s.size ≤ 4100)) = true := by simpa using hsz
    rw [e] at HV
    clear e hsz
    go_enter Tryd.func4, Tryd.ntmps4
    go_wp2_with fail
    refine HL.out.mono ?_
    rintro e w1 ⟨rfl, hb1⟩
    have HB1 := Lib.hid hb1
    clear hb1
    go_wp2_with fail
    refine (HV.out w1).mono ?_
    rintro e w2 ⟨rfl, rfl⟩
    have HB2 := Lib.hid (HB1.out.alloc HB1.out.size (.cells #[.string s] 23))
    generalize w1.alloc (.cells #[.string s] 23) = W0 at HB2 ⊢
    go_wp2_with fail
    refine (HP.out _ (HT.out.below HB2.out)).mono ?_
    rintro e W3 ⟨rfl, hb⟩
    have HB3 := Lib.hid (HB2.out.trans (hb.mono HB2.out.size))
    clear hb HB2
    go_wp2_with fail
    refine (HI.out _).mono ?_
    rintro e W4 ⟨rfl, hb⟩
    have HB4 := Lib.hid (HB3.out.trans (hb.mono HB3.out.size))
    clear hb HB3
    go_wp2_with fail
    refine (HF.out _ (HT.out.below HB4.out)).mono ?_
    rintro e W5 ⟨rfl, hb⟩
    have HB5 := Lib.hid (HB4.out.trans (hb.mono HB4.out.size))
    clear hb HB4
    go_wp2_with fail
    refine (HG.out _).mono ?_
    rintro e W6 ⟨rfl, hb⟩
    have HB6 := Lib.hid (HB5.out.trans (hb.mono HB5.out.size))
    clear hb HB5
    go_wp2_with fail
    go_ret
    exact ⟨rfl, HB6.out⟩
  · have e : ([s].all fun s => decide (s.size ≤ 4100)) = false := by simpa using hsz
    rw [e] at HV
    clear e hsz
    go_enter Tryd.func4, Tryd.ntmps4
    go_wp2_with fail
    refine HL.out.mono ?_
    rintro e w1 ⟨rfl, hb1⟩
    have HB1 := Lib.hid hb1
    clear hb1
    go_wp2_with fail
    refine (HV.out w1).mono ?_
    rintro e w2 ⟨rfl, rfl⟩
    go_wp2_with fail
    go_ret
    exact ⟨rfl, HB1.out.alloc HB1.out.size _⟩

end Go.Proofs.YtiocehlefpbbhaaDoor
