/-
  SchemaAll.
-/
import Derived.Test.YtgehldadfaonbaaDoorAE
namespace Go.Proofs.YtgehldadfaonbaaDoor
open Go.RowKit Go.Shelf Go.ChangeMaps Go.Maps

def AwakeP (w : World) (e : Ending) (w' : World) : Prop := e = .returned (.bool true) ∧ Below w.heap.size w w'
theorem awake_from {w V : World} (hR : Res w) (h : Below w.heap.size w V) : Calls Tryd.prog 11 #[] V (AwakeP w) :=
  (awake_any V (hR.of h)).mono fun _ _ ⟨h1, h2⟩ => ⟨h1, h.trans (h2.mono h.size)⟩

set_option maxHeartbeats 6400000 in
set_option maxRecDepth 100000 in
theorem all_law {w : World} {ao : Option Addr} {L : List Sch} {c : Nat} (x : ByteArray) (hR : Res w) (hL : SL w ao L) (hO : SchsOk w L) (hf : L.length ≤ 9223372036854775807) :
    Calls Tryd.prog 4 #[.slice ao L.length c, .string x] w fun e w' => e = .returned (.bool true) ∧ Below w.heap.size w w' := by
  have HA := Lib.hid (And.intro hR (And.intro hL hO))
  have HF := Lib.hid hf
  obtain ⟨N, hN⟩ : ∃ N, N = L.length := ⟨_, rfl⟩
  rw [← hN]
  rw [← hN] at hf
  have HN := Lib.hid hN
  clear hR hL hO hN
  go_enter Tryd.func4, Tryd.ntmps4
  go_wp2_with fail
  go_loopw [5] (fun i wr => ∃ k : Nat, k ≤ N ∧ k ≤ 21 ∧ i = .int .i64 (k : Int) ∧ Hid (Below w.heap.size w wr)) (fun i _ => N - (intOf i).toNat)
  case atStart => exact ⟨0, Nat.zero_le _, Nat.zero_le _, rfl, Lib.hid (Below.refl _ _)⟩
  case round =>
    obtain ⟨k, hk, hk1, rfl, HJ⟩ := hrel
    by_cases hlt : k < N ∧ k < 21
    · obtain ⟨hlt, h21⟩ := hlt
      obtain ⟨ad, ea, c0, c1, c2, c3⟩ := (HA.out.2.1.below HJ.out).at (j := k) (by rw [← HN.out]; exact hlt)
      have hok := (HA.out.2.2.below HJ.out) k (by rw [← HN.out]; exact hlt)
      obtain ⟨s, hs⟩ : ∃ s, s = L.getD k default := ⟨_, rfl⟩
      rw [← hs] at c0 c1 c2 c3 hok
      subst ea
      have HC := Lib.hid (vast_any hok.cl hok.ok hok.few)
      clear hok hs
      go_wp2_with fail
      refine HC.out.mono ?_
      rintro e w1 ⟨v, rfl, _, h1⟩
      have HB := Lib.hid (HJ.out.trans (h1.mono HJ.out.size))
      clear h1 HC HJ c0 c1 c2 c3
      cases v with
      | true =>
        go_wp2_with fail
        refine (awake_from HA.out.1 HB.out).mono ?_
        rintro e w2 ⟨rfl, h2⟩
        have H2 := Lib.hid h2
        clear h2
        go_wp2
        go_ret
        exact ⟨rfl, H2.out⟩
      | false =>
        go_wp2_with fail
        go_roundw
        case rel => exact ⟨k + 1, by omega, by omega, by go_num, HB⟩
        case measure => simp [intOf]; omega
    · by_cases h20 : 20 < N
      · have q : decide (20 < (N : Int)) = true := decide_eq_true (by omega)
        have q1 : (decide ((k : Int) < (N : Int)) && decide ((k : Int) < 21)) = false := by
          rw [Bool.and_eq_false_iff, decide_eq_false_iff_not, decide_eq_false_iff_not]; omega
        by_cases hkN : k < N
        · have h21 : ¬ k < 21 := fun h => hlt ⟨hkN, h⟩
          go_wp2_with fail
          refine (awake_from HA.out.1 HJ.out).mono ?_
          rintro e w2 ⟨rfl, h2⟩
          have H2 := Lib.hid h2
          clear h2
          go_wp2
          go_ret
          exact ⟨rfl, H2.out⟩
        · go_wp2_with fail
          refine (awake_from HA.out.1 HJ.out).mono ?_
          rintro e w2 ⟨rfl, h2⟩
          have H2 := Lib.hid h2
          clear h2
          go_wp2
          go_ret
          exact ⟨rfl, H2.out⟩
      · obtain rfl : N = k := by omega
        have q : decide (20 < (N : Int)) = false := decide_eq_false (by omega)
        have HC1 := Lib.hid (pall_any (c := c) (HA.out.1.of HJ.out) (HA.out.2.1.below HJ.out) (HA.out.2.2.below HJ.out) HF.out)
        rw [← HN.out] at HC1
        obtain ⟨e1, he1⟩ : ∃ e1, e1 = (chkA L).1 := ⟨_, rfl⟩
        obtain ⟨e2, he2⟩ : ∃ e2, e2 = (chkA L).2.1 := ⟨_, rfl⟩
        obtain ⟨e3, he3⟩ : ∃ e3, e3 = (chkA L).2.2 := ⟨_, rfl⟩
        obtain ⟨e4, he4⟩ : ∃ e4, e4 = mx0 (idxT x (L.map Sch.name)) := ⟨_, rfl⟩
        obtain ⟨e5, he5⟩ : ∃ e5, e5 = ge0 (idxT x (L.map Sch.name)) := ⟨_, rfl⟩
        have HRA := Lib.hid (fun (W : World) (h : Below w.heap.size w W) => rall_any (c := c) (HA.out.2.1.below h) (HA.out.2.2.below h) HF.out)
        have HPF := Lib.hid (fun (W : World) (h : Below w.heap.size w W) => pfind_any (c := c) x (HA.out.2.1.below h) HF.out)
        have HRF := Lib.hid (fun (W : World) (h : Below w.heap.size w W) => rfind_any (c := c) x (HA.out.2.1.below h) HF.out)
        rw [← HN.out] at HRA HPF HRF
        rw [← he1, ← he2, ← he3] at HC1 HRA
        unfold fnd at HPF HRF
        rw [← he4, ← he5] at HPF HRF
        have n1 : (e1 != e1) = false := by simp
        have n2 : (e2 != e2) = false := by simp
        have n3 : (e3 != e3) = false := by simp
        have n4 : (e4 != e4) = false := by simp
        have n5 : (!(e5 == e5)) = false := by cases e5 <;> rfl
        clear he1 he2 he3 he4 he5 hlt
        go_wp2_with fail
        refine HC1.out.mono ?_
        rintro e w1 ⟨rfl, h1⟩
        have H1 := Lib.hid (HJ.out.trans (h1.mono HJ.out.size))
        clear h1 HC1 HJ
        go_wp2_with fail
        refine (HRA.out _ H1.out).mono ?_
        rintro e w2 ⟨rfl, h2⟩
        have H2 := Lib.hid (H1.out.trans (h2.mono H1.out.size))
        clear h2 HRA H1
        go_wp2_with fail
        refine (HPF.out _ H2.out).mono ?_
        rintro e w3 ⟨rfl, h3⟩
        have H3 := Lib.hid (H2.out.trans (h3.mono H2.out.size))
        clear h3 HPF H2
        go_wp2_with fail
        refine (HRF.out _ H3.out).mono ?_
        rintro e w4 ⟨rfl, rfl⟩
        clear HRF
        go_wp2_with fail
        go_loopw [16] (fun i wr => ∃ k : Nat, k ≤ N ∧ i = .int .i64 (k : Int) ∧ Hid (Below w.heap.size w wr)) (fun i _ => N - (intOf i).toNat)
        case atStart => exact ⟨0, Nat.zero_le _, rfl, H3⟩
        case round =>
          obtain ⟨k, hk, rfl, HJ⟩ := hrel
          by_cases hlt : k < N
          · obtain ⟨ad, ea, c0, c1, c2, c3⟩ := (HA.out.2.1.below HJ.out).at (j := k) (by rw [← HN.out]; exact hlt)
            have hok := (HA.out.2.2.below HJ.out) k (by rw [← HN.out]; exact hlt)
            obtain ⟨s, hs⟩ : ∃ s, s = L.getD k default := ⟨_, rfl⟩
            rw [← hs] at c0 c1 c2 c3 hok
            have HPC := Lib.hid (pcolumn_any x hok.cl hok.few)
            have HEA := Lib.hid ea
            have HSS := Lib.hid hs
            subst ea
            have HOK := Lib.hid hok
            obtain ⟨e6, he6⟩ : ∃ e6, e6 = mx0 (idxT x (s.cols.map Col.name)) := ⟨_, rfl⟩
            obtain ⟨e7, he7⟩ : ∃ e7, e7 = ge0 (idxT x (s.cols.map Col.name)) := ⟨_, rfl⟩
            have HRC := Lib.hid (fun (W : World) (h : Below wr.heap.size wr W) => rcolumn_any x (HOK.out.below h).cl HOK.out.few)
            unfold fnd at HPC HRC
            rw [← he6, ← he7] at HPC HRC
            have n6 : (e6 != e6) = false := by simp
            have n7 : (!(e7 == e7)) = false := by cases e7 <;> rfl
            clear hok he6 he7 hs
            go_wp2_with fail
            refine HPC.out.mono ?_
            rintro e w5 ⟨rfl, h5⟩
            have H5 := Lib.hid h5
            obtain ⟨ad', ea', f0, f1, f2, f3⟩ := (HA.out.2.1.below (HJ.out.trans (h5.mono HJ.out.size))).at (j := k) (by rw [← HN.out]; exact hlt)
            obtain rfl : ad = ad' := Option.some.inj ea'
            rw [← HSS.out] at f0 f1 f2 f3
            clear h5 HPC c0 c1 c2 c3 ea'
            go_wp2_with fail
            refine (HRC.out _ H5.out).mono ?_
            rintro e w6 ⟨rfl, h6⟩
            have H6 := Lib.hid (HJ.out.trans ((H5.out.trans (h6.mono H5.out.size)).mono HJ.out.size))
            clear h6 HRC f0 f1 f2 f3 H5 HJ
            go_wp2_with fail
            go_roundw
            case rel => exact ⟨k + 1, by omega, by go_num, H6⟩
            case measure => simp [intOf]; omega
          · obtain rfl : N = k := by omega
            go_wp2_with fail
            refine (awake_from HA.out.1 HJ.out).mono ?_
            rintro e w5 ⟨rfl, h5⟩
            have H5 := Lib.hid h5
            clear h5
            go_wp2
            go_ret
            exact ⟨rfl, H5.out⟩

end Go.Proofs.YtgehldadfaonbaaDoor
