/-
  CheckAll of the reference.
-/
import Derived.Test.YtgehldadfaonbaaDoorAD
namespace Go.Proofs.YtgehldadfaonbaaDoor
open Go.RowKit Go.Shelf Go.ChangeMaps Go.Maps

set_option maxHeartbeats 1600000 in
theorem rall_long {w : World} {ao : Option Addr} {L : List Sch} {c : Nat} (hf : L.length ≤ 9223372036854775807) (h16 : 16 < L.length) :
    Calls Tryd.prog 18 #[.slice ao L.length c] w fun e w' => e = .returned (.tuple #[.int .i64 (chkA L).1, .int .i64 (chkA L).2.1, .int .i64 (chkA L).2.2]) ∧ Below w.heap.size w w' := by
  have q : decide (16 < (L.length : Int)) = true := decide_eq_true (by omega)
  have HR := Lib.hid (show chkA L = (4, 16, -1) from if_pos h16)
  go_enter Tryd.func18, Tryd.ntmps18
  go_wp2
  go_ret3
  exact ⟨by rw [HR.out]; rfl, Below.refl _ _⟩

set_option maxHeartbeats 6400000 in
set_option maxRecDepth 100000 in
theorem rall_some {w : World} {ao : Option Addr} {L : List Sch} {c : Nat} (hL : SL w ao L) (hO : SchsOk w L) (h16 : L.length ≤ 16) :
    Calls Tryd.prog 18 #[.slice ao L.length c] w fun e w' => e = .returned (.tuple #[.int .i64 (chkA L).1, .int .i64 (chkA L).2.1, .int .i64 (chkA L).2.2]) ∧ Below w.heap.size w w' := by
  have HS := Lib.hid (show chkA L = allFrom [] L from if_neg (by omega))
  have HA := Lib.hid (And.intro hL hO)
  obtain ⟨N, hN⟩ : ∃ N, N = L.length := ⟨_, rfl⟩
  rw [← hN]
  rw [← hN] at h16
  have HN := Lib.hid hN
  clear hL hO hN
  go_enter Tryd.func18, Tryd.ntmps18
  go_wp2_with fail
  go_loopw [5] (fun i wr => ∃ k : Nat, k ≤ N ∧ i = .int .i64 (k : Int) ∧ Hid (Below w.heap.size w wr ∧ ∀ j, j < k → good (snames L j) (L.getD j default))) (fun i _ => N - (intOf i).toNat)
  case atStart => exact ⟨0, Nat.zero_le _, rfl, Lib.hid ⟨Below.refl _ _, fun j hj => absurd hj (Nat.not_lt_zero _)⟩⟩
  case round =>
    obtain ⟨k, hk, rfl, HJ⟩ := hrel
    by_cases hlt : k < N
    · have hlt2 : k < L.length := by rw [← HN.out]; exact hlt
      have hLr := HA.out.1.below HJ.out.1
      obtain ⟨ad, ea, c0, c1, c2, c3⟩ := hLr.at hlt2
      have hok := (HA.out.2.below HJ.out.1) k hlt2
      have HAT := Lib.hid (all_at L [] k hlt2 HJ.out.2)
      have HMB := Lib.hid (fun x => memB_snames (L := L) (k := k) (x := x) (Nat.le_of_lt hlt2))
      obtain ⟨s, hs⟩ : ∃ s, s = L.getD k default := ⟨_, rfl⟩
      rw [← hs] at c0 c1 c2 c3 hok HAT
      have HC := Lib.hid (rcheck_any hok.cl hok.ok)
      have HEA := Lib.hid ea
      have HCC := Lib.hid hs
      subst ea
      obtain ⟨v, hv⟩ : ∃ v, v = (chkS s).1 := ⟨_, rfl⟩
      obtain ⟨u, hu⟩ : ∃ u, u = (chkS s).2 := ⟨_, rfl⟩
      rw [← hv, ← hu] at HC HAT
      have HVS := Lib.hid hv
      clear hLr hok hs hlt2 hv hu
      by_cases hz : v = 0
      · have hq : (v != 0) = false := by rw [hz]; rfl
        have HZV := Lib.hid hz
        clear hz
        go_wp2_with fail
        refine HC.out.mono ?_
        rintro e w1 ⟨rfl, h1⟩
        have HB1 := Lib.hid (HJ.out.1.trans (h1.mono HJ.out.1.size))
        have HL1 := Lib.hid (HA.out.1.below HB1.out)
        clear h1 HC c0 c1 c2 c3
        go_wp2_with fail
        go_loopw [8] (fun i wi => ∃ q n : Nat, q ≤ k ∧ i = .int .i64 (q : Int) ∧ wi = w1.drewN n ∧ Hid (∀ j, j < q → (L.getD j default).name ≠ s.name)) (fun i _ => k - (intOf i).toNat)
        case atStart => exact ⟨0, 0, Nat.zero_le _, rfl, rfl, Lib.hid (fun j hj => absurd hj (Nat.not_lt_zero _))⟩
        case round =>
          obtain ⟨q, n, hq1, rfl, rfl, HQ⟩ := hrel
          by_cases hlt3 : q < k
          · have hqN : q < N := by omega
            obtain ⟨ad', ea', f0, _, _, _⟩ := HL1.out.at (j := q) (by rw [← HN.out]; exact hqN)
            obtain rfl : ad = ad' := Option.some.inj ea'
            obtain ⟨bd', eb', g0, _, _, _⟩ := HL1.out.at (j := k) (by rw [← HN.out]; exact hlt)
            obtain rfl : ad = bd' := Option.some.inj eb'
            rw [← HCC.out] at g0
            obtain ⟨x, hx⟩ : ∃ x, x = (L.getD q default).name := ⟨_, rfl⟩
            rw [← hx] at f0
            have HXX := Lib.hid hx
            clear hx ea' eb'
            by_cases he : x = s.name
            · have hne := str_same he
              have HR := Lib.hid (show chkA L = (8, (k : Int), -1) by
                have hmb : memB s.name (snames L k) = true := (HMB.out s.name).2 ⟨q, hlt3, by rw [← HXX.out]; exact he⟩
                have := HAT.out.2 HZV.out (by simpa using hmb)
                rw [HS.out, this]; simp)
              clear he HQ HJ
              go_wp2_with fail
              go_quiet (fail)
              go_wp2_with fail
              go_ret3
              exact ⟨by rw [HR.out]; rfl, below_drewN (below_drewN HB1.out _) _⟩
            · have hne := str_ne he
              have HQ2 := Lib.hid (show ∀ j, j < q + 1 → (L.getD j default).name ≠ s.name from fun j hj => by
                rcases Nat.lt_succ_iff_lt_or_eq.1 hj with h | rfl
                · exact HQ.out j h
                · rw [← HXX.out]; exact he)
              clear he HQ
              go_wp2_with fail
              go_quiet (fail)
              go_wp2_with fail
              go_roundw
              case rel => exact ⟨q + 1, _, by omega, by go_num, rfl, Lib.hid HQ2.out⟩
              case measure => simp [intOf]; omega
          · obtain rfl : k = q := by omega
            have hmb : memB s.name (snames L k) = false := by
              cases e : memB s.name (snames L k) with
              | false => rfl
              | true =>
                obtain ⟨j, hj, he⟩ := (HMB.out s.name).1 e
                exact absurd he (HQ.out j hj)
            have HJ2 := Lib.hid (show Below w.heap.size w (w1.drewN n) ∧ ∀ j, j < k + 1 → good (snames L j) (L.getD j default) from ⟨below_drewN HB1.out _, fun j hj => by
              rcases Nat.lt_succ_iff_lt_or_eq.1 hj with h | rfl
              · exact HJ.out.2 j h
              · rw [← HCC.out]; exact ⟨HVS.out.symm.trans HZV.out, hmb⟩⟩)
            clear hmb HQ HJ
            go_wp2_with fail
            go_roundw
            case rel => exact ⟨k + 1, by omega, by go_num, HJ2.out⟩
            case measure => simp [intOf]; omega
      · have hq : (v != 0) = true := by rw [bne_iff_ne]; exact hz
        have HR := Lib.hid (show chkA L = (v, (k : Int), u) by
          have := HAT.out.1 hz
          rw [HS.out, this]; simp)
        clear hz HAT HVS HCC
        go_wp2_with fail
        refine HC.out.mono ?_
        rintro e w1 ⟨rfl, h1⟩
        have HF := Lib.hid (HJ.out.1.trans (h1.mono HJ.out.1.size))
        clear h1 HC HJ c0 c1 c2 c3
        go_wp2_with fail
        go_ret3
        exact ⟨by rw [HR.out]; rfl, HF.out⟩
    · obtain rfl : N = k := by omega
      have HR := Lib.hid (show chkA L = (0, -1, -1) by
        rw [HS.out]
        exact all_all L [] (fun j hj => HJ.out.2 j (by rw [HN.out]; exact hj)))
      have HF := Lib.hid HJ.out.1
      clear HJ
      go_wp2_with fail
      go_ret3
      exact ⟨by rw [HR.out]; rfl, HF.out⟩
theorem rall_any {w : World} {ao : Option Addr} {L : List Sch} {c : Nat} (hL : SL w ao L) (hO : SchsOk w L) (hf : L.length ≤ 9223372036854775807) :
    Calls Tryd.prog 18 #[.slice ao L.length c] w fun e w' => e = .returned (.tuple #[.int .i64 (chkA L).1, .int .i64 (chkA L).2.1, .int .i64 (chkA L).2.2]) ∧ Below w.heap.size w w' := by
  by_cases h : 16 < L.length
  · exact rall_long hf h
  · exact rall_some hL hO (by omega)

end Go.Proofs.YtgehldadfaonbaaDoor
