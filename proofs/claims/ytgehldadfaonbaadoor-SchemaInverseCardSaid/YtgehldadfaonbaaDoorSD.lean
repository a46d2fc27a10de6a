/-
  The program's Name, for every text.
-/
import Derived.Test.YtgehldadfaonbaaDoorSC
namespace Go.Proofs.YtgehldadfaonbaaDoor
open Go.RowKit Go.Shelf

theorem lettB_int (c : UInt8) : (decide ((97 : Int) ≤ (c.toNat : Int)) && decide ((c.toNat : Int) ≤ 122)) = lettB c := by
  unfold lettB; congr 1 <;> rw [decide_eq_decide] <;> omega
theorem digB_int (c : UInt8) : (decide ((48 : Int) ≤ (c.toNat : Int)) && decide ((c.toNat : Int) ≤ 57)) = digB c := by
  unfold digB; congr 1 <;> rw [decide_eq_decide] <;> omega
theorem byteL (s : ByteArray) (k : Nat) (h : k < s.size) : s.data.toList[k]'(by rw [← Go.Lib.size_eq]; exact h) = s[k] := rfl

theorem isLetter_c (c : UInt8) (w : World) : Calls Tryd.prog 51 #[.int .u8 (c.toNat : Int)] w fun e w' => e = .returned (.bool (lettB c)) ∧ w = w' := by
  rw [← lettB_int]; exact isLetter_any _ w
theorem isDigit_c (c : UInt8) (w : World) : Calls Tryd.prog 52 #[.int .u8 (c.toNat : Int)] w fun e w' => e = .returned (.bool (digB c)) ∧ w = w' := by
  rw [← digB_int]; exact isDigit_any _ w

theorem name_zero (s : ByteArray) (w : World) (h : s.size = 0) : Calls Tryd.prog 23 #[.string s] w fun e w' => e = .returned (.bool (nmB s)) ∧ Below w.heap.size w w' := by
  have he : nmB s = false := by
    unfold nmB
    rw [List.eq_nil_of_length_eq_zero (l := s.data.toList) (by rw [← Go.Lib.size_eq]; exact h)]; rfl
  have hz : ((s.size : Int) == 0) = true := by rw [h]; rfl
  rw [he]
  clear h he
  go_enter Tryd.func23, Tryd.ntmps23
  go_wp2
  go_ret
  exact ⟨rfl, Below.refl _ _⟩
theorem name_big (s : ByteArray) (w : World) (h : 20 < s.size) : Calls Tryd.prog 23 #[.string s] w fun e w' => e = .returned (.bool (nmB s)) ∧ Below w.heap.size w w' := by
  have he : nmB s = false := name_long _ (by rw [← Go.Lib.size_eq]; exact h)
  have hz : ((s.size : Int) == 0) = false := by rw [beq_eq_false_iff_ne]; omega
  rw [he]
  clear he
  go_enter Tryd.func23, Tryd.ntmps23
  go_wp2
  go_ret
  exact ⟨rfl, Below.refl _ _⟩

theorem name_bad1 (s : ByteArray) (w : World) (h0 : 0 < s.size) (h20 : s.size ≤ 20) (hc : lettB s[0] = false) : Calls Tryd.prog 23 #[.string s] w fun e w' => e = .returned (.bool (nmB s)) ∧ Below w.heap.size w w' := by
  have he : nmB s = false := by
    unfold nmB
    cases hl : s.data.toList with
    | nil => rfl
    | cons c r =>
      have : s[0] = c := by have := byteL s 0 h0; simp only [hl, List.getElem_cons_zero] at this; exact this.symm
      exact name_first c r (by rw [← this]; exact hc)
  have hz : ((s.size : Int) == 0) = false := by rw [beq_eq_false_iff_ne]; omega
  have HC := Lib.hid (isLetter_c s[0])
  rw [he]
  rw [hc] at HC
  clear he hc
  go_enter Tryd.func23, Tryd.ntmps23
  go_wp2_with fail
  refine (HC.out _).mono ?_
  rintro e w' ⟨rfl, rfl⟩
  go_wp2
  go_ret
  exact ⟨rfl, Below.refl _ _⟩

theorem all_stepS (s : ByteArray) (k : Nat) (h : k < s.size) (ha : (s.data.toList.take k).all okB = true) (hb : okB s[k] = true) : (s.data.toList.take (k + 1)).all okB = true := by
  rw [all_take_succ okB _ k (by rw [← Go.Lib.size_eq]; exact h), ha]; exact hb
set_option maxHeartbeats 1600000 in
theorem name_ok (s : ByteArray) (w : World) (hR : Res w) (h0 : 0 < s.size) (h20 : s.size ≤ 20) (hc : lettB s[0] = true) : Calls Tryd.prog 23 #[.string s] w fun e w' => e = .returned (.bool (nmB s)) ∧ Below w.heap.size w w' := by
  have hz : ((s.size : Int) == 0) = false := by rw [beq_eq_false_iff_ne]; omega
  have HC := Lib.hid (isLetter_c s[0])
  rw [hc] at HC
  have HR := Lib.hid (isReserved_any s w hR)
  have HA := Lib.hid (show s.data.toList.all okB = true → nmB s = !(resL.any fun x => x == s.data.toList) from fun ha => name_all _ ha (fun e => by have := Go.Lib.size_eq s; rw [e, List.length_nil] at this; omega) (by rw [← Go.Lib.size_eq]; exact h20) (fun c r e => by
    have h1 := byteL s 0 h0
    simp only [e, List.getElem_cons_zero] at h1
    rw [h1]; exact hc))
  have HB := Lib.hid (show ∀ k, (hk : k < s.size) → okB s[k] = false → nmB s = false from fun k hk hb => name_bad _ k (by rw [← Go.Lib.size_eq]; exact hk) hb)
  clear hc hR
  go_enter Tryd.func23, Tryd.ntmps23
  go_wp2_with fail
  refine (HC.out _).mono ?_
  rintro e w' ⟨rfl, rfl⟩
  go_wp2_with fail
  go_loop [3, 20] (fun _ i => ∃ k : Nat, k ≤ s.size ∧ i = .int .i64 k ∧ Hid ((s.data.toList.take k).all okB = true)) (fun _ i => s.size - (intOf i).toNat)
  case atStart => exact ⟨0, Nat.zero_le _, rfl, Lib.hid rfl⟩
  case round =>
    obtain ⟨k, hk, rfl, HK⟩ := hrel
    by_cases hlt : k < s.size
    · have HS := Lib.hid (show okB s[k] = true → (s.data.toList.take (k + 1)).all okB = true from fun h => all_stepS _ k hlt HK.out h)
      have HF := Lib.hid (HB.out k hlt)
      have HL := Lib.hid (isLetter_c s[k])
      have HD := Lib.hid (isDigit_c s[k])
      cases h1 : lettB s[k] with
      | true =>
        rw [h1] at HL
        have HO := Lib.hid (show okB s[k] = true by unfold okB; rw [h1]; rfl)
        clear h1
        go_wp2_with fail
        refine (HL.out _).mono ?_
        rintro e w' ⟨rfl, rfl⟩
        go_wp2_with fail
        go_round
        case rel => exact ⟨k + 1, by omega, by go_num, Lib.hid (HS.out HO.out)⟩
        case measure => simp [intOf]; omega
      | false =>
        rw [h1] at HL
        cases h2 : digB s[k] with
        | true =>
          rw [h2] at HD
          have HO := Lib.hid (show okB s[k] = true by unfold okB; rw [h1, h2]; rfl)
          clear h1 h2
          go_wp2_with fail
          refine (HL.out _).mono ?_
          rintro e w' ⟨rfl, rfl⟩
          go_wp2_with fail
          refine (HD.out _).mono ?_
          rintro e w' ⟨rfl, rfl⟩
          go_wp2_with fail
          go_round
          case rel => exact ⟨k + 1, by omega, by go_num, Lib.hid (HS.out HO.out)⟩
          case measure => simp [intOf]; omega
        | false =>
          rw [h2] at HD
          have HO := Lib.hid (show okB s[k] = decide (s[k].toNat = 95) by unfold okB; rw [h1, h2]; rfl)
          clear h1 h2
          by_cases h3 : s[k].toNat = 95
          · have HO := Lib.hid (show okB s[k] = true by rw [HO.out]; exact decide_eq_true h3)
            have h4 : ((s[k].toNat : Int) != 95) = false := by rw [h3]; rfl
            clear h3
            go_wp2_with fail
            refine (HL.out _).mono ?_
            rintro e w' ⟨rfl, rfl⟩
            go_wp2_with fail
            refine (HD.out _).mono ?_
            rintro e w' ⟨rfl, rfl⟩
            go_wp2_with fail
            go_round
            case rel => exact ⟨k + 1, by omega, by go_num, Lib.hid (HS.out HO.out)⟩
            case measure => simp [intOf]; omega
          · have HO := Lib.hid (HF.out (by rw [HO.out]; exact decide_eq_false h3))
            have h4 : ((s[k].toNat : Int) != 95) = true := by rw [bne_iff_ne]; omega
            clear h3
            go_wp2_with fail
            refine (HL.out _).mono ?_
            rintro e w' ⟨rfl, rfl⟩
            go_wp2_with fail
            refine (HD.out _).mono ?_
            rintro e w' ⟨rfl, rfl⟩
            go_wp2_with fail
            go_ret
            exact ⟨by rw [HO.out]; rfl, Below.refl _ _⟩
    · obtain rfl : s.size = k := by omega
      have HN := Lib.hid (HA.out (by have := HK.out; rwa [List.take_of_length_le (by rw [← Go.Lib.size_eq]; omega)] at this))
      clear HK HB HA
      go_wp2_with fail
      refine HR.out.mono ?_
      rintro e w1 ⟨rfl, hb⟩
      have HB := Lib.hid hb
      obtain ⟨v, hv⟩ : ∃ v, v = (resL.any fun x => x == s.data.toList) := ⟨_, rfl⟩
      rw [← hv]
      have HV := Lib.hid hv
      clear hv hb
      go_wp2
      go_ret
      exact ⟨by rw [HN.out, ← HV.out]; rfl, HB.out⟩

/-- The program's Name. -/
theorem name_any (s : ByteArray) (w : World) (hR : Res w) : Calls Tryd.prog 23 #[.string s] w fun e w' => e = .returned (.bool (nmB s)) ∧ Below w.heap.size w w' := by
  by_cases h0 : s.size = 0
  · exact name_zero s w h0
  · by_cases h20 : s.size ≤ 20
    · cases hc : lettB (s[0]'(by omega)) with
      | true => exact name_ok s w hR (by omega) h20 hc
      | false => exact name_bad1 s w (by omega) h20 hc
    · exact name_big s w (by omega)

end Go.Proofs.YtgehldadfaonbaaDoor
