/-
  The reference's Name, for every text.
-/
import Derived.Test.YtgehldadfaonbaaDoorSE
namespace Go.Proofs.YtgehldadfaonbaaDoor
open Go.RowKit Go.Shelf

/-- A byte as the reference's Name tests it. -/
theorem okB_no {c : UInt8} (h : okB c = false) : ((c.toNat : Int) < 97 ∨ 122 < (c.toNat : Int)) ∧ ((c.toNat : Int) < 48 ∨ 57 < (c.toNat : Int)) ∧ c.toNat ≠ 95 := by
  unfold okB lettB digB at h
  simp only [Bool.or_eq_false_iff, Bool.and_eq_false_iff, decide_eq_false_iff_not] at h
  omega
theorem okB_yes {c : UInt8} (h : okB c = true) : (97 ≤ (c.toNat : Int) ∧ (c.toNat : Int) ≤ 122) ∨ (((c.toNat : Int) < 97 ∨ 122 < (c.toNat : Int)) ∧ 48 ≤ (c.toNat : Int) ∧ (c.toNat : Int) ≤ 57) ∨ c.toNat = 95 := by
  unfold okB lettB digB at h
  simp only [Bool.or_eq_true, Bool.and_eq_true, decide_eq_true_eq] at h
  omega

theorem rname_short (s : ByteArray) (w : World) (h : s.size = 0) : Calls Tryd.prog 24 #[.string s] w fun e w' => e = .returned (.bool (nmB s)) ∧ Below w.heap.size w w' := by
  have he : nmB s = false := by
    unfold nmB
    rw [List.eq_nil_of_length_eq_zero (l := s.data.toList) (by rw [← Go.Lib.size_eq]; exact h)]; rfl
  have hz : s.size < 1 := by omega
  rw [he]
  clear h he
  go_enter Tryd.func24, Tryd.ntmps24
  go_wp2
  go_ret
  exact ⟨rfl, Below.refl _ _⟩
theorem rname_long (s : ByteArray) (w : World) (h : 20 < s.size) : Calls Tryd.prog 24 #[.string s] w fun e w' => e = .returned (.bool (nmB s)) ∧ Below w.heap.size w w' := by
  have he : nmB s = false := name_long _ (by rw [← Go.Lib.size_eq]; exact h)
  have hz : ¬ s.size < 1 := by omega
  rw [he]
  clear he
  go_enter Tryd.func24, Tryd.ntmps24
  go_wp2
  go_ret
  exact ⟨rfl, Below.refl _ _⟩
theorem nmB_first {s : ByteArray} (h0 : 0 < s.size) (hc : lettB s[0] = false) : nmB s = false := by
  unfold nmB
  cases hl : s.data.toList with
  | nil => rfl
  | cons c r =>
    have : s[0] = c := by have := byteL s 0 h0; simp only [hl, List.getElem_cons_zero] at this; exact this.symm
    exact name_first c r (by rw [← this]; exact hc)
theorem rname_first (s : ByteArray) (w : World) (h0 : 0 < s.size) (h20 : s.size ≤ 20) (hc : lettB s[0] = false) : Calls Tryd.prog 24 #[.string s] w fun e w' => e = .returned (.bool (nmB s)) ∧ Below w.heap.size w w' := by
  have he := nmB_first h0 hc
  have hz : ¬ s.size < 1 := by omega
  have hc2 : s[0].toNat < 97 ∨ 122 < s[0].toNat := by
    unfold lettB at hc
    simp only [Bool.and_eq_false_iff, decide_eq_false_iff_not] at hc
    omega
  rw [he]
  clear he hc
  by_cases ha : s[0].toNat < 97
  · clear hc2
    go_enter Tryd.func24, Tryd.ntmps24
    go_wp2
    go_ret
    exact ⟨rfl, Below.refl _ _⟩
  · have hb : 122 < s[0].toNat := by omega
    clear hc2
    go_enter Tryd.func24, Tryd.ntmps24
    go_wp2
    go_ret
    exact ⟨rfl, Below.refl _ _⟩

theorem resV_get {k : Nat} (hk : k < 35) : resV[k]? = some (.string (resA k)) := by
  unfold resV resA
  rw [List.getElem?_toArray, List.getElem?_map, List.getElem?_eq_getElem (show k < resL.length from hk), List.getD_eq_getElem?_getD, List.getElem?_eq_getElem (show k < resL.length from hk)]
  rfl
/-- What the second loop has found. -/
theorem any_take (s : ByteArray) (k : Nat) : (∀ j, j < k → resA j ≠ s) ↔ ∀ j, j < k → resL.getD j [] ≠ s.data.toList := by
  have key : ∀ j, resA j = s ↔ resL.getD j [] = s.data.toList := fun j => by
    unfold resA
    constructor
    · intro h; rw [← h]
    · intro h; rw [h]
  exact ⟨fun h j hj e => h j hj ((key j).2 e), fun h j hj e => h j hj ((key j).1 e)⟩
theorem any_none (s : ByteArray) (h : ∀ j, j < 35 → resA j ≠ s) : (resL.any fun x => x == s.data.toList) = false := by
  rw [List.any_eq_false]
  intro x hx
  obtain ⟨k, hk, rfl⟩ := List.mem_iff_getElem.1 hx
  have := (any_take s 35).1 h k hk
  rw [List.getD_eq_getElem?_getD, List.getElem?_eq_getElem hk] at this
  simpa using this
theorem any_some (s : ByteArray) (k : Nat) (hk : k < 35) (h : resA k = s) : (resL.any fun x => x == s.data.toList) = true := by
  rw [List.any_eq_true]
  refine ⟨resL.getD k [], ?_, ?_⟩
  · rw [List.getD_eq_getElem?_getD, List.getElem?_eq_getElem (show k < resL.length from hk)]; exact List.getElem_mem _
  · rw [← h]; simp [resA]
set_option maxHeartbeats 3200000 in
theorem rname_ok (s : ByteArray) (w : World) (h0 : 0 < s.size) (h20 : s.size ≤ 20) (hc : lettB s[0] = true) : Calls Tryd.prog 24 #[.string s] w fun e w' => e = .returned (.bool (nmB s)) ∧ Below w.heap.size w w' := by
  have hz : ¬ s.size < 1 := by omega
  have HA := Lib.hid (show s.data.toList.all okB = true → nmB s = !(resL.any fun x => x == s.data.toList) from fun ha => name_all _ ha (fun e => by have := Go.Lib.size_eq s; rw [e, List.length_nil] at this; omega) (by rw [← Go.Lib.size_eq]; exact h20) (fun c r e => by
    have h1 := byteL s 0 h0
    simp only [e, List.getElem_cons_zero] at h1
    rw [h1]; exact hc))
  have HB := Lib.hid (show ∀ k, (hk : k < s.size) → okB s[k] = false → nmB s = false from fun k hk hb => name_bad _ k (by rw [← Go.Lib.size_eq]; exact hk) hb)
  have hc2 : ¬ s[0].toNat < 97 ∧ s[0].toNat ≤ 122 := by
    unfold lettB at hc
    simp only [Bool.and_eq_true, decide_eq_true_eq] at hc
    omega
  obtain ⟨ha, hb⟩ := hc2
  have HRR := Lib.hid (refReserved_any w)
  clear hc
  go_enter Tryd.func24, Tryd.ntmps24
  go_wp2_with fail
  go_loop [3, 4] (fun i _ => ∃ k : Nat, k ≤ s.size ∧ i = .int .i64 k ∧ Hid ((s.data.toList.take k).all okB = true)) (fun i _ => s.size - (intOf i).toNat)
  case atStart => exact ⟨0, Nat.zero_le _, rfl, Lib.hid rfl⟩
  case round =>
    obtain ⟨k, hk, rfl, HK⟩ := hrel
    by_cases hlt : k < s.size
    · have HS := Lib.hid (show okB s[k] = true → (s.data.toList.take (k + 1)).all okB = true from fun h => all_stepS _ k hlt HK.out h)
      have HF := Lib.hid (HB.out k hlt)
      clear ha hb
      cases ho : okB s[k] with
      | false =>
        have HO := Lib.hid (HF.out ho)
        obtain ⟨h1, h2, h3⟩ := okB_no ho
        have h4 : ((s[k].toNat : Int) != 95) = true := by rw [bne_iff_ne]; omega
        clear ho h3
        rcases h1 with h1 | h1 <;> rcases h2 with h2 | h2
        all_goals
          first
          | (have h5 : ¬ (s[k].toNat : Int) < 97 := by omega)
          | skip
          first
          | (have h6 : ¬ (s[k].toNat : Int) < 48 := by omega)
          | skip
          go_wp2
          go_ret
          exact ⟨by rw [HO.out]; rfl, Below.refl _ _⟩
      | true =>
        have HO := Lib.hid ho
        rcases okB_yes ho with ⟨h1, h2⟩ | ⟨h1, h2, h3⟩ | h1
        · have h5 : ¬ (s[k].toNat : Int) < 97 := by omega
          have h6 : ¬ 122 < (s[k].toNat : Int) := by omega
          clear ho
          go_wp2
          go_round
          case rel => exact ⟨k + 1, by omega, by go_num, Lib.hid (HS.out HO.out)⟩
          case measure => simp [intOf]; omega
        · have h5 : ¬ (s[k].toNat : Int) < 48 := by omega
          have h6 : ¬ 57 < (s[k].toNat : Int) := by omega
          clear ho
          rcases h1 with h1 | h1
          · go_wp2
            go_round
            case rel => exact ⟨k + 1, by omega, by go_num, Lib.hid (HS.out HO.out)⟩
            case measure => simp [intOf]; omega
          · have h7 : ¬ (s[k].toNat : Int) < 97 := by omega
            go_wp2
            go_round
            case rel => exact ⟨k + 1, by omega, by go_num, Lib.hid (HS.out HO.out)⟩
            case measure => simp [intOf]; omega
        · have h5 : (s[k].toNat : Int) < 97 := by omega
          have h6 : ¬ (s[k].toNat : Int) < 48 := by omega
          have h7 : 57 < (s[k].toNat : Int) := by omega
          have h8 : ((s[k].toNat : Int) != 95) = false := by rw [h1]; rfl
          clear ho h1
          go_wp2
          go_round
          case rel => exact ⟨k + 1, by omega, by go_num, Lib.hid (HS.out HO.out)⟩
          case measure => simp [intOf]; omega
    · obtain rfl : s.size = k := by omega
      have HN := Lib.hid (HA.out (by have := HK.out; rwa [List.take_of_length_le (by rw [← Go.Lib.size_eq]; omega)] at this))
      clear HK HB HA ha hb
      go_wp2_with fail
      refine HRR.out.mono ?_
      rintro e w1 ⟨rfl, rfl⟩
      have HW := Lib.hid (show (w.alloc (.cells resV 9)).heap[w.heap.size]? = some (.cells resV 9) from heap_alloc_new w _)
      have HBW := Lib.hid ((Below.refl w.heap.size w).alloc (Nat.le_refl _) (.cells resV 9))
      obtain ⟨W, hW⟩ : ∃ W, W = w.alloc (.cells resV 9) := ⟨_, rfl⟩
      rw [← hW] at HW HBW
      rw [← hW]
      clear hW HRR
      go_wp2_with fail
      go_loop [6] (fun i => ∃ k : Nat, k ≤ 35 ∧ i = .int .i64 k ∧ Hid (∀ j, j < k → resA j ≠ s)) (fun i => 35 - (intOf i).toNat)
      case atStart => exact ⟨0, Nat.zero_le _, rfl, Lib.hid (fun j hj => absurd hj (Nat.not_lt_zero _))⟩
      case round =>
        obtain ⟨k, hk, rfl, HK⟩ := hrel
        by_cases hlt2 : k < 35
        · obtain ⟨r, hr⟩ : ∃ r, r = resA k := ⟨_, rfl⟩
          have hcell : W.cell? ⟨w.heap.size, k, none⟩ = some (.string r) := by
            rw [hr, cell_of_row W _ k _ _ _ HW.out, resV_get hlt2]
          have HR := Lib.hid hr
          clear hr
          by_cases he : r = s
          · have hq := str_same he
            have HE := Lib.hid (any_some s k hlt2 (by rw [← HR.out]; exact he))
            clear he
            go_wp2
            go_ret
            exact ⟨by rw [HN.out, HE.out]; rfl, HBW.out⟩
          · have hq := str_ne he
            have HE := Lib.hid (show ∀ j, j < k + 1 → resA j ≠ s from fun j hj => by
              rcases Nat.lt_succ_iff_lt_or_eq.1 hj with h | rfl
              · exact HK.out j h
              · rw [← HR.out]; exact he)
            clear he
            go_wp2
            go_round
            case rel => exact ⟨k + 1, by omega, by go_num, Lib.hid HE.out⟩
            case measure => simp [intOf]; omega
        · obtain rfl : k = 35 := by omega
          have HE := Lib.hid (any_none s HK.out)
          clear HK
          go_wp2
          go_ret
          exact ⟨by rw [HN.out, HE.out]; rfl, HBW.out⟩

/-- The reference's Name. -/
theorem rname_any (s : ByteArray) (w : World) : Calls Tryd.prog 24 #[.string s] w fun e w' => e = .returned (.bool (nmB s)) ∧ Below w.heap.size w w' := by
  by_cases h0 : s.size = 0
  · exact rname_short s w h0
  · by_cases h20 : s.size ≤ 20
    · cases hc : lettB (s[0]'(by omega)) with
      | true => exact rname_ok s w (by omega) h20 hc
      | false => exact rname_first s w (by omega) h20 hc
    · exact rname_long s w (by omega)

end Go.Proofs.YtgehldadfaonbaaDoor
