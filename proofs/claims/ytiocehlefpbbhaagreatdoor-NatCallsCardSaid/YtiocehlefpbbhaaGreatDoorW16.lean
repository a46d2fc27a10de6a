/-
  The contracts of subtractMultiple and addBack, at a part of a row.
-/
import Derived.Test.YtiocehlefpbbhaaGreatDoorW8
import Derived.Test.YtiocehlefpbbhaaGreatDoorW15
namespace Go.Proofs.YtiocehlefpbbhaaGreatDoor
open Go.RowKit NV

/-- The row f with the first k places from i on holding the number D. -/
def ovr (f : Nat → Nat) (i k D : Nat) : Nat → Nat := fun j => if i ≤ j ∧ j < i + k then dg D (j - i) else f j

theorem ovr_zero (f : Nat → Nat) (i D : Nat) : ovr f i 0 D = f := by
  funext j; unfold ovr; rw [if_neg (by omega)]

theorem ovr_past {f : Nat → Nat} {i k D j : Nat} (h : i + k ≤ j) : ovr f i k D j = f j := if_neg (by omega)

theorem upd_upd (f : Nat → Nat) (p y x : Nat) : upd (upd f p y) p x = upd f p x := by
  funext j; unfold upd; split <;> rfl

theorem ovr_step {f : Nat → Nat} {i k D x : Nat} (hD : D < B ^ k) (hx : x < 1000000000) : upd (ovr f i k D) (i + k) x = ovr f i (k + 1) (D + B ^ k * x) := by
  funext j
  unfold upd ovr
  by_cases e : j = i + k
  · subst e
    rw [if_pos rfl, if_pos (by omega), Nat.add_sub_cancel_left, dg_at hD, B_eq, Nat.mod_eq_of_lt hx]
  · rw [if_neg e]
    by_cases hj : i ≤ j ∧ j < i + k
    · rw [if_pos hj, if_pos (by omega), dg_add_mul (by omega)]
    · rw [if_neg hj, if_neg (by omega)]

theorem prod_bd2 (v k f : Nat) (hf : f < 1000000000) : 0 ≤ ((dg v k : Nat) : Int) * (f : Int) ∧ ((dg v k : Nat) : Int) * (f : Int) ≤ 999999998000000001 ∧ ((dg v k : Nat) : Int) * (f : Int) = ((dg v k * f : Nat) : Int) := by
  have h1 := dg_lt v k
  have : dg v k * f ≤ 999999999 * 999999999 := Nat.mul_le_mul (by omega) (by omega)
  have e : ((dg v k : Nat) : Int) * (f : Int) = ((dg v k * f : Nat) : Int) := by simp
  rw [e]; omega

/-- Is a at most b? -/
def leB (a b : Nat) : Bool := decide (a ≤ b)

theorem ovr_next {f : Nat → Nat} {i k S x : Nat} (h : x = dg S k) : upd (ovr f i k S) (i + k) x = ovr f i (k + 1) S := by
  funext j
  unfold upd ovr
  by_cases e : j = i + k
  · subst e
    rw [if_pos rfl, if_pos (by omega), Nat.add_sub_cancel_left, h]
  · rw [if_neg e]
    by_cases hj : i ≤ j ∧ j < i + k
    · rw [if_pos hj, if_pos (by omega)]
    · rw [if_neg hj, if_neg (by omega)]

set_option maxHeartbeats 3200000 in
set_option maxRecDepth 100000 in
/-- subtractMultiple takes factor times the divisor out of the n + 1 places from i on; it tells whether nothing is missing. -/
theorem subtract_any {w : World} {g N i n c x v fc yb yc : Nat} {f : Nat → Nat} (har0 : Arr w g N f) (hN : N ≤ 2000000) (hin : i + n + 1 ≤ N)
    (hfx : ∀ j, j ≤ n → f (i + j) = dg x j) (hy : Num w (.slice (some ⟨yb, 0, none⟩) n yc) v) (hn : n = ln v) (hyg : yb ≠ g) (hfc : fc < 1000000000) :
    Calls Tryz.prog 83 #[.slice (some ⟨g, i, none⟩) (n + 1) c, .slice (some ⟨yb, 0, none⟩) n yc, .int .u64 fc] w fun e w' =>
      ∃ D br : Nat, e = .returned (.bool (leB br (dg x n))) ∧ D < B ^ n ∧ x % B ^ n + B ^ n * br = D + (v % B ^ n) * fc ∧ Arr w' g N (upd (ovr f i n D) (i + n) 0) ∧ Kept g w.heap.size w w' := by
  have HN := Lib.hid hn
  have HY := Lib.hid hy
  have hyb : yb < w.heap.size := hy.blt
  clear hn hy
  go_enter Tryz.func83, Tryz.ntmps83
  go_wp2
  go_loopw [7, 16] (fun bo ix wr => ∃ k D br : Nat, k ≤ n ∧ ix = .int .i64 k ∧ bo = .int .u64 (br : Int) ∧ br ≤ 999999999 ∧ D < B ^ k ∧ x % B ^ k + B ^ k * br = D + (v % B ^ k) * fc ∧ Arr wr g N (ovr f i k D) ∧ Kept g w.heap.size w wr) (fun _ ix _ => n - (intOf ix).toNat)
  case atStart => exact ⟨0, 0, 0, Nat.zero_le _, rfl, rfl, by omega, by simp, by simp [Nat.mod_one], by rw [ovr_zero]; exact har0, Kept.refl _ _ _⟩
  case round =>
    obtain ⟨k, D, br, hk, rfl, rfl, hbr, hD, he, har, hkp⟩ := hrel
    have HE := Lib.hid he
    have HD := Lib.hid hD
    clear he hD
    have hgl := har.lt
    by_cases hlt : k < n
    · have c1 := har.cell (show i + k < N by omega)
      rw [ovr_past (Nat.le_refl _), hfx k (by omega)] at c1
      have c2 := har.free (i + k)
      have c3 : wr.cell? ⟨yb, k, none⟩ = some (.int .u64 ((dg v k : Nat) : Int)) := (hkp.cell (p := ⟨yb, k, none⟩) hyb hyg).trans (HY.out.cell (by rw [← HN.out]; exact hlt))
      have b1 := dg_lt x k
      obtain ⟨b2, b3, hb4⟩ := prod_bd2 v k fc hfc
      have hPc : ((dg v k * fc + br : Nat) : Int) = ((dg v k : Nat) : Int) * (fc : Int) + (br : Int) := by simp
      have HPC := Lib.hid hPc
      have HB4 := Lib.hid hb4
      obtain ⟨P, hP⟩ : ∃ P : Nat, P = dg v k * fc + br := ⟨_, rfl⟩
      have HP := Lib.hid hP
      have hPb : P ≤ 999999999000000000 := by rw [hP]; omega
      clear hPc hb4 hP
      by_cases hc : dg x k < P % 1000000000
      · have hc' : ((dg x k : Nat) : Int) < (((dg v k : Nat) : Int) * (fc : Int) + (br : Int)) % 1000000000 := by rw [← HPC.out, ← HP.out]; omega
        have HT := Lib.hid (take_step (x' := dg x k + 1000000000 - P % 1000000000) (br' := P / 1000000000 + 1) HD.out HE.out HP.out rfl (by rw [if_pos hc]; omega) (by rw [if_pos hc]))
        have HV1 := Lib.hid (show ((dg x k : Nat) : Int) + 1000000000 = ((dg x k + 1000000000 : Nat) : Int) by omega)
        have HV2 := Lib.hid (show ((dg x k : Nat) : Int) + 1000000000 - (((dg v k : Nat) : Int) * (fc : Int) + (br : Int)) % 1000000000 = ((dg x k + 1000000000 - P % 1000000000 : Nat) : Int) by rw [← HPC.out, ← HP.out]; omega)
        have HV3 := Lib.hid (show (((dg v k : Nat) : Int) * (fc : Int) + (br : Int)) / 1000000000 + 1 = ((P / 1000000000 + 1 : Nat) : Int) by rw [← HPC.out, ← HP.out]; omega)
        have hx1 : dg x k + 1000000000 - P % 1000000000 < 1000000000 := by omega
        have hbr' : P / 1000000000 + 1 ≤ 999999999 := by omega
        clear hc
        go_wp2_with fail
        go_roundw
        case rel => exact ⟨k + 1, D + B ^ k * (dg x k + 1000000000 - P % 1000000000), P / 1000000000 + 1, by omega, by go_num, by rw [HV3.out], hbr', HT.out.1, HT.out.2, by rw [HV2.out, HV1.out, ← ovr_step HD.out hx1, ← upd_upd _ _ (dg x k + 1000000000)]; exact (har.store (i + k) _).store (i + k) _, (hkp.setCell (.inl rfl) _).setCell (.inl rfl) _⟩
        case measure => simp [intOf]; omega
      · have hc' : (((dg v k : Nat) : Int) * (fc : Int) + (br : Int)) % 1000000000 ≤ ((dg x k : Nat) : Int) := by rw [← HPC.out, ← HP.out]; omega
        have HT := Lib.hid (take_step (x' := dg x k - P % 1000000000) (br' := P / 1000000000) HD.out HE.out HP.out rfl (by rw [if_neg hc]; omega) (by rw [if_neg hc]; rfl))
        have HV2 := Lib.hid (show ((dg x k : Nat) : Int) - (((dg v k : Nat) : Int) * (fc : Int) + (br : Int)) % 1000000000 = ((dg x k - P % 1000000000 : Nat) : Int) by rw [← HPC.out, ← HP.out]; omega)
        have HV3 := Lib.hid (show (((dg v k : Nat) : Int) * (fc : Int) + (br : Int)) / 1000000000 = ((P / 1000000000 : Nat) : Int) by rw [← HPC.out, ← HP.out]; omega)
        have hx1 : dg x k - P % 1000000000 < 1000000000 := by omega
        have hbr' : P / 1000000000 ≤ 999999999 := by omega
        clear hc
        go_wp2_with fail
        go_roundw
        case rel => exact ⟨k + 1, D + B ^ k * (dg x k - P % 1000000000), P / 1000000000, by omega, by go_num, by rw [HV3.out], hbr', HT.out.1, HT.out.2, by rw [HV2.out, ← ovr_step HD.out hx1]; exact har.store (i + k) _, hkp.setCell (.inl rfl) _⟩
        case measure => simp [intOf]; omega
    · obtain rfl : k = n := by omega
      have c1 := har.cell (show i + k < N by omega)
      rw [ovr_past (Nat.le_refl _), hfx k (Nat.le_refl _)] at c1
      have c2 := har.free (i + k)
      have b1 := dg_lt x k
      go_wp2_with fail
      go_ret
      exact ⟨D, br, rfl, HD.out, HE.out, har.store (i + k) 0, hkp.setCell (.inl rfl) _⟩

set_option maxHeartbeats 1600000 in
set_option maxRecDepth 100000 in
/-- addBack adds the divisor to the n places from i on, without the last carry. -/
theorem addBack_any {w : World} {g N i n c x v yb yc : Nat} {f : Nat → Nat} (har0 : Arr w g N f) (hN : N ≤ 2000000) (hin : i + n + 1 ≤ N)
    (hfx : ∀ j, j < n → f (i + j) = dg x j) (hy : Num w (.slice (some ⟨yb, 0, none⟩) n yc) v) (hn : n = ln v) (hyg : yb ≠ g) :
    Calls Tryz.prog 84 #[.slice (some ⟨g, i, none⟩) (n + 1) c, .slice (some ⟨yb, 0, none⟩) n yc] w fun e w' =>
      e = .returned (.tuple #[]) ∧ Arr w' g N (ovr f i n (x + v)) ∧ Kept g w.heap.size w w' := by
  have HN := Lib.hid hn
  have HY := Lib.hid hy
  have hyb : yb < w.heap.size := hy.blt
  clear hn hy
  go_enter Tryz.func84, Tryz.ntmps84
  go_wp2
  go_loopw [4, 10] (fun cr ix wr => ∃ k : Nat, k ≤ n ∧ ix = .int .i64 k ∧ cr = .int .u64 ((ca x v k : Nat) : Int) ∧ Arr wr g N (ovr f i k (x + v)) ∧ Kept g w.heap.size w wr) (fun _ ix _ => n - (intOf ix).toNat)
  case atStart => exact ⟨0, Nat.zero_le _, rfl, by rw [ca_zero]; rfl, by rw [ovr_zero]; exact har0, Kept.refl _ _ _⟩
  case round =>
    obtain ⟨k, hk, rfl, rfl, har, hkp⟩ := hrel
    by_cases hlt : k < n
    · have c1 := har.cell (show i + k < N by omega)
      rw [ovr_past (Nat.le_refl _), hfx k hlt] at c1
      have c2 := har.free (i + k)
      have c3 : wr.cell? ⟨yb, k, none⟩ = some (.int .u64 ((dg v k : Nat) : Int)) := (hkp.cell (p := ⟨yb, k, none⟩) hyb hyg).trans (HY.out.cell (by rw [← HN.out]; exact hlt))
      have b1 := dg_lt x k
      have b2 := dg_lt v k
      have b3 := ca_le x v k
      have hv := Lib.hid (show ((dg x k : Nat) + (dg v k : Nat) + (ca x v k : Nat) : Int) % 1000000000 = ((dg (x + v) k : Nat) : Int) by rw [dg_add]; omega)
      have hw := Lib.hid (show ((dg x k : Nat) + (dg v k : Nat) + (ca x v k : Nat) : Int) / 1000000000 = ((ca x v (k + 1) : Nat) : Int) by rw [ca_succ]; omega)
      go_wp2_with fail
      go_roundw
      case rel => exact ⟨k + 1, by omega, by go_num, by rw [hw.out], by rw [hv.out, ← ovr_next rfl]; exact har.store (i + k) _, hkp.setCell (.inl rfl) _⟩
      case measure => simp [intOf]; omega
    · obtain rfl : k = n := by omega
      go_wp2_with fail
      go_end0
      exact ⟨rfl, har, hkp⟩

end Go.Proofs.YtiocehlefpbbhaaGreatDoor
