/-
  The reference's Times.
-/
import Derived.Test.YtiocehlefpbbhaaDoorI2
import Derived.Test.YtiocehlefpbbhaaDoorM10
import Derived.Test.YtiocehlefpbbhaaDoorW4
namespace Go.Proofs.YtiocehlefpbbhaaDoor
open Go.RowKit NV

set_option maxHeartbeats 1600000 in
set_option maxRecDepth 100000 in
/-- Times returns the product. -/
theorem itimes_any {w : World} {x y : Value} {a b : Nat} (hx : INum w x a) (hy : INum w y b) (ha : ln a ≤ 1000000) (hb : ln b ≤ 1000000) :
    Calls Tryd.prog 78 #[x, y] w fun e w' => ∃ v, e = .returned v ∧ INum w' v (a * b) ∧ Below w.heap.size w w' := by
  obtain ⟨i0, hi, hz0, hz1, hz2⟩ := info_parts infoI
  obtain ⟨xa, xc, rfl⟩ := islice_any hx
  obtain ⟨ya, yc, rfl⟩ := islice_any hy
  have hlt0 : a * b < B ^ (ln a + ln b) := mul_lt_pow (lt_pow_ln a) (lt_pow_ln b)
  have hln := ln_le hlt0
  go_enter Tryd.func78, Tryd.ntmps78
  go_wp2_with (at_make; refine wpList_make_full _ rfl _ _ 65 rfl w.heap.size 3 i0 (.int .i64 0) 1 Tryd.underlying65 hi hz0 hz1 _ _ _ _ (ln a + ln b) rfl rfl (by omega) (by omega) (by rw [hz2]; omega) (by unfold maxLen; omega) (by simp) ?_)
  intro w1 hown1 hgrow1
  have harr : IArr w1 w.heap.size (ln a + ln b) (dg (rowsTo a b 0)) := (IArr.made (base := w.heap.size) (by rw [Nat.mul_one]; exact hown1)).congr (fun j _ => by rw [rowsTo_zero, dg_zero])
  have hb1 : Below w.heap.size w w1 := (Below.refl _ _).grown hgrow1 (by simp) (fun k hk => by cases hk)
  clear hown1 hgrow1
  go_wp2
  go_loopw [6] (fun i wr => ∃ p : Nat, p ≤ ln a ∧ i = .int .i64 p ∧ IArr wr w.heap.size (ln a + ln b) (dg (rowsTo a b p)) ∧ Below w.heap.size w wr) (fun i _ => ln a - (intOf i).toNat)
  case atStart => exact ⟨0, Nat.zero_le _, rfl, harr, hb1⟩
  case round =>
    obtain ⟨p, hp, rfl, har, hbr⟩ := hrel
    clear harr hb1
    obtain ⟨wo, rfl⟩ : ∃ wo : World, wo = wr := ⟨_, rfl⟩
    by_cases hlt : p < ln a
    · obtain ⟨xb, rfl⟩ := hx.addr (by omega)
      have har0 : IArr wo w.heap.size (ln a + ln b) (rowsAt a b p 0) := har.congr (fun j _ => (rowsAt_zero a b p j).symm)
      clear har
      go_wp2_with fail
      go_loopw [7, 8] (fun c k wi => ∃ q : Nat, q ≤ ln b ∧ k = .int .i64 q ∧ c = .int .i64 ((tc (rowsTo a b p / B ^ p) b (dg a p) q : Nat) : Int) ∧ IArr wi w.heap.size (ln a + ln b) (rowsAt a b p q) ∧ Below w.heap.size w wi) (fun _ k _ => ln b - (intOf k).toNat)
      case atStart => exact ⟨0, Nat.zero_le _, rfl, by rw [tc_zero]; rfl, har0, hbr⟩
      case round =>
        obtain ⟨q, hq, rfl, rfl, hai, hbi⟩ := hrel
        clear har0 hbr
        have bt := tc_lt (rowsTo a b p / B ^ p) b (dg a p) q (dg_lt a p)
        by_cases hqb : q < ln b
        · obtain ⟨yb, rfl⟩ := hy.addr (by omega)
          have c0 := hai.cell (show p + q < ln a + ln b by omega)
          have f0 := hai.free (p + q)
          rw [rowsAt_here] at c0
          have c1 := (hx.below hbi).cell hlt
          have c2 := (hy.below hbi).cell hqb
          have bh := dg_lt (rowsTo a b p / B ^ p) q
          have pb := prod_bd a b p q
          have hv := Lib.hid (show (((dg (rowsTo a b p / B ^ p) q : Nat) : Int) + ((dg a p : Nat) : Int) * ((dg b q : Nat) : Int) + ((tc (rowsTo a b p / B ^ p) b (dg a p) q : Nat) : Int)) % 1000000000 = ((dg (rowsTo a b (p + 1)) (p + q) : Nat) : Int) by
            rw [rowsTo_high, dg_row, Nat.mul_comm (dg b q)]; simp)
          have hw := Lib.hid (show (((dg (rowsTo a b p / B ^ p) q : Nat) : Int) + ((dg a p : Nat) : Int) * ((dg b q : Nat) : Int) + ((tc (rowsTo a b p / B ^ p) b (dg a p) q : Nat) : Int)) / 1000000000 = ((tc (rowsTo a b p / B ^ p) b (dg a p) (q + 1) : Nat) : Int) by
            rw [tc_succ, Nat.mul_comm (dg b q)]; simp)
          have HST := Lib.hid (show ∀ wz : World, IArr wz w.heap.size (ln a + ln b) (rowsAt a b p q) → IArr (wz.setCell ⟨w.heap.size, p + q, none⟩ (.int .i64 ((dg (rowsTo a b (p + 1)) (p + q) : Nat) : Int))) w.heap.size (ln a + ln b) (rowsAt a b p (q + 1)) from fun wz hz =>
            (hz.store (p + q) (dg (rowsTo a b (p + 1)) (p + q))).congr (fun j _ => by
              by_cases e : j = p + q
              · rw [e, upd_same, rowsAt, if_pos (by omega)]
              · rw [upd_other e, rowsAt, rowsAt]
                by_cases e2 : j < p + q
                · rw [if_pos e2, if_pos (by omega)]
                · rw [if_neg e2, if_neg (by omega)]))
          have HAI := Lib.hid hai
          generalize tc (rowsTo a b p / B ^ p) b (dg a p) q = C at *
          generalize dg (rowsTo a b p / B ^ p) q = D at *
          clear hai
          go_wp2_with fail
          go_quiet (fail)
          go_wp2_with fail
          go_roundw
          case rel => exact ⟨q + 1, by omega, by go_num, by rw [hw.out], by rw [hv.out]; exact HST.out _ HAI.out, (below_drewN hbi _).setCell (by simp) _⟩
          case measure => simp [intOf]; omega
        · obtain rfl : q = ln b := by omega
          have c0 := hai.cell (show p + ln b < ln a + ln b by omega)
          have f0 := hai.free (p + ln b)
          have HV := Lib.hid (show tc (rowsTo a b p / B ^ p) b (dg a p) (ln b) = dg (rowsTo a b (p + 1)) (p + ln b) by
            rw [rowsTo_high, dg_row_top (high_lt (lt_pow_ln b) p) (lt_pow_ln b) (dg_lt a p)])
          have HST := Lib.hid (show ∀ wz : World, IArr wz w.heap.size (ln a + ln b) (rowsAt a b p (ln b)) → IArr (wz.setCell ⟨w.heap.size, p + ln b, none⟩ (.int .i64 ((dg (rowsTo a b (p + 1)) (p + ln b) : Nat) : Int))) w.heap.size (ln a + ln b) (dg (rowsTo a b (p + 1))) from fun wz hz =>
            (hz.store (p + ln b) (dg (rowsTo a b (p + 1)) (p + ln b))).congr (fun j _ => by
              refine Eq.trans ?_ (rowsAt_done (lt_pow_ln b) j)
              by_cases e : j = p + ln b
              · rw [e, upd_same, rowsAt, if_pos (by omega)]
              · rw [upd_other e, rowsAt, rowsAt]
                by_cases e2 : j < p + ln b
                · rw [if_pos e2, if_pos (by omega)]
                · rw [if_neg e2, if_neg (by omega)]))
          have HAI := Lib.hid hai
          rw [HV.out]
          clear hai HV bt
          go_wp2_with fail
          go_roundw
          case rel => exact ⟨p + 1, by omega, by go_num, HST.out _ HAI.out, hbi.setCell (by simp) _⟩
          case measure => simp [intOf]; omega
    · obtain rfl : p = ln a := by omega
      have HC := Lib.hid (show ∀ j, j < ln a + ln b → wo.cell? ⟨w.heap.size, j, none⟩ = some (.int .i64 ((dg (a * b) j : Nat) : Int)) from fun j hj => by
        rw [har.cell hj, rowsTo_end (lt_pow_ln a)])
      have HN := Lib.hid (show ∀ _ : Nat, INum wo (.slice (some ⟨w.heap.size, 0, none⟩) (ln (a * b)) (ln a + ln b)) (a * b) from fun _ =>
        inum_of (k := ln a + ln b) har.lt hln (Nat.le_refl _) HC.out)
      go_wp2_with fail
      refine (itrim_any (n := a * b) (by omega) (Nat.le_refl _) hlt0 HC.out).mono ?_
      rintro e w2 ⟨rfl, rfl⟩
      go_wp2_with fail
      go_ret
      exact ⟨_, rfl, HN.out 0, hbr⟩

end Go.Proofs.YtiocehlefpbbhaaDoor
