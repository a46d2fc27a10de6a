/-
  rat's Floor, Ceil, Abs, Parts and Check of a number.
-/
import Derived.Test.YtgnmhijffppkoaaGreatDoorHI
namespace Go.Proofs.YtgnmhijffppkoaaGreatDoor
open Go.RowKit NV
open Go.Lib (decDigits)

/-- The greatest integer that is not greater than q. -/
def flQ (q : Rat) : Rat := ((q.floor : Int) : Rat)

theorem fl_parts (q : Rat) : (flQ q).den = 1 ∧ ng (flQ q) = ng q ∧ tp (flQ q) = tp q / q.den + (if ng q = true ∧ tp q % q.den ≠ 0 then 1 else 0) := by
  have hd := q.den_pos
  have hf : (flQ q).num = q.num / (q.den : Int) := by
    show (q.floor : Int) = _
    exact Rat.floor_def q
  refine ⟨rfl, ?_, ?_⟩
  · unfold ng
    rw [hf]
    apply decide_eq_decide.2
    constructor
    · intro h
      by_cases h2 : q.num < 0
      · exact h2
      · have : 0 ≤ q.num / (q.den : Int) := Int.ediv_nonneg (by omega) (by omega)
        omega
    · intro h; exact Int.ediv_neg_of_neg_of_pos h (by omega)
  · have e : tp (flQ q) = (q.num / (q.den : Int)).natAbs := by unfold tp; rw [hf]
    rw [e, num_of q]
    generalize q.den = d at *
    generalize tp q = n at *
    cases h : ng q with
    | false =>
      rw [if_neg (by simp), if_neg (by simp), Nat.add_zero, ← Int.natCast_ediv, Int.natAbs_natCast]
    | true =>
      rw [if_pos rfl]
      by_cases hz : n % d = 0
      · rw [if_neg (by simp [hz]), Nat.add_zero]
        obtain ⟨k, rfl⟩ := Nat.dvd_of_mod_eq_zero hz
        rw [Nat.mul_div_cancel_left _ hd, Int.natCast_mul, ← Int.mul_neg, Int.mul_ediv_cancel_left _ (by omega)]
        simp
      · rw [if_pos ⟨rfl, hz⟩]
        have h1 : -(n : Int) / (d : Int) = -((n / d : Nat) : Int) - 1 := by
          have hm := Nat.mod_lt n hd
          have hdm := Nat.div_add_mod n d
          have : -(n : Int) = (d : Int) * (-((n / d : Nat) : Int) - 1) + ((d - n % d : Nat) : Int) := by
            have hc : (n : Int) = (d : Int) * ((n / d : Nat) : Int) + ((n % d : Nat) : Int) := by rw [← Int.natCast_mul, ← Int.natCast_add, hdm]
            rw [hc, Int.mul_sub, Int.mul_neg, Int.mul_one, Int.ofNat_sub (Nat.le_of_lt hm)]
            omega
          rw [this, Int.add_comm, Int.add_mul_ediv_left _ _ (by omega), Int.ediv_eq_zero_of_lt (by omega) (by omega)]
          omega
        rw [h1]; generalize n / d = t; omega

/-- q without its sign. -/
def absQ (q : Rat) : Rat := if ng q then -q else q
theorem abs_parts (q : Rat) : (absQ q).den = q.den ∧ ng (absQ q) = false ∧ tp (absQ q) = tp q := by
  unfold absQ
  obtain ⟨h1, h2, h3⟩ := neg_parts q
  cases h : ng q
  · simp [h]
  · rw [if_pos rfl]; exact ⟨h2, by rw [h3, h]; rfl, h1⟩

theorem inv_pow (q : Rat) (k : Nat) : (q⁻¹) ^ k = (q ^ k)⁻¹ := by
  induction k with
  | zero => rw [Rat.pow_zero, Rat.pow_zero]; exact (Rat.inv_eq_of_mul_eq_one (Rat.mul_one 1)).symm
  | succ k ih => rw [Rat.pow_succ, Rat.pow_succ, ih, Rat.inv_mul_rev, Rat.mul_comm]

theorem QL.abs {M : Nat} {p : Rat} (hp : QL M p) : QL M (absQ p) := by
  obtain ⟨h1, h2, h3⟩ := abs_parts p
  exact ⟨by rw [h3]; exact hp.1, by rw [h1]; exact hp.2⟩

theorem QL.floor {M : Nat} {p : Rat} (hp : QL M p) : QL (M + 1) (flQ p) := by
  obtain ⟨h1, h2, h3⟩ := fl_parts p
  constructor
  · rw [h3]
    have : ln (if ng p = true ∧ tp p % p.den ≠ 0 then 1 else 0) ≤ M := by
      split
      · rename_i h
        rw [ln_one]
        have : tp p ≠ 0 := ng_zero h.1
        have := ln_pos this
        have := hp.1
        omega
      · rw [ln_zero]; omega
    exact ln_add (ln_div hp.1) this
  · rw [h1, ln_one]; omega

set_option maxHeartbeats 1600000 in
/-- rat.Check of any text. -/
theorem qcheck_any (s : ByteArray) (w : World) (hs : s.size ≤ 1000000) (hm : ML w) :
    Calls Tryz.prog 206 #[.string s] w fun e w' => e = .returned (.int .i64 ((rchk s : Nat) : Int)) ∧ Below w.heap.size w w' := by
  have HR := Lib.hid (read_any s w hs hm)
  clear hm
  go_enter Tryz.func206, Tryz.ntmps206
  go_wp2_with fail
  refine HR.out.mono ?_
  rintro e w1 ⟨⟨m, a1, L1, k1, a2, L2, k2, rfl, -⟩, hb⟩
  have HB := Lib.hid (hb.alloc hb.size (.cells #[.bool m, .slice a1 L1 k1, .slice a2 L2 k2] 167))
  have HB2 := Lib.hid hb
  clear hb HR
  go_wp2_with fail
  go_ret
  exact ⟨rfl, by first | exact HB.out | exact HB2.out⟩

set_option maxHeartbeats 1600000 in
/-- Parts of a number. -/
theorem Parts_q (p : Rat) (hp : QOk p) (w : World) (hm : ML w) :
    Calls Tryz.prog 155 #[.string (qstr p)] w fun e w' => e = .returned (.tuple #[.string (istr (ng p) (tp p)), .string (dstr p.den), .int .i64 0]) ∧ Below w.heap.size w w' := by
  have hk := qcheck_any (qstr p) w (qsmall hp) hm
  rw [qstr_chk hp] at hk
  have HK := Lib.hid hk
  obtain ⟨q1, q2, _⟩ := qstr_parts p
  have hsz : (qstr p).size < 4294967281 := by have := qstr_size hp; omega
  have HC := Lib.hid (fun W (h : Below w.heap.size w W) => cut_any (qstr p) W hsz (ml_keep hm (ml_pos hm) h))
  rw [q1, q2] at HC
  generalize (decide (cutAt (qstr p).data.toList < (qstr p).size)) = D at *
  generalize qstr p = s at *
  clear hk q1 q2 hsz hp hm
  go_enter Tryz.func155, Tryz.ntmps155
  go_wp2_with fail
  refine HK.out.mono ?_
  rintro e w1 ⟨rfl, hb1⟩
  have HB := Lib.hid hb1
  clear hb1 HK
  go_wp2_with fail
  refine (HC.out _ HB.out).mono ?_
  rintro e w2 ⟨rfl, q, rfl⟩
  have HB2 := Lib.hid (below_drewN HB.out q)
  clear HC
  go_wp2_with fail
  go_ret3
  exact ⟨rfl, HB2.out⟩

end Go.Proofs.YtgnmhijffppkoaaGreatDoor
