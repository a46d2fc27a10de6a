/-
  exact.Fraction's calculation told in rational numbers.
-/
import Derived.Test.YtjpepjooefkbkaaGreatDoorHA
import Derived.Test.YtjpepjooefkbkaaGreatDoorP15
import Derived.Test.YtjpepjooefkbkaaGreatDoorHB
namespace Go.Proofs.YtjpepjooefkbkaaGreatDoor
open Go.RowKit NV
open Go.Lib (decDigits)
def FQ (w : World) (v : Value) (q : Rat) : Prop := FNum w v (ng q) (tp q) q.den
theorem FQ.below {w w' : World} {v : Value} {q : Rat} (h : FQ w v q) (hb : Below w.heap.size w w') : FQ w' v q := FNum.below h hb
def QL (N : Nat) (q : Rat) : Prop := ln (tp q) ≤ N ∧ ln q.den ≤ N
theorem QOk.ql {q : Rat} (h : QOk q) : QL 445 q := ⟨h.1.ln, h.2.ln⟩
theorem QL.mono {M N : Nat} {q : Rat} (h : QL M q) (hMN : M ≤ N) : QL N q := ⟨Nat.le_trans h.1 hMN, Nat.le_trans h.2 hMN⟩
theorem ln_sTop {m1 m2 : Bool} {o t N : Nat} (ho : ln o ≤ N) (ht : ln t ≤ N) : ln (sTop m1 m2 o t) ≤ N + 1 := by
 unfold sTop
 split
 ·exact ln_add ho ht
 ·split
  ·exact Nat.le_trans (ln_sub ho) (by omega)
  ·exact Nat.le_trans (ln_sub ht) (by omega)
theorem QL.add {M : Nat} {p q : Rat} (hp : QL M p) (hq : QL M q) : QL (2 * M + 1) (p + q) := by
 obtain ⟨h1, h2, _⟩ := add_parts p q _ _ _ rfl rfl rfl
 constructor
 ·rw [h1]; exact ln_div (Nat.le_trans (ln_sTop (ln_mul hp.1 (ln_div hq.2)) (ln_mul hq.1 (ln_div hp.2))) (by omega))
 ·rw [h2]; exact Nat.le_trans (ln_mul (ln_div hp.2) (ln_div hq.2)) (by omega)
theorem QL.mul {M : Nat} {p q : Rat} (hp : QL M p) (hq : QL M q) : QL (2 * M + 1) (p * q) := by
 obtain ⟨h1, h2, _⟩ := mul_parts p q _ _ rfl rfl
 constructor
 ·rw [h1]; exact Nat.le_trans (ln_mul (ln_div hp.1) (ln_div hq.1)) (by omega)
 ·rw [h2]; exact Nat.le_trans (ln_mul (ln_div hp.2) (ln_div hq.2)) (by omega)
theorem QL.neg {M : Nat} {p : Rat} (hp : QL M p) : QL M (-p) := by
 obtain ⟨h1, h2, _⟩ := neg_parts p
 exact ⟨by rw [h1]; exact hp.1, by rw [h2]; exact hp.2⟩
theorem QL.inv {M : Nat} {p : Rat} (hp : QL M p) (h : p ≠ 0) : QL M p⁻¹ := by
 obtain ⟨h1, h2, _⟩ := inv_parts h
 exact ⟨by rw [h1]; exact hp.2, by rw [h2]; exact hp.1⟩
theorem fnum_of {w : World} {v : Value} {q : Rat} {m : Bool} {n d : Nat} (h : FNum w v m n d) (h1 : ng q = m) (h2 : tp q = n) (h3 : q.den = d) : FQ w v q := by
 unfold FQ; rw [h1, h2, h3]; exact h
theorem plus_q {w : World} {v u : Value} {p q : Rat} (hp : FQ w v p) (hq : FQ w u q) (lp : QL 100000 p) (lq : QL 100000 q) :
  Calls Tryz.prog 68 #[v, u] w fun e w' => ∃ z, e = .returned z ∧ FQ w' z (p + q) ∧ Below w.heap.size w w' := by
 obtain ⟨x1, y1, rfl, hx1, hy1⟩ := hp
 obtain ⟨x2, y2, rfl, hx2, hy2⟩ := hq
 obtain ⟨h1, h2, h3⟩ := add_parts p q _ _ _ rfl rfl rfl
 by_cases hm : ng p = ng q
 ·refine (fplus_A hx1 hy1 hx2 hy2 lp.1 lp.2 lq.1 lq.2 p.den_nz hm).mono ?_
  rintro e w' ⟨z, rfl, hz, hb⟩
  have hs : sTop (ng p) (ng q) (tp p * (q.den / Nat.gcd p.den q.den)) (tp q * (p.den / Nat.gcd p.den q.den)) = tp p * (q.den / Nat.gcd p.den q.den) + tp q * (p.den / Nat.gcd p.den q.den) := if_pos hm
  have hn : sNeg (ng p) (ng q) (tp p * (q.den / Nat.gcd p.den q.den)) (tp q * (p.den / Nat.gcd p.den q.den)) = ng p := if_pos hm
  rw [hs] at h1 h2 h3
  rw [hn] at h3
  exact ⟨z, rfl, fnum_of hz h3 h1 h2, hb⟩
 ·by_cases hc : tp q * (p.den / Nat.gcd p.den q.den) ≤ tp p * (q.den / Nat.gcd p.den q.den)
  ·refine (fplus_B hx1 hy1 hx2 hy2 lp.1 lp.2 lq.1 lq.2 p.den_nz hm hc).mono ?_
   rintro e w' ⟨z, rfl, hz, hb⟩
   have hs : sTop (ng p) (ng q) (tp p * (q.den / Nat.gcd p.den q.den)) (tp q * (p.den / Nat.gcd p.den q.den)) = tp p * (q.den / Nat.gcd p.den q.den) - tp q * (p.den / Nat.gcd p.den q.den) := by rw [sTop, if_neg hm, if_pos hc]
   have hn : sNeg (ng p) (ng q) (tp p * (q.den / Nat.gcd p.den q.den)) (tp q * (p.den / Nat.gcd p.den q.den)) = ng p := by rw [sNeg, if_neg hm, if_pos hc]
   rw [hs] at h1 h2 h3
   rw [hn] at h3
   exact ⟨z, rfl, fnum_of hz h3 h1 h2, hb⟩
  ·refine (fplus_C hx1 hy1 hx2 hy2 lp.1 lp.2 lq.1 lq.2 p.den_nz hm (by omega)).mono ?_
   rintro e w' ⟨z, rfl, hz, hb⟩
   have hs : sTop (ng p) (ng q) (tp p * (q.den / Nat.gcd p.den q.den)) (tp q * (p.den / Nat.gcd p.den q.den)) = tp q * (p.den / Nat.gcd p.den q.den) - tp p * (q.den / Nat.gcd p.den q.den) := by rw [sTop, if_neg hm, if_neg hc]
   have hn : sNeg (ng p) (ng q) (tp p * (q.den / Nat.gcd p.den q.den)) (tp q * (p.den / Nat.gcd p.den q.den)) = ng q := by rw [sNeg, if_neg hm, if_neg hc]
   rw [hs] at h1 h2 h3
   rw [hn] at h3
   exact ⟨z, rfl, fnum_of hz h3 h1 h2, hb⟩
theorem times_q {w : World} {v u : Value} {p q : Rat} (hp : FQ w v p) (hq : FQ w u q) (lp : QL 100000 p) (lq : QL 100000 q) :
  Calls Tryz.prog 76 #[v, u] w fun e w' => ∃ z, e = .returned z ∧ FQ w' z (p * q) ∧ Below w.heap.size w w' := by
 obtain ⟨x1, y1, rfl, hx1, hy1⟩ := hp
 obtain ⟨x2, y2, rfl, hx2, hy2⟩ := hq
 obtain ⟨h1, h2, h3⟩ := mul_parts p q _ _ rfl rfl
 refine (ftimes_any hx1 hy1 hx2 hy2 lp.1 lp.2 lq.1 lq.2 p.den_nz q.den_nz).mono ?_
 rintro e w' ⟨z, rfl, hz, hb⟩
 exact ⟨z, rfl, fnum_of hz h3 h1 h2, hb⟩
theorem inverse_q {w : World} {v : Value} {p : Rat} (hp : FQ w v p) (h0 : p ≠ 0) :
  Calls Tryz.prog 73 #[v] w fun e w' => ∃ z, e = .returned z ∧ FQ w' z p⁻¹ ∧ Below w.heap.size w w' := by
 obtain ⟨x1, y1, rfl, hx1, hy1⟩ := hp
 obtain ⟨h1, h2, h3⟩ := inv_parts h0
 refine (inverse_any hx1 hy1).mono ?_
 rintro e w' ⟨rfl, hb⟩
 exact ⟨_, rfl, fnum_of ⟨y1, x1, rfl, hy1.below hb, hx1.below hb⟩ h3 h1 h2, hb⟩
theorem fzero_q {w : World} {v : Value} {p : Rat} (hp : FQ w v p) :
  Calls Tryz.prog 72 #[v] w fun e w' => e = .returned (.bool (decide (p = 0))) ∧ Below w.heap.size w w' := by
 obtain ⟨x1, y1, rfl, hx1, hy1⟩ := hp
 refine (fzero_any hx1 hy1).mono ?_
 rintro e w' ⟨rfl, hb⟩
 exact ⟨by rw [show zeroB (tp p) = decide (p = 0) from decide_eq_decide.2 (zero_parts p)], hb⟩
def wQ (q : Rat) : ByteArray × Nat := wR (ng q) (tp q) q.den
theorem wQ_ok {q : Rat} (h : QOk q) : wQ q = (qstr q, 0) := wR_ok h
theorem write_q {w : World} {v : Value} {q : Rat} (h : FQ w v q) (l : QL 1000000 q) (htab : Tab w) :
  Calls Tryz.prog 67 #[v] w fun e w' => e = .returned (.tuple #[.string (wQ q).1, .int .i64 ((wQ q).2 : Int)]) ∧ Below w.heap.size w w' := by
 obtain ⟨x1, y1, rfl, hx1, hy1⟩ := h
 exact write_any hx1 hy1 l.1 l.2 htab
end Go.Proofs.YtjpepjooefkbkaaGreatDoor
