/-
  MomentPure: the two distributions on two outcomes that differ by exactly a factor.
-/
import Derived.Test.YtjpepjooefkbkaaGreatDoorH17
namespace Go.Proofs.YtjpepjooefkbkaaGreatDoor
open Go.RowKit NV Go.Maps Go.Sort Go.Shelf
open Go.Lib (decDigits)
def kX : ByteArray := ⟨#[120]⟩
def kY : ByteArray := ⟨#[121]⟩
def twoL (a b : Rat) : List MI := tZ [(kX, a), (kY, b)]
theorem two_q0 (a b : Rat) : qZ (twoL a b) 0 = a := ratS_q a
theorem two_q1 (a b : Rat) : qZ (twoL a b) 1 = b := ratS_q b
theorem two_len (a b : Rat) : (twoL a b).length = 2 := rfl
theorem two_key {a b c d : Rat} {i : Nat} (hi : i < 2) : kZ (getZ (twoL a b) i) = kZ (getZ (twoL c d) i) := by
 rcases (show i = 0 ∨ i = 1 by omega) with rfl | rfl <;> rfl
theorem two_good {a b : Rat} (oa : QOk a) (ob : QOk b) (a0 : 0 < a) (b0 : 0 < b) : GoodQ [(kX, a), (kY, b)] := by
 refine ⟨?_, fun x hx => ?_, fun x hx => ?_⟩
 ·unfold SrtQ
  rw [List.pairwise_cons]
  refine ⟨fun y hy => ?_, List.pairwise_singleton _ _⟩
  obtain rfl : y = (kY, b) := by simpa using hy
  show kQ (kX, (0 : Rat)) < kQ (kY, (0 : Rat))
  decide
 ·simp only [List.mem_cons, List.not_mem_nil, or_false] at hx
  rcases hx with rfl | rfl
  ·exact oa
  ·exact ob
 ·simp only [List.mem_cons, List.not_mem_nil, or_false] at hx
  rcases hx with rfl | rfl
  ·exact a0
  ·exact b0
theorem two_chk {a b : Rat} (oa : QOk a) (ob : QOk b) (a0 : 0 < a) (b0 : 0 < b) (h : a + b = 1) : chkZ (twoL a b) = 0 := by
 have hg := chk_good (two_good oa ob a0 b0)
 have hs : sumD [(kX, a), (kY, b)] = 0 := by
  unfold sumD sumE
  have hr : runO (addS (qZ (tZ [(kX, a), (kY, b)]))) 0 2 = some (sm (qZ (tZ [(kX, a), (kY, b)])) 2) := runO_sm fun k hk => by
   unfold addS
   refine okQ_yes ?_
   rcases (show k = 0 ∨ k = 1 by omega) with rfl | rfl
   ·rw [show sm (qZ (tZ [(kX, a), (kY, b)])) 0 = 0 from rfl, show qZ (tZ [(kX, a), (kY, b)]) 0 = a from ratS_q a, Rat.zero_add]
    exact oa
   ·rw [show sm (qZ (tZ [(kX, a), (kY, b)])) 1 = 0 + qZ (tZ [(kX, a), (kY, b)]) 0 from rfl, show qZ (tZ [(kX, a), (kY, b)]) 0 = a from ratS_q a, show qZ (tZ [(kX, a), (kY, b)]) 1 = b from ratS_q b, Rat.zero_add, h]
    exact o1Q
  have hv : sm (qZ (tZ [(kX, a), (kY, b)])) 2 = 1 := by
   rw [show sm (qZ (tZ [(kX, a), (kY, b)])) 2 = 0 + qZ (tZ [(kX, a), (kY, b)]) 0 + qZ (tZ [(kX, a), (kY, b)]) 1 from rfl, show qZ (tZ [(kX, a), (kY, b)]) 0 = a from ratS_q a, show qZ (tZ [(kX, a), (kY, b)]) 1 = b from ratS_q b, Rat.zero_add, h]
  show (match runO (addS (qZ (tZ [(kX, a), (kY, b)]))) 0 2 with | none => 5 | some s => if s = 1 then 0 else 15) = 0
  rw [hr, hv]
  rfl
 exact hg.trans hs
theorem two_all (a b c d : Rat) : allZ (twoL a b) (twoL c d) = true := rfl
theorem two_v {a b c d : Rat} (h : DiL (twoL c d)) {i : Nat} (hi : i < 2) : vQ (twoL c d) (kZ (getZ (twoL a b) i)) = qZ (twoL c d) i := by
 rw [two_key (c := c) (d := d) hi]
 exact vQ_get h.srt hi
theorem two_momQ {a b c d : Rat} (h : DiL (twoL c d)) (m : Nat) : momQ (twoL a b) (twoL c d) m = qpV m a c + qpV m b d := by
 have h0 := two_v (a := a) (b := b) h (i := 0) (by omega)
 have h1 := two_v (a := a) (b := b) h (i := 1) (by omega)
 unfold momQ
 rw [two_len]
 show 0 + qpV m (qZ (twoL a b) 0) (vQ (twoL c d) (kZ (getZ (twoL a b) 0))) + qpV m (qZ (twoL a b) 1) (vQ (twoL c d) (kZ (getZ (twoL a b) 1))) = _
 rw [h0, h1, two_q0, two_q1, two_q0, two_q1, Rat.zero_add]
theorem momF_yes {m : Nat} {s x y : Rat} (h1 : QOk (x ^ (m + 1))) (h2 : QOk (y ^ m)) (h3 : QOk (qpV m x y)) (h4 : QOk (s + qpV m x y)) : momF m s x y = some (s + qpV m x y) := by
 unfold momF qpO
 rw [okQ_yes h1]
 show (((okQ (y ^ m)).bind fun b => okQ (x ^ (m + 1) * b⁻¹)).bind fun d => okQ (s + d)) = _
 rw [okQ_yes h2]
 show ((okQ (x ^ (m + 1) * (y ^ m)⁻¹)).bind fun d => okQ (s + d)) = _
 rw [okQ_yes (show QOk (x ^ (m + 1) * (y ^ m)⁻¹) from h3)]
 exact okQ_yes h4
theorem two_mom1 {a b c d : Rat} (hcp : chkZ (twoL a b) = 0) (hcq : chkZ (twoL c d) = 0) (sa : Sz 20 a) (sb : Sz 20 b) (sc : Sz 20 c) (sd : Sz 20 d) {k : Nat} (hk : k < 7) :
  momE (twoL a b) (twoL c d) ((k : Int) + 2) = (qstr (momQ (twoL a b) (twoL c d) (k + 1)), true, 0) ∧ QOk (momQ (twoL a b) (twoL c d) (k + 1)) := by
 have hq := DiL.of hcq
 have p : ∀ x, Sz 20 x → ∀ n, n ≤ 8 → Sz 161 (x ^ n) := fun x hx n hn => (pow_szM hx (by omega) n).mono (by omega)
 have v : ∀ x y, Sz 20 x → Sz 20 y → Sz 323 (qpV (k + 1) x y) := fun x y hx hy => ((p x hx (k + 1 + 1) (by omega)).mul (p y hy (k + 1) (by omega)).inv).mono (by omega)
 have s1 := v a c sa sc
 have s2 := v b d sb sd
 have s3 := s1.add s2
 have e := two_momQ (a := a) (b := b) hq (k + 1)
 have hr : cmpO (momF (k + 1)) (twoL a b) (twoL c d) = some (momQ (twoL a b) (twoL c d) (k + 1)) := by
  unfold cmpO momQ
  rw [two_len]
  refine runO_sm fun i hi => ?_
  have hv := two_v (a := a) (b := b) hq hi
  rw [hv]
  rcases (show i = 0 ∨ i = 1 by omega) with rfl | rfl
  ·show momF (k + 1) 0 (qZ (twoL a b) 0) (qZ (twoL c d) 0) = some (0 + qpV (k + 1) (qZ (twoL a b) 0) (qZ (twoL c d) 0))
   rw [two_q0, two_q0]
   exact momF_yes ((p a sa _ (by omega)).qok (by omega) (by omega)) ((p c sc _ (by omega)).qok (by omega) (by omega)) (s1.qok (by omega) (by omega)) (by rw [Rat.zero_add]; exact s1.qok (by omega) (by omega))
  ·have hv0 := two_v (a := a) (b := b) hq (i := 0) (by omega)
   show momF (k + 1) (0 + qpV (k + 1) (qZ (twoL a b) 0) (vQ (twoL c d) (kZ (getZ (twoL a b) 0)))) (qZ (twoL a b) 1) (qZ (twoL c d) 1) = some (0 + qpV (k + 1) (qZ (twoL a b) 0) (vQ (twoL c d) (kZ (getZ (twoL a b) 0))) + qpV (k + 1) (qZ (twoL a b) 1) (qZ (twoL c d) 1))
   rw [hv0, two_q0, two_q0, two_q1, two_q1, Rat.zero_add]
   exact momF_yes ((p b sb _ (by omega)).qok (by omega) (by omega)) ((p d sd _ (by omega)).qok (by omega) (by omega)) (s2.qok (by omega) (by omega)) (s3.qok (by omega) (by omega))
 refine ⟨?_, by rw [e]; exact s3.qok (by omega) (by omega)⟩
 unfold momE
 rw [if_neg (by unfold bE; rw [hcp, hcq]; simp), if_neg (by omega), show ((k : Int) + 2 - 1).toNat = k + 1 by omega]
 unfold cmpR
 rw [if_pos (two_all a b c d), hr]
 rfl
theorem two_curve {f s l : Rat} (f1 : 1 ≤ f) (hs : s = (f + 1)⁻¹) (hl : l = 1 - s) (dp : DiL (twoL l s)) (dq : DiL (twoL s l)) (k : Nat) : curM (twoL l s) (twoL s l) k = ofM f k := by
 unfold curM
 rw [two_momQ dq, two_momQ dp, two_mom f1 hs hl, Rat.add_comm (qpV (k + 1) s l), two_mom f1 hs hl]
 exact mxQ_of_le Rat.le_refl
theorem two_nums {f s l : Rat} (f1 : 1 ≤ f) (sf : Sz 12 f) (hs : s = (f + 1)⁻¹) (hl : l = 1 - s) : Sz 20 s ∧ Sz 20 l ∧ 0 < s ∧ 0 < l ∧ l + s = 1 := by
 have s1 : Sz 14 (f + 1) := (sf.add (j := 1) ⟨by decide, by decide⟩).mono (by omega)
 have s2 : Sz 15 s := by rw [hs]; exact s1.inv
 have s3 : Sz 17 l := by rw [hl]; exact (Sz.sub (i := 1) ⟨by decide, by decide⟩ s2).mono (by omega)
 have hg : (f + 1) ≠ 0 := by grind
 have hc := Rat.mul_inv_cancel _ hg
 rw [← hs] at hc
 have hs0 : 0 < s := by rw [hs]; exact Rat.inv_pos.2 (by grind)
 have hlf : l = f * s := by rw [hl]; grind
 exact ⟨s2.mono (by omega), s3.mono (by omega), hs0, by rw [hlf]; exact Rat.mul_pos (by grind) hs0, by rw [hl]; grind⟩
end Go.Proofs.YtjpepjooefkbkaaGreatDoor
