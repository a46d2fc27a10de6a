/-
  The mathematics of products, chains and late outcomes; what Make makes of masses that add up to 1. Package loss: Holds.
-/
import Derived.Test.YtkponlbpgmnpgaaGreatDoorLO
import Derived.Test.YtkponlbpgmnpgaaGreatDoorZF
namespace Go.Proofs.YtkponlbpgmnpgaaGreatDoor
section
open Go.RowKit NV Go.Maps Go.Sort Go.Shelf
open Go.Lib (decDigits)
def ks2 (P R : List MI) (φ : List UInt8 → List UInt8 → Rat) : Rat := ks P (fun u => ks R (fun v => φ u v) R.length) P.length
theorem ks_le {L : List MI} {φ ψ : List UInt8 → Rat} {n : Nat} (h : ∀ k, φ k ≤ ψ k) : ks L φ n ≤ ks L ψ n := sm_le fun _ _ => h _
theorem ks_nn {L : List MI} {φ : List UInt8 → Rat} {n : Nat} (h : ∀ k, 0 ≤ φ k) : 0 ≤ ks L φ n := sm_nonneg fun _ _ => h _
theorem ks2_le {P R : List MI} {φ ψ : List UInt8 → List UInt8 → Rat} (h : ∀ u v, φ u v ≤ ψ u v) : ks2 P R φ ≤ ks2 P R ψ := ks_le fun u => ks_le fun v => h u v
theorem sm_swap {g : Nat → Nat → Rat} {m : Nat} : ∀ {n : Nat}, sm (fun i => sm (fun j => g i j) m) n = sm (fun j => sm (fun i => g i j) n) m
 | 0 => sm_zero.symm
 | n + 1 => by
  show sm (fun i => sm (fun j => g i j) m) n + sm (fun j => g n j) m = sm (fun j => sm (fun i => g i j) n + g n j) m
  rw [sm_add, sm_swap]
theorem mx0_sm {g : Nat → Rat} : ∀ {n : Nat}, mx0 (sm g n) ≤ sm (fun i => mx0 (g i)) n
 | 0 => by show mx0 0 ≤ 0; unfold mx0; grind
 | n + 1 => by
  have h1 := mx0_sm (g := g) (n := n)
  have h2 := mx0_add (a := sm g n) (b := g n)
  show mx0 (sm g n + g n) ≤ sm (fun i => mx0 (g i)) n + mx0 (g n)
  grind
theorem mx0_ks2 {P R : List MI} {φ : List UInt8 → List UInt8 → Rat} : mx0 (ks2 P R φ) ≤ ks2 P R (fun u v => mx0 (φ u v)) :=
 Rat.le_trans mx0_sm (sm_le fun _ _ => mx0_sm)
theorem key_once {X : List MI} {κ : List UInt8} {c : Rat} (hs : SrtZ X) (hc : 0 ≤ c) : ∀ {n : Nat}, n ≤ X.length → sm (fun i => if kZ (getZ X i) = κ then c else 0) n ≤ c
 | 0, _ => hc
 | n + 1, hn => by
  show sm (fun i => if kZ (getZ X i) = κ then c else 0) n + (if kZ (getZ X n) = κ then c else 0) ≤ c
  by_cases h : kZ (getZ X n) = κ
  ·have h0 : sm (fun i => if kZ (getZ X i) = κ then c else 0) n = 0 := by
    refine (sm_eq (h := fun _ => 0) fun i hi => if_neg fun e => ?_).trans sm_zero
    exact srt_get hs hi (by omega) (e.trans h.symm)
   rw [h0, if_pos h, Rat.zero_add]; exact Rat.le_refl
  ·rw [if_neg h, Rat.add_zero]
   exact key_once hs hc (by omega)
theorem key_in {X : List MI} {κ : List UInt8} {c : Rat} (hs : SrtZ X) (hc : 0 ≤ c) (hh : hasZ κ X = true) : sm (fun i => if kZ (getZ X i) = κ then c else 0) X.length = c := by
 refine Rat.le_antisymm (key_once hs hc (Nat.le_refl _)) ?_
 obtain ⟨j, hj, e⟩ := has_get hh
 have h0 : ∀ i, i < X.length → 0 ≤ (if kZ (getZ X i) = κ then c else 0) := fun i _ => by
  by_cases h : kZ (getZ X i) = κ
  ·rw [if_pos h]; exact hc
  ·rw [if_neg h]; exact Rat.le_refl
 have h1 := sm_one_le h0 hj
 rw [if_pos e] at h1
 exact h1
theorem ks_pairs {X P R : List MI} {φ : List UInt8 → List UInt8 → Rat} {J : List UInt8 → List UInt8 → List UInt8} {n : Nat} : ks X (fun k => ks2 P R (fun u v => if k = J u v then φ u v else 0)) n = ks2 P R (fun u v => sm (fun i => if kZ (getZ X i) = J u v then φ u v else 0) n) := by
 unfold ks2 ks
 rw [sm_swap]
 exact sm_eq fun i _ => sm_swap
theorem ks_pairs_le {X P R : List MI} {φ : List UInt8 → List UInt8 → Rat} {J : List UInt8 → List UInt8 → List UInt8} (hs : SrtZ X) (h0 : ∀ u v, 0 ≤ φ u v) : ks X (fun k => ks2 P R (fun u v => if k = J u v then φ u v else 0)) X.length ≤ ks2 P R φ := by
 rw [ks_pairs]
 exact ks2_le fun u v => key_once hs (h0 u v) (Nat.le_refl _)
theorem inject2 {P Q R T : List MI} {φ : List UInt8 → List UInt8 → Rat} (hP : SrtZ P) (hR : SrtZ R) (h0 : ∀ u v, 0 ≤ φ u v) (h1 : ∀ u v, hasZ u Q = false → φ u v = 0) (h2 : ∀ u v, hasZ v T = false → φ u v = 0) : ks2 P R φ ≤ ks2 Q T φ := by
 have a1 : ks2 P R φ ≤ ks2 P T φ := ks_le fun u => inject hR (Nat.le_refl _) (fun v => h0 u v) (fun v hv => h2 u v hv)
 refine Rat.le_trans a1 (inject hP (Nat.le_refl _) (fun u => ks_nn fun v => h0 u v) fun u hu => ?_)
 exact (sm_eq fun i _ => h1 u _ hu).trans sm_zero
theorem prod_le {a b c d f g : Rat} (ha : 0 ≤ a) (hb : 0 ≤ b) (hc : 0 ≤ c) (hd : 0 ≤ d) (hf : 0 ≤ f) (hg : 0 ≤ g) : mx0 (a * c - f * g * (b * d)) ≤ mx0 (a - f * b) * c + a * mx0 (c - g * d) := by
 have n1 := Rat.mul_nonneg (mx0_nonneg (a - f * b)) hc
 have n2 := Rat.mul_nonneg ha (mx0_nonneg (c - g * d))
 have h : a * c - f * g * (b * d) ≤ mx0 (a - f * b) * c + a * mx0 (c - g * d) := by
  have hfb := Rat.mul_nonneg hf hb
  have hgd := Rat.mul_nonneg hg hd
  have e : f * g * (b * d) = (f * b) * (g * d) := by grind
  rw [e]
  generalize f * b = x at *
  generalize g * d = y at *
  have m1 := mx0_ge (a - x)
  have m2 := mx0_ge (c - y)
  have m3 := mx0_nonneg (a - x)
  have m4 := mx0_nonneg (c - y)
  by_cases hx : a ≤ x
  ·have h1 := Rat.mul_nonneg ha (show 0 ≤ mx0 (c - y) - (c - y) by grind)
   have h2 := Rat.mul_nonneg (show 0 ≤ x - a by grind) hgd
   have e1 : a * (mx0 (c - y) - (c - y)) = a * mx0 (c - y) - (a * c - a * y) := by grind
   have e2 : (x - a) * y = x * y - a * y := by grind
   rw [e1] at h1
   rw [e2] at h2
   grind
  ·have h1 := Rat.mul_nonneg (show 0 ≤ mx0 (a - x) - (a - x) by grind) hc
   have h2 := Rat.mul_nonneg hfb (show 0 ≤ mx0 (c - y) - (c - y) by grind)
   have h3 := Rat.mul_nonneg (show 0 ≤ a - x by grind) m4
   have e1 : (mx0 (a - x) - (a - x)) * c = mx0 (a - x) * c - (a * c - x * c) := by grind
   have e2 : x * (mx0 (c - y) - (c - y)) = x * mx0 (c - y) - (x * c - x * y) := by grind
   have e3 : (a - x) * mx0 (c - y) = a * mx0 (c - y) - x * mx0 (c - y) := by grind
   rw [e1] at h1
   rw [e2] at h2
   rw [e3] at h3
   grind
 have n3 : 0 ≤ mx0 (a - f * b) * c + a * mx0 (c - g * d) := by
  generalize mx0 (a - f * b) * c = y1 at *
  generalize a * mx0 (c - g * d) = y2 at *
  grind
 generalize mx0 (a - f * b) * c + a * mx0 (c - g * d) = z at *
 unfold mx0
 split
 ·exact h
 ·exact n3
theorem dl_prod {P Q R T X Y : List MI} {f g : Rat} {J : List UInt8 → List UInt8 → List UInt8} (hP : DiL P) (hQ : DiL Q) (hR : DiL R) (hT : DiL T) (hX : DiL X) (hf : 0 ≤ f) (hg : 0 ≤ g)
  (vx : ∀ k, vQ X k = ks2 P R (fun u v => if k = J u v then vQ P u * vQ R v else 0)) (vy : ∀ k, vQ Y k = ks2 Q T (fun u v => if k = J u v then vQ Q u * vQ T v else 0)) : dl X Y (f * g) ≤ dl P Q f + dl R T g := by
 have hle : ∀ k, mx0 (vQ X k - f * g * vQ Y k) ≤ ks2 P R (fun u v => if k = J u v then mx0 (vQ P u * vQ R v - f * g * (vQ Q u * vQ T v)) else 0) := fun k => by
  have h1 : ks2 P R (fun u v => if k = J u v then vQ Q u * vQ T v else 0) ≤ vQ Y k := by
   rw [vy]
   refine inject2 hP.srt hR.srt (fun u v => ?_) (fun u v hu => ?_) (fun u v hv => ?_)
   ·split
    ·exact Rat.mul_nonneg (hQ.nn u) (hT.nn v)
    ·exact Rat.le_refl
   ·rw [vQ_out hu, Rat.zero_mul]; split <;> rfl
   ·rw [vQ_out hv, Rat.mul_zero]; split <;> rfl
  have h2 := Rat.mul_nonneg (Rat.mul_nonneg hf hg) (show 0 ≤ vQ Y k - ks2 P R (fun u v => if k = J u v then vQ Q u * vQ T v else 0) by grind)
  have h3 : ks2 P R (fun u v => (if k = J u v then vQ P u * vQ R v - f * g * (vQ Q u * vQ T v) else 0)) = vQ X k - f * g * ks2 P R (fun u v => if k = J u v then vQ Q u * vQ T v else 0) := by
   rw [vx]
   unfold ks2 ks
   rw [← sm_mul]
   have e : ∀ (a b c : Rat), a + c = b → a = b - c := by intro a b c h; grind
   refine e _ _ _ ?_
   rw [← sm_add]
   refine sm_eq fun i _ => ?_
   show sm _ _ + f * g * sm _ _ = sm _ _
   rw [← sm_mul, ← sm_add]
   refine sm_eq fun j _ => ?_
   show (if _ then _ else _) + f * g * (if _ then _ else _) = (if _ then _ else _)
   split
   ·grind
   ·grind
  have h4 : mx0 (vQ X k - f * g * vQ Y k) ≤ mx0 (ks2 P R (fun u v => (if k = J u v then vQ P u * vQ R v - f * g * (vQ Q u * vQ T v) else 0))) := by
   rw [h3]
   have e2 : f * g * (vQ Y k - ks2 P R (fun u v => if k = J u v then vQ Q u * vQ T v else 0)) = f * g * vQ Y k - f * g * ks2 P R (fun u v => if k = J u v then vQ Q u * vQ T v else 0) := by grind
   rw [e2] at h2
   unfold mx0
   grind
  refine Rat.le_trans h4 (Rat.le_trans mx0_ks2 (ks2_le fun u v => ?_))
  split
  ·exact Rat.le_refl
  ·unfold mx0; grind
 rw [dl_ks hX]
 refine Rat.le_trans (ks_le hle) (Rat.le_trans (ks_pairs_le hX.srt fun u v => mx0_nonneg _) ?_)
 refine Rat.le_trans (ks2_le (ψ := fun u v => mx0 (vQ P u - f * vQ Q u) * vQ R v + vQ P u * mx0 (vQ R v - g * vQ T v)) fun u v => prod_le (hP.nn u) (hQ.nn u) (hR.nn v) (hT.nn v) hf hg) ?_
 have e1 : ks2 P R (fun u v => mx0 (vQ P u - f * vQ Q u) * vQ R v + vQ P u * mx0 (vQ R v - g * vQ T v)) = dl P Q f + dl R T g := by
  rw [dl_ks hP, dl_ks hR]
  have h1 := hR.kone
  have h2 := hP.kone
  unfold ks2
  have e2 : ∀ u, ks R (fun v => mx0 (vQ P u - f * vQ Q u) * vQ R v + vQ P u * mx0 (vQ R v - g * vQ T v)) R.length = mx0 (vQ P u - f * vQ Q u) + ks R (fun v => mx0 (vQ R v - g * vQ T v)) R.length * vQ P u := fun u => by
   unfold ks at h1 ⊢
   rw [sm_add, sm_mul, sm_mul, h1]
   grind
  unfold ks at h1 h2 e2 ⊢
  rw [sm_eq (fun i _ => e2 _), sm_add, sm_mul, h2, Rat.mul_one]
 rw [e1]
 exact Rat.le_refl
theorem kv_sum {X l : List MI} (hs : SrtZ X) (hv : ∀ k, vQ X k = kv l k l.length) (h0 : ∀ i, i < l.length → 0 ≤ qZ l i) : sm (qZ X) X.length = sm (qZ l) l.length := by
 have e0 : sm (qZ X) X.length = sm (fun i => sm (fun j => if kZ (getZ X i) = kZ (getZ l j) then qZ l j else 0) l.length) X.length :=
  sm_eq fun i hi => by
   rw [← vQ_get hs hi, hv]
   exact sm_eq fun j _ => by
    by_cases h : kZ (getZ l j) = kZ (getZ X i)
    ·rw [if_pos h, if_pos h.symm]
    ·rw [if_neg h, if_neg (fun e => h e.symm)]
 rw [e0, sm_swap]
 refine sm_eq fun j hj => ?_
 cases hh : hasZ (kZ (getZ l j)) X with
 | true => exact key_in hs (h0 j hj) hh
 | false =>
  have h1 := hv (kZ (getZ l j))
  rw [vQ_out hh] at h1
  have h2 : ∀ i, i < l.length → 0 ≤ (if kZ (getZ l i) = kZ (getZ l j) then qZ l i else 0) := fun i hi => by
   by_cases h : kZ (getZ l i) = kZ (getZ l j)
   ·rw [if_pos h]; exact h0 i hi
   ·rw [if_neg h]; exact Rat.le_refl
  have h3 := sm_one_le h2 hj
  rw [if_pos rfl] at h3
  have h4 : qZ l j = 0 := Rat.le_antisymm (Rat.le_trans h3 (by rw [show sm (fun i => if kZ (getZ l i) = kZ (getZ l j) then qZ l i else 0) l.length = kv l (kZ (getZ l j)) l.length from rfl, ← h1]; exact Rat.le_refl)) (h0 j hj)
  rw [h4]
  refine (sm_eq (h := fun _ => 0) fun i _ => ?_).trans sm_zero
  by_cases h : kZ (getZ X i) = kZ (getZ l j)
  ·rw [if_pos h]
  ·rw [if_neg h]
theorem dl_chain {P Q R : List MI} {f g : Rat} (hp : DiL P) (hq : DiL Q) (hr : DiL R) (hf : 0 ≤ f) (hg : 0 ≤ g) : dl P R (f * g) ≤ dl P Q f + f * dl Q R g := by
 have h1 : ks P (fun k => mx0 (vQ Q k - g * vQ R k)) P.length ≤ ks Q (fun k => mx0 (vQ Q k - g * vQ R k)) Q.length :=
  inject hp.srt (Nat.le_refl _) (fun k => mx0_nonneg _) (fun k h => by
   have h2 := vQ_out h
   have h3 := Rat.mul_nonneg hg (hr.nn k)
   show mx0 (vQ Q k - g * vQ R k) = 0
   unfold mx0
   grind)
 rw [← dl_ks hq] at h1
 have h4 := Rat.mul_nonneg hf (show 0 ≤ dl Q R g - ks P (fun k => mx0 (vQ Q k - g * vQ R k)) P.length by grind)
 have h2 : dl P R (f * g) ≤ dl P Q f + f * ks P (fun k => mx0 (vQ Q k - g * vQ R k)) P.length := by
  rw [dl_ks hp, dl_ks hp]
  unfold ks
  rw [← sm_mul]
  refine Rat.le_trans (sm_le (h := fun i => mx0 (vQ P (kZ (getZ P i)) - f * vQ Q (kZ (getZ P i))) + f * mx0 (vQ Q (kZ (getZ P i)) - g * vQ R (kZ (getZ P i)))) fun i _ => ?_) (by rw [sm_add]; exact Rat.le_refl)
  generalize kZ (getZ P i) = k
  show mx0 (vQ P k - f * g * vQ R k) ≤ mx0 (vQ P k - f * vQ Q k) + f * mx0 (vQ Q k - g * vQ R k)
  have a1 := mx0_ge (vQ P k - f * vQ Q k)
  have a2 := Rat.mul_nonneg hf (show 0 ≤ mx0 (vQ Q k - g * vQ R k) - (vQ Q k - g * vQ R k) by have := mx0_ge (vQ Q k - g * vQ R k); grind)
  have a3 := Rat.mul_nonneg hf (mx0_nonneg (vQ Q k - g * vQ R k))
  have a4 := mx0_nonneg (vQ P k - f * vQ Q k)
  generalize mx0 (vQ P k - f * vQ Q k) = A at *
  generalize mx0 (vQ Q k - g * vQ R k) = B at *
  unfold mx0
  grind
 grind
theorem pow_nn {f : Rat} (hf : 0 ≤ f) : ∀ n : Nat, 0 ≤ f ^ n
 | 0 => by rw [Rat.pow_zero]; decide
 | n + 1 => by rw [Rat.pow_succ]; exact Rat.mul_nonneg (pow_nn hf n) hf
theorem dl_group {Q : Nat → List MI} {f d : Rat} (hf : 0 ≤ f) : ∀ {n : Nat}, (∀ i, i ≤ n → DiL (Q i)) → (∀ i, i < n → dl (Q i) (Q (i + 1)) f ≤ d) → dl (Q 0) (Q n) (f ^ n) ≤ d * gs f n
 | 0, h, _ => by
  rw [Rat.pow_zero, show gs f 0 = 0 from rfl, Rat.mul_zero, dl_ks (h 0 (Nat.le_refl _))]
  refine Rat.le_trans (sm_le (h := fun _ => 0) fun i _ => ?_) (by rw [sm_zero]; exact Rat.le_refl)
  unfold mx0
  grind
 | n + 1, h, hd => by
  have ih := dl_group hf (n := n) (fun i hi => h i (by omega)) (fun i hi => hd i (by omega))
  have h1 := dl_chain (h 0 (by omega)) (h n (by omega)) (h (n + 1) (Nat.le_refl _)) (pow_nn hf n) hf
  have h2 := hd n (by omega)
  have h3 := Rat.mul_nonneg (pow_nn hf n) (show 0 ≤ d - dl (Q n) (Q (n + 1)) f by grind)
  rw [← Rat.pow_succ] at h1
  rw [show gs f (n + 1) = gs f n + f ^ n from rfl]
  grind
theorem dl_late {P Q X Y : List MI} {f u U V : Rat} {a b : List UInt8 → Rat} {κ : List UInt8} (hp : DiL P) (hq : DiL Q) (hx : DiL X) (hf : 0 ≤ f) (vx : ∀ k, vQ X k = vQ P k - a k + if k = κ then U else 0) (vy : ∀ k, vQ Y k = vQ Q k - b k + if k = κ then V else 0) (a0 : ∀ k, 0 ≤ a k) (b0 : ∀ k, 0 ≤ b k) (hb : ks X b X.length ≤ V) (hU0 : 0 ≤ U) (hV0 : 0 ≤ V) (hU : U ≤ u) (hV : V ≤ u) :
  dl X Y f ≤ dl P Q f + (f + 1) * u := by
 have h1 : ks X (fun k => mx0 (vQ P k - f * vQ Q k)) X.length ≤ ks P (fun k => mx0 (vQ P k - f * vQ Q k)) P.length :=
  inject hx.srt (Nat.le_refl _) (fun k => mx0_nonneg _) (fun k h => by
   have h2 := vQ_out h
   have h3 := Rat.mul_nonneg hf (hq.nn k)
   show mx0 (vQ P k - f * vQ Q k) = 0
   unfold mx0
   grind)
 rw [← dl_ks hp] at h1
 have h2 := key_once (κ := κ) hx.srt hU0 (Nat.le_refl _)
 have h3 : dl X Y f ≤ ks X (fun k => mx0 (vQ P k - f * vQ Q k)) X.length + (f * ks X b X.length + sm (fun i => if kZ (getZ X i) = κ then U else 0) X.length) := by
  rw [dl_ks hx]
  unfold ks
  rw [← sm_mul, ← sm_add, ← sm_add]
  refine sm_le fun i _ => ?_
  generalize kZ (getZ X i) = k
  show mx0 (vQ X k - f * vQ Y k) ≤ mx0 (vQ P k - f * vQ Q k) + (f * b k + if k = κ then U else 0)
  have c1 := mx0_ge (vQ P k - f * vQ Q k)
  have c2 := mx0_nonneg (vQ P k - f * vQ Q k)
  have c3 := Rat.mul_nonneg hf (b0 k)
  have c4 := a0 k
  have c5 := Rat.mul_nonneg hf hV0
  rw [vx, vy]
  by_cases h : k = κ
  ·rw [if_pos h, if_pos h]
   generalize mx0 (vQ P k - f * vQ Q k) = A at *
   unfold mx0
   grind
  ·rw [if_neg h, if_neg h]
   generalize mx0 (vQ P k - f * vQ Q k) = A at *
   unfold mx0
   grind
 have h4 := Rat.mul_nonneg hf (show 0 ≤ u - ks X b X.length by grind)
 have h5 : (f + 1) * u = f * u + u := by grind
 grind
theorem kv_app {s t : List MI} {k : List UInt8} : kv (s ++ t) k (s ++ t).length = kv s k s.length + kv t k t.length := by
 rw [List.length_append]
 unfold kv
 rw [sm_split]
 have e1 : sm (fun i => if kZ (getZ (s ++ t) i) = k then qZ (s ++ t) i else 0) s.length = sm (fun i => if kZ (getZ s i) = k then qZ s i else 0) s.length := sm_eq fun i hi => by
  show (if kZ (getZ (s ++ t) i) = k then ratS (getZ (s ++ t) i).2 else 0) = _
  rw [getZ_left hi]; rfl
 have e2 : sm (fun i => if kZ (getZ (s ++ t) (s.length + i)) = k then qZ (s ++ t) (s.length + i) else 0) t.length = sm (fun i => if kZ (getZ t i) = k then qZ t i else 0) t.length := sm_eq fun i _ => by
  show (if kZ (getZ (s ++ t) (s.length + i)) = k then ratS (getZ (s ++ t) (s.length + i)).2 else 0) = _
  rw [getZ_right]; rfl
 rw [e1, e2]
theorem sum_app {s t : List MI} : sm (qZ (s ++ t)) (s ++ t).length = sm (qZ s) s.length + sm (qZ t) t.length := by
 rw [List.length_append, sm_split]
 have e1 : sm (qZ (s ++ t)) s.length = sm (qZ s) s.length := sm_eq fun i hi => by
  show ratS (getZ (s ++ t) i).2 = _
  rw [getZ_left hi]; rfl
 have e2 : sm (fun i => qZ (s ++ t) (s.length + i)) t.length = sm (qZ t) t.length := sm_eq fun i _ => by
  show ratS (getZ (s ++ t) (s.length + i)).2 = _
  rw [getZ_right]; rfl
 rw [e1, e2]
def FineL (D : Nat) (l : List MI) : Prop := ∀ x, x ∈ l → ∃ q, x.2 = qstr q ∧ QOk q ∧ 0 ≤ q ∧ Zd D q
theorem FineL.app {D : Nat} {s t : List MI} (h1 : FineL D s) (h2 : FineL D t) : FineL D (s ++ t) := fun x hx => (List.mem_append.1 hx).elim (h1 x) (h2 x)
theorem FineL.at {D : Nat} {l : List MI} (h : FineL D l) {i : Nat} (hi : i < l.length) : (getZ l i).2 = qstr (qZ l i) ∧ QOk (qZ l i) ∧ 0 ≤ qZ l i ∧ Zd D (qZ l i) := by
 obtain ⟨q, e, ho, h0, hz⟩ := h (l[i]) (List.getElem_mem hi)
 have hg := getZ_of (List.getElem?_eq_getElem hi)
 have hq : qZ l i = q := by
  unfold qZ
  rw [hg, e, ratS_q]
 rw [hq, hg]
 exact ⟨e, ho, h0, hz⟩
structure CollR (l : List MI) (D : Nat) (S : List QI) : Prop where
 col : colO l = some S
 mke : mkE l = 0
 good : GoodQ (outQ S)
 val : ∀ k, vQ (tZ (outQ S)) k = kv l k l.length
 chk : chkZ (tZ (outQ S)) = 0
 len : (outQ S).length ≤ l.length
 zd : ∀ k, Zd D (vQ (tZ (outQ S)) k)
theorem coll_ok {l : List MI} {D K : Nat} (hf : FineL D l) (hone : sm (qZ l) l.length = 1) (D0 : 0 < D) (hD : D < 10 ^ K) (hK0 : 0 < K) (hK : K ≤ 4000) : ∃ S, CollR l D S := by
 have hq : ∀ i, i < l.length → (getZ l i).2 = qstr (qZ l i) ∧ QOk (qZ l i) ∧ 0 ≤ qZ l i ∧ Zd D (qZ l i) := fun i hi => hf.at hi
 have hkv : ∀ k n, n ≤ l.length → 0 ≤ kv l k n ∧ kv l k n ≤ 1 ∧ Zd D (kv l k n) := fun k n hn => by
  have a0 : ∀ i, i < l.length → 0 ≤ (if kZ (getZ l i) = k then qZ l i else 0) := fun i hi => by
   by_cases hk : kZ (getZ l i) = k
   ·rw [if_pos hk]; exact (hq i hi).2.2.1
   ·rw [if_neg hk]; exact Rat.le_refl
  refine ⟨sm_nonneg fun i hi => a0 i (by omega), Rat.le_trans (sm_mono a0 hn) ?_, Zd.sm fun i hi => ?_⟩
  ·rw [← hone]
   exact sm_le fun i hi => by
    by_cases hk : kZ (getZ l i) = k
    ·rw [if_pos hk]; exact Rat.le_refl
    ·rw [if_neg hk]; exact (hq i hi).2.2.1
  ·by_cases hk : kZ (getZ l i) = k
   ·rw [if_pos hk]; exact (hq i (by omega)).2.2.2
   ·rw [if_neg hk]; exact Zd.zero _
 obtain ⟨S, hS⟩ := col_yes (L := l) (fun n hn => by
  obtain ⟨b1, b2, b3⟩ := hkv (kZ (getZ l n)) (n + 1) (by omega)
  exact (b3.sz b1 b2 D0 hD).qok (by omega) (by omega)) l.length (Nat.le_refl _)
 have hC : colO l = some S := hS
 have good := good_out (fun k hk => (hq k hk).2.2.1) hC
 have hI := ColI.run (Nat.le_refl _) hS
 have vx : ∀ k, vQ (tZ (outQ S)) k = kv l k l.length := fun k => by
  rw [vQ_t, look_out hI.srt, col_val hS]
 have hsx : SrtZ (tZ (outQ S)) := srt_t.2 good.srt
 have hone2 := kv_sum hsx vx (fun i hi => (hq i hi).2.2.1)
 rw [hone, tZ_len] at hone2
 have hzd : ∀ k, Zd D (vQ (tZ (outQ S)) k) := fun k => by rw [vx]; exact (hkv k _ (Nat.le_refl _)).2.2
 have hsum : sumD (outQ S) = 0 := by
  have hrun : runO (addS (qZ (tZ (outQ S)))) 0 (outQ S).length = some (sm (qZ (tZ (outQ S))) (outQ S).length) := by
   have p0 : ∀ i, i < (outQ S).length → 0 ≤ qZ (tZ (outQ S)) i ∧ Zd D (qZ (tZ (outQ S)) i) := fun i hi => by
    rw [← vQ_get hsx (by rw [tZ_len]; exact hi)]
    exact ⟨by rw [vx]; exact (hkv _ _ (Nat.le_refl _)).1, hzd _⟩
   refine runO_sm fun k hk => ?_
   unfold addS
   refine okQ_yes ?_
   show QOk (sm (qZ (tZ (outQ S))) (k + 1))
   have b1 : 0 ≤ sm (qZ (tZ (outQ S))) (k + 1) := sm_nonneg fun i hi => (p0 i (by omega)).1
   have b2 : sm (qZ (tZ (outQ S))) (k + 1) ≤ 1 := by rw [← hone2]; exact sm_mono (fun i hi => (p0 i hi).1) (by omega)
   exact (Zd.sz (Zd.sm fun i hi => (p0 i (by omega)).2) b1 b2 D0 hD).qok (by omega) (by omega)
  unfold sumD sumE
  rw [hrun, hone2]
  rfl
 refine ⟨S, hC, ?_, good, vx, by rw [chk_good good]; exact hsum, ?_, hzd⟩
 ·rw [mkE_col (fstE_zero fun k hk => by
   obtain ⟨e, ho, hq0, _⟩ := hq k hk
   unfold eN
   rw [e]
   exact eS_q ho hq0), hC]
  exact hsum
 ·have h2 := List.length_filter_le (fun x : QI => decide (x.2 ≠ 0)) S
  have h3 := hI.len
  show (S.filter _).length ≤ l.length
  omega
end

section
open Go.RowKit NV Go.Maps Go.Sort Go.Shelf
set_option maxHeartbeats 6400000 in
set_option maxRecDepth 100000 in
theorem holds_clo {f d x y m : ByteArray} {n : Int} {N M c1 c2 bl bp bq : Nat} {a1 a2 : Option Addr} {w : World} (h0 : w.cell? ⟨bl, 0, none⟩ = some (.string f)) (h1 : w.cell? ⟨bl, 1, none⟩ = some (.string d)) (hl : bl < w.heap.size)
  (hp : w.cell? ⟨bp, 0, none⟩ = some (.slice a1 N c1)) (hlp : bp < w.heap.size) (hq : w.cell? ⟨bq, 0, none⟩ = some (.slice a2 M c2)) (hlq : bq < w.heap.size)
  (k1 : ∀ W, Below w.heap.size w W → Calls Tryz.prog 109 #[.slice a1 N c1, .slice a2 M c2, .string f] W fun e w' => e = .returned (.tuple #[.string x, .int .i64 0]) ∧ Below W.heap.size W w')
  (k2 : ∀ W, Below w.heap.size w W → Calls Tryz.prog 109 #[.slice a2 M c2, .slice a1 N c1, .string f] W fun e w' => e = .returned (.tuple #[.string y, .int .i64 0]) ∧ Below W.heap.size W w')
  (k3 : ∀ W, Below w.heap.size w W → Calls Tryz.prog 110 #[.string x, .string y] W fun e w' => e = .returned (.tuple #[.string m, .int .i64 0]) ∧ Below W.heap.size W w')
  (k4 : ∀ W b, Below w.heap.size w W → SR W (some ⟨b, 0, none⟩) 1 [d] → Calls Tryz.prog 82 #[.string m, .slice (some ⟨b, 0, none⟩) 1 1] W (Er n W)) :
  Calls Tryz.prog 107 #[.pointer (some ⟨bp, 0, none⟩), .pointer (some ⟨bq, 0, none⟩), .pointer (some ⟨bl, 0, none⟩)] w (Does (.bool (n == 0)) 0 w) := by
 have HC := Lib.hid (fun W (hb : Below w.heap.size w W) => And.intro ((hb.cell (p := ⟨bl, 0, none⟩) hl).trans h0) (And.intro ((hb.cell (p := ⟨bl, 1, none⟩) hl).trans h1) (And.intro ((hb.cell (p := ⟨bp, 0, none⟩) hlp).trans hp) ((hb.cell (p := ⟨bq, 0, none⟩) hlq).trans hq))))
 have K1 := Lib.hid k1
 have K2 := Lib.hid k2
 have K3 := Lib.hid k3
 have K4 := Lib.hid k4
 obtain ⟨c0, _, cp, cq⟩ := HC.out w (Below.refl _ _)
 clear h1 hl hlp hlq k1 k2 k3 k4 h0 hp hq
 go_enter Tryz.func107, Tryz.ntmps107
 go_wp2_with fail
 refine (K1.out _ (Below.refl _ _)).mono ?_
 rintro e w1 ⟨rfl, hb⟩
 have HB1 := Lib.hid hb
 clear hb c0 cp cq K1
 go_wp2_with fail
 refine (must_ok _ _).mono ?_
 rintro e w2 ⟨rfl, hb⟩
 have HB2 := Lib.hid (HB1.out.trans (hb.mono HB1.out.size))
 clear hb HB1
 obtain ⟨c0, _, cp, cq⟩ := HC.out w2 HB2.out
 go_wp2_with fail
 refine (K2.out _ HB2.out).mono ?_
 rintro e w3 ⟨rfl, hb⟩
 have HB3 := Lib.hid (HB2.out.trans (hb.mono HB2.out.size))
 clear hb HB2 c0 cp cq K2
 go_wp2_with fail
 refine (must_ok _ _).mono ?_
 rintro e w4 ⟨rfl, hb⟩
 have HB4 := Lib.hid (HB3.out.trans (hb.mono HB3.out.size))
 clear hb HB3
 go_wp2_with fail
 refine wp_world (Below.refl w4.heap.size w4) (fun wx hbx => ?_)
 have HBX := Lib.hid (HB4.out.trans (hbx.mono HB4.out.size))
 have HQ := Lib.hid (show ∀ W, Below wx.heap.size wx W → Below w.heap.size w W ∧ W.cell? ⟨bl, 1, none⟩ = some (.string d) from fun W h => ⟨HBX.out.trans (h.mono HBX.out.size), (HC.out W (HBX.out.trans (h.mono HBX.out.size))).2.1⟩)
 clear hbx HC HB4
 refine wp_region_held (S := fun W => Below wx.heap.size wx W) (by kernel_rfl) ?_
 change wpAnyH _ _ _ _ _ 12 _ _ wx.drew
 have hD0 := (Below.refl wx.heap.size wx).drew
 generalize wx.drew = W at *
 refine wpHz_take (i := 0) (d := 22) (v := .string x) rfl rfl (by kernel_rfl) (by kernel_rfl) (by kernel_rfl) (fun _ _ _ h => h) rfl (fun W _ => by go_simp) hD0 ?_
 simp only [Act.put, sA, sB, sC]
 refine wpHz_take (i := 1) (d := 23) (v := .string y) rfl rfl (by kernel_rfl) (by kernel_rfl) (by kernel_rfl) (fun _ _ _ h => h) rfl (fun W _ => by go_simp) hD0 ?_
 simp only [Act.put, sA, sB, sC]
 refine wpHz_take (i := 6) (d := 28) (v := .pointer (some ⟨bl, 1, none⟩)) rfl rfl (by kernel_rfl) (by kernel_rfl) (by kernel_rfl) (fun _ _ _ h => h) rfl (fun W _ => by go_simp) hD0 ?_
 simp only [Act.put, sA, sB, sC]
 refine wpHz_take (i := 7) (d := 29) (v := .string d) rfl rfl (by kernel_rfl) (by kernel_rfl) (by kernel_rfl) (fun _ _ _ h => h) rfl (fun W hW => by have e0 := (HQ.out W hW).2; go_simp) hD0 ?_
 simp only [Act.put, sA, sB, sC]
 refine wpHz_two (i := 2) (j := 8) (by kernel_rfl) ?wa ?wb
 case' wa =>
  refine wpOz_run rfl rfl (wpz_enter (d := 24) rfl (by go_simp) ((K3.out _ (HQ.out _ hD0).1).mono ?_))
  rintro e u1 ⟨rfl, hb⟩
  have hD1 : Below wx.heap.size wx u1 := hD0.trans (hb.mono hD0.size)
  clear hb
  refine ⟨_, rfl, hD1, ?_⟩
  simp only [Act.put, sA, sB, sC]
  refine wpHz_take (i := 3) (d := 25) (v := .string m) rfl rfl (by kernel_rfl) (by kernel_rfl) (by kernel_rfl) (fun _ _ _ h => h) rfl (fun W _ => by go_simp) hD1 ?_
  simp only [Act.put, sA, sB, sC]
  refine wpHz_take (i := 4) (d := 26) (v := .int .i64 0) rfl rfl (by kernel_rfl) (by kernel_rfl) (by kernel_rfl) (fun _ _ _ h => h) rfl (fun W _ => by go_simp) hD1 ?_
  simp only [Act.put, sA, sB, sC]
  refine wpHz_two (i := 5) (j := 8) (by kernel_rfl) ?wc ?wd
 case' wc =>
  refine wpOz_run rfl rfl (wpz_enter (d := 27) rfl (by go_simp) ((must_ok m _).mono ?_))
  rintro e u2 ⟨rfl, hb⟩
  have hD2 : Below wx.heap.size wx u2 := hD1.trans (hb.mono hD1.size)
  clear hb
  refine ⟨_, rfl, hD2, ?_⟩
  simp only [Act.put, sA, sB, sC]
  refine wpHz_one (i := 8) (by kernel_rfl) ?_
  have hD3 := hD2.alloc hD2.size (.cells #[.string d] 22)
  have hS : SR (u2.alloc (.cells #[.string d] 22)) (some ⟨u2.heap.size, 0, none⟩) 1 [d] := SR.lit (w := u2) (xs := [d])
  refine wpOz_run rfl rfl (wpz_value (v := .slice (some ⟨u2.heap.size, 0, none⟩) 1 1) (w' := u2.alloc (.cells #[.string d] 22)) (d := 30) rfl (by go_simp) ⟨hD3, ?_⟩)
  simp only [Act.put, sA, sB, sC]
  generalize u2.heap.size = gz at hS ⊢
  generalize u2.alloc (.cells #[.string d] 22) = u3 at hS hD3 ⊢
  refine wpHz_one (i := 9) (by kernel_rfl) ?_
  refine wpOz_run rfl rfl (wpz_enter (d := 31) rfl (by go_simp) ((K4.out _ _ (HQ.out _ hD3).1 hS).mono ?_))
  rintro e v9 ⟨rfl, hb⟩
  have hD9 : Below wx.heap.size wx v9 := hD3.trans (hb.mono hD3.size)
  clear hb
  refine ⟨_, rfl, hD9, ?_⟩
  simp only [Act.put, sA, sB, sC]
  refine wpHz_take (i := 10) (d := 32) (v := .bool (n == 0)) rfl rfl (by kernel_rfl) (by kernel_rfl) (by kernel_rfl) (fun _ _ _ h => h) rfl (fun W _ => by go_simp) hD9 ?_
  simp only [Act.put, sA, sB, sC]
  refine wpHz_take (i := 11) (d := 3) (v := .bool (n == 0)) rfl rfl (by kernel_rfl) (by kernel_rfl) (by kernel_rfl) (fun _ _ _ h => h) rfl (fun W _ => by go_simp) hD9 ?_
  simp only [Act.put, sA, sB, sC]
  refine wpAnyH_done (by kernel_rfl) ?_ _
  have HE := Lib.hid (HQ.out _ hD9).1
  clear hD0 hD9 HQ K3 K4 HBX
  go_wp2_with fail
  go_ret
  exact ⟨.inl ⟨rfl, rfl⟩, HE.out⟩
 case' wd =>
  have hD2 := hD1.alloc hD1.size (.cells #[.string d] 22)
  have hS : SR (u1.alloc (.cells #[.string d] 22)) (some ⟨u1.heap.size, 0, none⟩) 1 [d] := SR.lit (w := u1) (xs := [d])
  refine wpOz_run rfl rfl (wpz_value (v := .slice (some ⟨u1.heap.size, 0, none⟩) 1 1) (w' := u1.alloc (.cells #[.string d] 22)) (d := 30) rfl (by go_simp) ⟨hD2, ?_⟩)
  simp only [Act.put, sA, sB, sC]
  generalize u1.heap.size = gz at hS ⊢
  generalize u1.alloc (.cells #[.string d] 22) = u2 at hS hD2 ⊢
  refine wpHz_one (i := 5) (by kernel_rfl) ?_
  refine wpOz_run rfl rfl (wpz_enter (d := 27) rfl (by go_simp) ((must_ok m _).mono ?_))
  rintro e u3 ⟨rfl, hb⟩
  have hD3 : Below wx.heap.size wx u3 := hD2.trans (hb.mono hD2.size)
  have hS := hS.below hb
  clear hb
  refine ⟨_, rfl, hD3, ?_⟩
  simp only [Act.put, sA, sB, sC]
  refine wpHz_one (i := 9) (by kernel_rfl) ?_
  refine wpOz_run rfl rfl (wpz_enter (d := 31) rfl (by go_simp) ((K4.out _ _ (HQ.out _ hD3).1 hS).mono ?_))
  rintro e v9 ⟨rfl, hb⟩
  have hD9 : Below wx.heap.size wx v9 := hD3.trans (hb.mono hD3.size)
  clear hb
  refine ⟨_, rfl, hD9, ?_⟩
  simp only [Act.put, sA, sB, sC]
  refine wpHz_take (i := 10) (d := 32) (v := .bool (n == 0)) rfl rfl (by kernel_rfl) (by kernel_rfl) (by kernel_rfl) (fun _ _ _ h => h) rfl (fun W _ => by go_simp) hD9 ?_
  simp only [Act.put, sA, sB, sC]
  refine wpHz_take (i := 11) (d := 3) (v := .bool (n == 0)) rfl rfl (by kernel_rfl) (by kernel_rfl) (by kernel_rfl) (fun _ _ _ h => h) rfl (fun W _ => by go_simp) hD9 ?_
  simp only [Act.put, sA, sB, sC]
  refine wpAnyH_done (by kernel_rfl) ?_ _
  have HE := Lib.hid (HQ.out _ hD9).1
  clear hD0 hD9 HQ K3 K4 HBX
  go_wp2_with fail
  go_ret
  exact ⟨.inl ⟨rfl, rfl⟩, HE.out⟩
 case' wb =>
  have hD1 := hD0.alloc hD0.size (.cells #[.string d] 22)
  have hS : SR (W.alloc (.cells #[.string d] 22)) (some ⟨W.heap.size, 0, none⟩) 1 [d] := SR.lit (w := W) (xs := [d])
  refine wpOz_run rfl rfl (wpz_value (v := .slice (some ⟨W.heap.size, 0, none⟩) 1 1) (w' := W.alloc (.cells #[.string d] 22)) (d := 30) rfl (by go_simp) ⟨hD1, ?_⟩)
  simp only [Act.put, sA, sB, sC]
  generalize W.heap.size = gz at hS ⊢
  generalize W.alloc (.cells #[.string d] 22) = u1 at hS hD1 ⊢
  refine wpHz_one (i := 2) (by kernel_rfl) ?_
  refine wpOz_run rfl rfl (wpz_enter (d := 24) rfl (by go_simp) ((K3.out _ (HQ.out _ hD1).1).mono ?_))
  rintro e u2 ⟨rfl, hb⟩
  have hD2 : Below wx.heap.size wx u2 := hD1.trans (hb.mono hD1.size)
  have hS := hS.below hb
  clear hb
  refine ⟨_, rfl, hD2, ?_⟩
  simp only [Act.put, sA, sB, sC]
  refine wpHz_take (i := 3) (d := 25) (v := .string m) rfl rfl (by kernel_rfl) (by kernel_rfl) (by kernel_rfl) (fun _ _ _ h => h) rfl (fun W _ => by go_simp) hD2 ?_
  simp only [Act.put, sA, sB, sC]
  refine wpHz_take (i := 4) (d := 26) (v := .int .i64 0) rfl rfl (by kernel_rfl) (by kernel_rfl) (by kernel_rfl) (fun _ _ _ h => h) rfl (fun W _ => by go_simp) hD2 ?_
  simp only [Act.put, sA, sB, sC]
  refine wpHz_one (i := 5) (by kernel_rfl) ?_
  refine wpOz_run rfl rfl (wpz_enter (d := 27) rfl (by go_simp) ((must_ok m _).mono ?_))
  rintro e u3 ⟨rfl, hb⟩
  have hD3 : Below wx.heap.size wx u3 := hD2.trans (hb.mono hD2.size)
  have hS := hS.below hb
  clear hb
  refine ⟨_, rfl, hD3, ?_⟩
  simp only [Act.put, sA, sB, sC]
  refine wpHz_one (i := 9) (by kernel_rfl) ?_
  refine wpOz_run rfl rfl (wpz_enter (d := 31) rfl (by go_simp) ((K4.out _ _ (HQ.out _ hD3).1 hS).mono ?_))
  rintro e v9 ⟨rfl, hb⟩
  have hD9 : Below wx.heap.size wx v9 := hD3.trans (hb.mono hD3.size)
  clear hb
  refine ⟨_, rfl, hD9, ?_⟩
  simp only [Act.put, sA, sB, sC]
  refine wpHz_take (i := 10) (d := 32) (v := .bool (n == 0)) rfl rfl (by kernel_rfl) (by kernel_rfl) (by kernel_rfl) (fun _ _ _ h => h) rfl (fun W _ => by go_simp) hD9 ?_
  simp only [Act.put, sA, sB, sC]
  refine wpHz_take (i := 11) (d := 3) (v := .bool (n == 0)) rfl rfl (by kernel_rfl) (by kernel_rfl) (by kernel_rfl) (fun _ _ _ h => h) rfl (fun W _ => by go_simp) hD9 ?_
  simp only [Act.put, sA, sB, sC]
  refine wpAnyH_done (by kernel_rfl) ?_ _
  have HE := Lib.hid (HQ.out _ hD9).1
  clear hD0 hD9 HQ K3 K4 HBX
  go_wp2_with fail
  go_ret
  exact ⟨.inl ⟨rfl, rfl⟩, HE.out⟩
set_option maxHeartbeats 6400000 in
set_option maxRecDepth 100000 in
theorem lHolds_any {f d : ByteArray} {x y m : ByteArray} {n : Int} {N M c1 c2 : Nat} {a1 a2 : Option Addr} {w : World} (hk : chkL f d = 0) (hf : f.size ≤ 1000000) (hd : d.size ≤ 1000000)
  (htm : ∀ W, Below w.heap.size w W → ML W)
  (k1 : ∀ W, Below w.heap.size w W → Calls Tryz.prog 109 #[.slice a1 N c1, .slice a2 M c2, .string f] W fun e w' => e = .returned (.tuple #[.string x, .int .i64 0]) ∧ Below W.heap.size W w')
  (k2 : ∀ W, Below w.heap.size w W → Calls Tryz.prog 109 #[.slice a2 M c2, .slice a1 N c1, .string f] W fun e w' => e = .returned (.tuple #[.string y, .int .i64 0]) ∧ Below W.heap.size W w')
  (k3 : ∀ W, Below w.heap.size w W → Calls Tryz.prog 110 #[.string x, .string y] W fun e w' => e = .returned (.tuple #[.string m, .int .i64 0]) ∧ Below W.heap.size W w')
  (k4 : ∀ W b, Below w.heap.size w W → SR W (some ⟨b, 0, none⟩) 1 [d] → Calls Tryz.prog 82 #[.string m, .slice (some ⟨b, 0, none⟩) 1 1] W (Er n W)) :
  Calls Tryz.prog 39 #[.agg #[.string f, .string d], .slice a1 N c1, .slice a2 M c2] w fun e w' => e = .returned (.tuple #[.bool (n == 0), .int .i64 0]) ∧ Below w.heap.size w w' := by
 have hmf : ∀ (fn : Fn) (first cap : Array Value) (w : World), (Instr.makeFunc fn first cap).run Tryz.prog w = .ok (.func fn first cap) w := fun _ _ _ _ => rfl
 obtain ⟨bo, hbo⟩ : ∃ bo, bo = (n == 0) := ⟨_, rfl⟩
 obtain ⟨V1, hV1⟩ : ∃ V1, V1 = w.alloc (.cells #[.string f, .string d] 24) := ⟨_, rfl⟩
 obtain ⟨V2, hV2⟩ : ∃ V2, V2 = V1.alloc (.cells #[.slice a1 N c1] 51) := ⟨_, rfl⟩
 obtain ⟨V3, hV3⟩ : ∃ V3, V3 = V2.alloc (.cells #[.slice a2 M c2] 51) := ⟨_, rfl⟩
 have s1 : V1.heap.size = w.heap.size + 1 := by rw [hV1]; simp
 have s2 : V2.heap.size = w.heap.size + 2 := by rw [hV2, World.size_alloc, s1]
 have h1 : Below w.heap.size w V1 := by rw [hV1]; exact (Below.refl w.heap.size w).alloc (Nat.le_refl _) _
 have i2 : Below V1.heap.size V1 V2 := by rw [hV2]; exact (Below.refl _ V1).alloc (Nat.le_refl _) _
 have i3 : Below V2.heap.size V2 V3 := by rw [hV3]; exact (Below.refl _ V2).alloc (Nat.le_refl _) _
 have h3 : Below w.heap.size w V3 := h1.trans ((i2.trans (i3.mono i2.size)).mono h1.size)
 have q1 : RB w V1 w.heap.size f d := by rw [hV1]; exact RB.new (Nat.le_refl _)
 have p1 : V2.cell? ⟨w.heap.size + 1, 0, none⟩ = some (.slice a1 N c1) := by rw [hV2, ← s1]; simp
 have p2 : V3.cell? ⟨w.heap.size + 2, 0, none⟩ = some (.slice a2 M c2) := by rw [hV3, ← s2]; simp
 have s3 : V3.heap.size = w.heap.size + 3 := by rw [hV3, World.size_alloc, s2]
 have q2 := (q1.below i2).below i3
 have p3 := (i3.cell (p := ⟨w.heap.size + 1, 0, none⟩) (by rw [s2]; show w.heap.size + 1 < _; omega)).trans p1
 have K1 := Lib.hid (show ∀ W, Below w.heap.size w W → Calls Tryz.prog 27 #[.agg #[.string f, .string d]] W (Er 0 W) from fun W hb => by rw [← hk]; exact lCheck_any hf hd (htm W hb))
 have K3 := Lib.hid (show ∀ W ao c, Below V3.heap.size V3 W → ER W ao 1 [0] → Calls Tryz.prog 80 #[.func (.func 107) #[] #[.pointer (some ⟨w.heap.size + 1, 0, none⟩), .pointer (some ⟨w.heap.size + 2, 0, none⟩), .pointer (some ⟨w.heap.size, 0, none⟩)], .slice ao 1 c] W (Fin [0] (.bool bo) (.bool false) 0 W) from fun W ao c hb hr => attempt_bool_any hr (by omega) (fun _ W2 hb2 => by
  have hB2 := hb.trans (hb2.mono hb.size)
  have q3 := q2.below hB2
  have hw2 := h3.trans (hB2.mono h3.size)
  rw [hbo]
  exact holds_clo (d := d) (m := m) q3.c0 q3.c1 q3.lt ((hB2.cell (p := ⟨w.heap.size + 1, 0, none⟩) (by rw [s3]; show w.heap.size + 1 < _; omega)).trans p3) (Nat.lt_of_lt_of_le (by rw [s3]; omega) hB2.size) ((hB2.cell (p := ⟨w.heap.size + 2, 0, none⟩) (by rw [s3]; show w.heap.size + 2 < _; omega)).trans p2) (Nat.lt_of_lt_of_le (by rw [s3]; omega) hB2.size)
   (fun W3 hb3 => k1 W3 (hw2.trans (hb3.mono hw2.size))) (fun W3 hb3 => k2 W3 (hw2.trans (hb3.mono hw2.size))) (fun W3 hb3 => k3 W3 (hw2.trans (hb3.mono hw2.size))) (fun W3 b hb3 => k4 W3 b (hw2.trans (hb3.mono hw2.size)))) (fun W => by simp [go_sem]))
 have HB0 := Lib.hid h3
 have HR := Lib.hid q2
 rw [← hbo]
 unfold Fin at K3
 rw [if_pos ⟨rfl, rfl⟩, if_pos (show fstL [0] = 0 from rfl)] at K3
 clear h1 i2 i3 h3 q1 q2 p1 p2 p3 s1 s2 s3 hbo hf hd htm hk k1 k2 k3 k4
 subst hV1
 subst hV2
 subst hV3
 go_enter Tryz.func39, Tryz.ntmps39
 go_wp2_with fail
 have c0 := HR.out.c0
 have c1 := HR.out.c1
 go_wp2_with fail
 refine (K1.out _ HB0.out).mono ?_
 rintro e w1 ⟨rfl, hb⟩
 have HX := Lib.hid hb
 clear hb c0 c1 HR K1
 have HX2 := Lib.hid (HX.out.alloc HX.out.size (.cells #[.int .i64 0] 27))
 go_wp2_with fail
 refine (K3.out _ _ 1 HX2.out (ER.lit (es := [0]))).mono ?_
 rintro e w2 ⟨rfl, hb⟩
 have HE := Lib.hid (HB0.out.trans ((HX2.out.trans (hb.mono HX2.out.size)).mono HB0.out.size))
 clear hb HB0 HX HX2 K3
 go_wp2_with fail
 go_ret2
 exact ⟨rfl, HE.out⟩
theorem lHolds_q {P Q : List MI} {N M c1 c2 : Nat} {a1 a2 : Option Addr} {F D x y : Rat} (ha : LQ F D) (hx : dltE P Q (qstr F) = (qstr x, 0)) (hy : dltE Q P (qstr F) = (qstr y, 0)) (ox : QOk x) (oy : QOk y) (hN : N ≤ 1000) (hM : M ≤ 1000) (hlp : ML2 P) (hlq : ML2 Q) {w : World} (mp : MR w a1 N P) (mq : MR w a2 M Q) (htm : ∀ W, Below w.heap.size w W → Tab W ∧ ML W) :
  Calls Tryz.prog 39 #[.agg #[.string (qstr F), .string (qstr D)], .slice a1 N c1, .slice a2 M c2] w fun e w' => e = .returned (.tuple #[.bool (decide (mxQ x y ≤ D)), .int .i64 0]) ∧ Below w.heap.size w w' := by
 have h := lHolds_any (c1 := c1) (c2 := c2) (m := qstr (mxQ x y)) (n := ordE (qstr (mxQ x y)) [qstr D]) (w := w) ha.chk (sz_q ha.okF) (sz_q ha.okD) (fun W hb => (htm W hb).2)
  (fun W hb => by
   have h := Delta_any (c1 := c1) (c2 := c2) (mp.below hb) (mq.below hb) hN hM hlp hlq (sz_q ha.okF) (htm W hb).1 (htm W hb).2
   unfold PR at h
   rw [hx] at h
   exact h)
  (fun W hb => by
   have h := Delta_any (c1 := c2) (c2 := c1) (mq.below hb) (mp.below hb) hM hN hlq hlp (sz_q ha.okF) (htm W hb).1 (htm W hb).2
   unfold PR at h
   rw [hy] at h
   exact h)
  (fun W hb => Max_oQ x y ox oy W (htm W hb).2)
  (fun W b hb hs => inOrder_any (c := 1) hs (by omega) (sz_q (mxQ_okA ox oy)) (all1 (sz_q ha.okD)) (htm W hb).2)
 have e : (ordE (qstr (mxQ x y)) [qstr D] == 0) = decide (mxQ x y ≤ D) := by
  rw [← ord1_q (mxQ_okA ox oy) ha.okD]
  exact Bool.beq_eq_decide_eq ..
 rw [e] at h
 exact h
end

end Go.Proofs.YtkponlbpgmnpgaaGreatDoor
