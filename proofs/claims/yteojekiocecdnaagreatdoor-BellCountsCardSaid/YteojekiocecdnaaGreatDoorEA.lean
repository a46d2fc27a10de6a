/-
  Mathematics of draws by inversion. Mathematics of distributions: items collected in a map, sorted by key.
-/
import Derived.Test.YteojekiocecdnaaGreatDoorB4
import Derived.Maps.Views
import Derived.Sort.KeysCollected
namespace Go.Proofs.YteojekiocecdnaaGreatDoor
/-- Rounded up. -/
def upD (a c : Nat) : Nat := if a % c = 0 then a / c else a / c + 1
theorem upD_le {a c m : Nat} (hc : 0 < c) : upD a c ≤ m ↔ a ≤ m * c := by
  have e := Nat.div_add_mod a c
  have l := Nat.mod_lt a hc
  unfold upD
  generalize a / c = q at *
  generalize a % c = r at *
  constructor
  · intro h
    split at h
    · have h1 := Nat.mul_le_mul_left c h
      rw [Nat.mul_comm c m] at h1; omega
    · have h1 := Nat.mul_le_mul_left c h
      rw [Nat.mul_comm c m, Nat.mul_succ] at h1; omega
  · intro h
    split
    · rename_i h0
      refine Nat.le_of_mul_le_mul_left (?_ : c * q ≤ c * m) hc
      rw [Nat.mul_comm c m]; omega
    · rename_i h0
      rcases Nat.lt_or_ge q m with h1 | h1
      · exact h1
      · exfalso
        have h2 := Nat.mul_le_mul_left c h1
        rw [Nat.mul_comm c m] at h2; omega
theorem le_div {a c m : Nat} (hc : 0 < c) : m ≤ a / c ↔ m * c ≤ a := Nat.le_div_iff_mul_le hc
theorem div_le_up (a c : Nat) : a / c ≤ upD a c := by unfold upD; split <;> omega
theorem up_le_div (a c : Nat) : upD a c ≤ a / c + 1 := by unfold upD; split <;> omega

/-- A scale: the borders of m parts. -/
structure ScF (f : Nat → Nat) (m : Nat) : Prop where
  zero : f 0 = 0
  mono : ∀ i j, i ≤ j → j ≤ m → f i ≤ f j
  pos : 0 < f m
theorem ScF.many {f : Nat → Nat} {m : Nat} (h : ScF f m) : 0 < m := by
  rcases Nat.eq_zero_or_pos m with e | e
  · have := h.pos; rw [e, h.zero] at this; omega
  · exact e

/-- The part v contains the cell of a bit string of n bits with the number k. -/
def inC (f : Nat → Nat) (m k n v : Nat) : Prop := f v * 2 ^ n ≤ k * f m ∧ (k + 1) * f m ≤ f (v + 1) * 2 ^ n

instance inC_dec (f : Nat → Nat) (m k n v : Nat) : Decidable (inC f m k n v) := inferInstanceAs (Decidable (_ ∧ _))

theorem inC_ext {f : Nat → Nat} {m k n e r v : Nat} (h : inC f m k n v) (hr : r < 2 ^ e) : inC f m (k * 2 ^ e + r) (n + e) v := by
  obtain ⟨h1, h2⟩ := h
  have a1 := Nat.mul_le_mul_right (2 ^ e) h1
  have a2 := Nat.mul_le_mul_right (2 ^ e) h2
  have b1 : k * 2 ^ e * f m ≤ (k * 2 ^ e + r) * f m := Nat.mul_le_mul_right _ (Nat.le_add_right _ _)
  have b2 : (k * 2 ^ e + r + 1) * f m ≤ ((k + 1) * 2 ^ e) * f m := Nat.mul_le_mul_right _ (by rw [Nat.succ_mul]; omega)
  constructor
  · rw [Nat.pow_add, ← Nat.mul_assoc]
    refine Nat.le_trans a1 ?_
    rw [Nat.mul_right_comm]; exact b1
  · rw [Nat.pow_add, ← Nat.mul_assoc]
    refine Nat.le_trans b2 ?_
    rw [Nat.mul_right_comm]; exact a2

theorem inC_one {f : Nat → Nat} {m k n v w : Nat} (hs : ScF f m) (hv : v < m) (hw : w < m) (h : inC f m k n v) (g : inC f m k n w) : v = w := by
  have key : ∀ a b, b < m → inC f m k n a → inC f m k n b → ¬ a < b := fun a b hb h g hlt => by
    have h1 : f (a + 1) ≤ f b := hs.mono _ _ hlt (by omega)
    have h2 := Nat.mul_le_mul_right (2 ^ n) h1
    have h3 := h.2
    have h4 := g.1
    rw [Nat.succ_mul] at h3
    have := hs.pos
    omega
  have h1 := key v w hw h g
  have h2 := key w v hv g h
  omega

theorem inC_take {f : Nat → Nat} {m i j v : Nat} {l : List UInt8} (hb : IsBits l) (hij : i ≤ j) (hj : j ≤ l.length) (h : inC f m (bv (l.take i)) i v) : inC f m (bv (l.take j)) j v := by
  obtain ⟨e, rfl⟩ : ∃ e, j = i + e := ⟨j - i, by omega⟩
  have hs : l.take (i + e) = l.take i ++ (l.drop i).take e := by rw [List.take_add]
  have hl : ((l.drop i).take e).length = e := by rw [List.length_take, List.length_drop]; omega
  have hlt := bv_lt ((l.drop i).take e) ((hb.drop i).take e)
  rw [hl] at hlt
  rw [hs, bv_append, hl]
  exact inC_ext h hlt

/-- What a draw from the bits l gives. -/
def PickIs (f : Nat → Nat) (m : Nat) (l : List UInt8) (d : Bool) (v u : Nat) : Prop :=
  (d = true ∧ v < m ∧ u ≤ l.length ∧ inC f m (bv (l.take u)) u v ∧ ∀ j, j < u → ∀ x, x < m → ¬ inC f m (bv (l.take j)) j x) ∨
  (d = false ∧ v = 0 ∧ u = l.length ∧ ∀ x, x < m → ¬ inC f m (bv l) l.length x)

theorem pick_uniq {f : Nat → Nat} {m : Nat} {l : List UInt8} {d d' : Bool} {v v' u u' : Nat} (hs : ScF f m) (hb : IsBits l) (h : PickIs f m l d v u) (g : PickIs f m l d' v' u') : d = d' ∧ v = v' ∧ u = u' := by
  rcases h with ⟨rfl, hv, hu, hi, hn⟩ | ⟨rfl, rfl, rfl, hn⟩ <;> rcases g with ⟨rfl, gv, gu, gi, gn⟩ | ⟨rfl, rfl, rfl, gn⟩
  · have e1 : ¬ u < u' := fun h => gn u h v hv hi
    have e2 : ¬ u' < u := fun h => hn u' h v' gv gi
    obtain rfl : u = u' := by omega
    exact ⟨rfl, inC_one hs hv gv hi gi, rfl⟩
  · exact absurd (by have := inC_take hb hu (Nat.le_refl _) hi; rwa [List.take_length] at this) (gn v hv)
  · exact absurd (by have := inC_take hb gu (Nat.le_refl _) gi; rwa [List.take_length] at this) (hn v' gv)
  · exact ⟨rfl, rfl, rfl⟩

/-- The part that a draw finds: the first that ends behind the cell's lower end. -/
theorem find_lt {f : Nat → Nat} {m k n v : Nat} (hs : ScF f m) (hk : k < 2 ^ n) (hv : v ≤ m) (hno : ∀ j, j < v → ¬ k * f m / 2 ^ n < f (j + 1)) : v < m := by
  rcases Nat.lt_or_ge v m with h | h
  · exact h
  · exfalso
    have hm := hs.many
    have h1 := hno (m - 1) (by omega)
    rw [show m - 1 + 1 = m by omega] at h1
    have hp : 0 < 2 ^ n := Nat.pow_pos (by omega)
    have h2 : k * f m < f m * 2 ^ n := by rw [Nat.mul_comm (f m)]; exact Nat.mul_lt_mul_of_pos_right hk hs.pos
    exact h1 ((Nat.div_lt_iff_lt_mul hp).2 h2)
theorem find_low {f : Nat → Nat} {m k n v : Nat} (hs : ScF f m) (hno : ∀ j, j < v → ¬ k * f m / 2 ^ n < f (j + 1)) : f v ≤ k * f m / 2 ^ n := by
  cases v with
  | zero => rw [hs.zero]; exact Nat.zero_le _
  | succ v => exact Nat.le_of_not_lt (hno v (by omega))
theorem holds_iff {f : Nat → Nat} {m k n v : Nat} : (f v ≤ k * f m / 2 ^ n ∧ upD ((k + 1) * f m) (2 ^ n) ≤ f (v + 1)) ↔ inC f m k n v := by
  have hp : 0 < 2 ^ n := Nat.pow_pos (by omega)
  rw [le_div hp, upD_le hp]; exact Iff.rfl
theorem find_only {f : Nat → Nat} {m k n v x : Nat} (hs : ScF f m) (hx : x < m) (hno : ∀ j, j < v → ¬ k * f m / 2 ^ n < f (j + 1)) (hyes : k * f m / 2 ^ n < f (v + 1)) (h : inC f m k n x) : x = v := by
  have hp : 0 < 2 ^ n := Nat.pow_pos (by omega)
  have h1 := (holds_iff.2 h).1
  have h2 : k * f m / 2 ^ n < f (x + 1) := by
    have h3 := h.2
    rw [Nat.succ_mul] at h3
    have := hs.pos
    exact (Nat.div_lt_iff_lt_mul hp).2 (by omega)
  rcases Nat.lt_or_ge x v with h3 | h3
  · exact absurd h2 (hno x h3)
  rcases Nat.lt_or_ge v x with h4 | h4
  · have h5 := hs.mono (v + 1) x h4 (by omega)
    omega
  · omega
/-- The result of a draw. -/
theorem pick_yes {f : Nat → Nat} {m v u : Nat} {l : List UInt8} (hs : ScF f m) (hb : IsBits l) (hv : v < m)
    (hno : ∀ j, j < v → ¬ bv l * f m / 2 ^ l.length < f (j + 1)) (hyes : bv l * f m / 2 ^ l.length < f (v + 1)) (hin : inC f m (bv l) l.length v)
    (hu : u ≤ l.length) (hun : ∀ j, j < u → ¬ inC f m (bv (l.take j)) j v) (huy : u < l.length → inC f m (bv (l.take u)) u v) : PickIs f m l true v u := by
  refine .inl ⟨rfl, hv, hu, ?_, fun j hj x hx hc => ?_⟩
  · rcases Nat.lt_or_ge u l.length with h | h
    · exact huy h
    · obtain rfl : u = l.length := by omega
      rw [List.take_length]; exact hin
  · have h1 := inC_take hb (show j ≤ l.length by omega) (Nat.le_refl _) hc
    rw [List.take_length] at h1
    obtain rfl := find_only hs hx hno hyes h1
    exact hun j hj hc
theorem pick_no {f : Nat → Nat} {m v : Nat} {l : List UInt8} (hs : ScF f m) (hv : v < m)
    (hno : ∀ j, j < v → ¬ bv l * f m / 2 ^ l.length < f (j + 1)) (hyes : bv l * f m / 2 ^ l.length < f (v + 1)) (hin : ¬ inC f m (bv l) l.length v) : PickIs f m l false 0 l.length :=
  .inr ⟨rfl, rfl, rfl, fun x hx hc => by obtain rfl := find_only hs hx hno hyes hc; exact hin hc⟩
/-- A longer scale draws the same. -/
theorem inC_scale {f g : Nat → Nat} {m c k n v : Nat} (hc : 0 < c) (hg : ∀ i, i ≤ m → g i = c * f i) (hv : v < m) : inC g m k n v ↔ inC f m k n v := by
  unfold inC
  rw [hg v (by omega), hg m (Nat.le_refl _), hg (v + 1) (by omega)]
  have e1 : c * f v * 2 ^ n = c * (f v * 2 ^ n) := Nat.mul_assoc _ _ _
  have e2 : k * (c * f m) = c * (k * f m) := Nat.mul_left_comm _ _ _
  have e3 : (k + 1) * (c * f m) = c * ((k + 1) * f m) := Nat.mul_left_comm _ _ _
  have e4 : c * f (v + 1) * 2 ^ n = c * (f (v + 1) * 2 ^ n) := Nat.mul_assoc _ _ _
  rw [e1, e2, e3, e4, Nat.mul_le_mul_left_iff hc, Nat.mul_le_mul_left_iff hc]
theorem pick_scale {f g : Nat → Nat} {m c : Nat} {l : List UInt8} {d : Bool} {v u : Nat} (hc : 0 < c) (hg : ∀ i, i ≤ m → g i = c * f i) (h : PickIs g m l d v u) : PickIs f m l d v u := by
  rcases h with ⟨rfl, hv, hu, hi, hn⟩ | ⟨rfl, rfl, rfl, hn⟩
  · exact .inl ⟨rfl, hv, hu, (inC_scale hc hg hv).1 hi, fun j hj x hx h => hn j hj x hx ((inC_scale hc hg hx).2 h)⟩
  · exact .inr ⟨rfl, rfl, rfl, fun x hx h => hn x hx ((inC_scale hc hg hx).2 h)⟩

/-- How many bit strings of n bits lead to i: from first to end. -/
def fstP (f : Nat → Nat) (m n i : Nat) : Nat := upD (f i * 2 ^ n) (f m)
def endP (f : Nat → Nat) (m n i : Nat) : Nat := f (i + 1) * 2 ^ n / f m
def cntP (f : Nat → Nat) (m n i : Nat) : Nat := endP f m n i - fstP f m n i
def sumP (f : Nat → Nat) (m n : Nat) : Nat → Nat
  | 0 => 0
  | i + 1 => sumP f m n i + cntP f m n i
def lateP (f : Nat → Nat) (m n : Nat) : Nat := 2 ^ n - sumP f m n m

theorem inC_iff {f : Nat → Nat} {m k n i : Nat} (hs : ScF f m) : inC f m k n i ↔ (fstP f m n i ≤ k ∧ k < endP f m n i) := by
  unfold fstP endP inC
  rw [upD_le hs.pos, show (k < f (i + 1) * 2 ^ n / f m ↔ k + 1 ≤ f (i + 1) * 2 ^ n / f m) from Iff.rfl, le_div hs.pos]
theorem sum_le {f : Nat → Nat} {m n : Nat} (hs : ScF f m) : ∀ i, i ≤ m → sumP f m n i ≤ f i * 2 ^ n / f m
  | 0, _ => Nat.zero_le _
  | i + 1, h => by
    have h1 := sum_le hs (n := n) i (by omega)
    have h2 := div_le_up (f i * 2 ^ n) (f m)
    have h3 : f i * 2 ^ n / f m ≤ f (i + 1) * 2 ^ n / f m := Nat.div_le_div_right (Nat.mul_le_mul_right _ (hs.mono _ _ (by omega) h))
    show sumP f m n i + (f (i + 1) * 2 ^ n / f m - upD (f i * 2 ^ n) (f m)) ≤ _
    omega
theorem sum_all {f : Nat → Nat} {m n : Nat} (hs : ScF f m) {i : Nat} (hi : i ≤ m) : sumP f m n i ≤ 2 ^ n := by
  have h1 := sum_le hs (n := n) i hi
  have h2 : f i * 2 ^ n / f m ≤ f m * 2 ^ n / f m := Nat.div_le_div_right (Nat.mul_le_mul_right _ (hs.mono _ _ hi (Nat.le_refl _)))
  rw [Nat.mul_comm (f m), Nat.mul_div_cancel _ hs.pos] at h2
  omega
theorem cnt_le {f : Nat → Nat} {m n : Nat} (hs : ScF f m) {i : Nat} (hi : i < m) : cntP f m n i ≤ 2 ^ n := by
  have h := sum_all hs (n := n) (i := i + 1) hi
  have h2 : sumP f m n (i + 1) = sumP f m n i + cntP f m n i := rfl
  omega
theorem cnt_scale {f g : Nat → Nat} {m c n : Nat} (hc : 0 < c) (hg : ∀ i, i ≤ m → g i = c * f i) {i : Nat} (hi : i < m) : cntP g m n i = cntP f m n i := by
  have u : ∀ a b, upD (c * a) (c * b) = upD a b := fun a b => by
    unfold upD
    rw [Nat.mul_mod_mul_left, Nat.mul_div_mul_left _ _ hc]
    by_cases h : a % b = 0
    · rw [h, Nat.mul_zero, if_pos rfl]
    · rw [if_neg h, if_neg (fun e => h (by rcases Nat.mul_eq_zero.1 e with e | e <;> omega))]
  unfold cntP endP fstP
  rw [hg i (by omega), hg m (Nat.le_refl _), hg (i + 1) (by omega), Nat.mul_assoc, Nat.mul_assoc, u, Nat.mul_div_mul_left _ _ hc]
theorem sumP_congr {f g : Nat → Nat} {m n : Nat} : ∀ {i : Nat}, (∀ j, j < i → cntP g m n j = cntP f m n j) → sumP g m n i = sumP f m n i
  | 0, _ => rfl
  | i + 1, h => by
    show sumP g m n i + cntP g m n i = sumP f m n i + cntP f m n i
    rw [sumP_congr (i := i) (fun j hj => h j (by omega)), h i (by omega)]

/-- The borders of weights: their sums. -/
def wsum (g : Nat → Nat) : Nat → Nat
  | 0 => 0
  | i + 1 => wsum g i + g i
theorem wsum_mono (g : Nat → Nat) : ∀ i j, i ≤ j → wsum g i ≤ wsum g j := fun i j h => by
  induction h with
  | refl => exact Nat.le_refl _
  | step h ih => exact Nat.le_trans ih (Nat.le_add_right _ _)
theorem wsum_sc {g : Nat → Nat} {m : Nat} (h : 0 < wsum g m) : ScF (wsum g) m := ⟨rfl, fun i j h _ => wsum_mono g i j h, h⟩
theorem wsum_zero {g : Nat → Nat} : ∀ {m : Nat}, wsum g m = 0 ↔ ∀ j, j < m → g j = 0
  | 0 => ⟨fun _ j hj => absurd hj (Nat.not_lt_zero _), fun _ => rfl⟩
  | m + 1 => by
    show wsum g m + g m = 0 ↔ _
    constructor
    · intro h j hj
      have h1 : wsum g m = 0 := by omega
      rcases Nat.lt_or_ge j m with h2 | h2
      · exact (wsum_zero (m := m)).1 h1 j h2
      · obtain rfl : j = m := by omega
        omega
    · intro h
      rw [(wsum_zero (m := m)).2 (fun j hj => h j (by omega)), h m (by omega)]
theorem wsum_mul (g : Nat → Nat) (c : Nat) : ∀ m, wsum (fun i => c * g i) m = c * wsum g m
  | 0 => rfl
  | m + 1 => by show wsum (fun i => c * g i) m + c * g m = c * (wsum g m + g m); rw [wsum_mul g c m, Nat.mul_add]
theorem wsum_congr {g h : Nat → Nat} : ∀ {m : Nat}, (∀ j, j < m → g j = h j) → wsum g m = wsum h m
  | 0, _ => rfl
  | m + 1, e => by show wsum g m + g m = wsum h m + h m; rw [wsum_congr (m := m) (fun j hj => e j (by omega)), e m (by omega)]
theorem wsum_le {g : Nat → Nat} {c : Nat} : ∀ {m : Nat}, (∀ j, j < m → g j ≤ c) → wsum g m ≤ m * c
  | 0, _ => Nat.zero_le _
  | m + 1, e => by
    have h1 := wsum_le (g := g) (c := c) (m := m) (fun j hj => e j (by omega))
    have h2 := e m (by omega)
    show wsum g m + g m ≤ _
    rw [Nat.succ_mul]; omega

open Go.Maps

abbrev Item := ByteArray × ByteArray
abbrev keyI (x : Item) : List UInt8 := x.1.data.toList
/-- What a map holds behind the items L. -/
def putI {H : Type} (m : DataW H) (x : Item) : DataW H := m.put (.string x.1.data.toList) (.lit (.string x.2.data.toList))
def mapD {H : Type} (L : List Item) : DataW H := L.foldl putI (.map [])
theorem mapD_snoc {H : Type} (L : List Item) (x : Item) : (mapD (L ++ [x]) : DataW H) = (mapD L).put (.string x.1.data.toList) (.lit (.string x.2.data.toList)) := by simp [mapD, List.foldl_append, putI]

theorem ins_perm {H : Type} (x : Lit × DataW H) : ∀ l, (DataW.insert x l).Perm (x :: l)
  | [] => List.Perm.refl _
  | y :: r => by
    unfold DataW.insert
    split
    · exact List.Perm.refl _
    · exact ((ins_perm x r).cons y).trans (List.Perm.swap x y r)
theorem put_keys {H : Type} {m : DataW H} (hm : IsMap m) {k : List UInt8} (hk : k ∉ strKeys m) (d : DataW H) : (strKeys (m.put (.string k) d)).Perm (k :: strKeys m) := by
  obtain ⟨es, rfl⟩ := hm
  have hf : es.filter (fun p => !p.1.sameKey (.string k)) = es := by
    refine List.filter_eq_self.2 fun p hp => ?_
    cases hc : p.1 with
    | string a =>
      have hne : a ≠ k := fun e => hk (by
        show k ∈ es.map fun p => strOf p.1
        exact List.mem_map.2 ⟨p, hp, by rw [hc]; exact e⟩)
      simp [Lit.sameKey, hne]
    | _ => simp [Lit.sameKey]
  show ((DataW.insert (Lit.string k, d) (es.filter fun p => !p.1.sameKey (.string k))).map fun p => strOf p.1).Perm _
  rw [hf]
  exact (ins_perm _ es).map _
theorem fold_isMap {H : Type} : ∀ (L : List Item) (m : DataW H), IsMap m → IsMap (L.foldl putI m)
  | [], _, h => h
  | _ :: L, _, h => fold_isMap L _ (h.put _ _)
theorem fold_keys {H : Type} : ∀ (L : List Item) (m : DataW H), IsMap m → (strKeys m ++ L.map keyI).Nodup → (strKeys (L.foldl putI m)).Perm (strKeys m ++ L.map keyI)
  | [], m, _, _ => by simp
  | x :: L, m, hm, hn => by
    have hx : keyI x ∉ strKeys m := fun h => by
      have := (List.nodup_append.1 hn).2.2 _ h (keyI x) (by simp)
      exact this rfl
    have hp := put_keys hm hx (.lit (.string x.2.data.toList))
    have hp2 : (strKeys (putI m x) ++ L.map keyI).Perm (strKeys m ++ (x :: L).map keyI) := by
      refine (hp.append_right _).trans ?_
      rw [List.map_cons, List.cons_append]
      exact List.perm_middle.symm
    exact (fold_keys L (putI m x) (hm.put _ _) (hp2.nodup_iff.2 hn)).trans hp2
theorem mapD_keys {H : Type} {L : List Item} (hn : (L.map keyI).Nodup) : (strKeys (mapD L : DataW H)).Perm (L.map keyI) := by
  have h := fold_keys L (.map [] : DataW H) isMap_empty (by simpa [strKeys] using hn)
  exact h
theorem fold_other {H : Type} {k : List UInt8} {z : DataW H} : ∀ (L : List Item) (m : DataW H), k ∉ L.map keyI → (L.foldl putI m).atKey (.string k) z = m.atKey (.string k) z
  | [], _, _ => rfl
  | x :: L, m, h => by
    rw [List.map_cons, List.mem_cons, not_or] at h
    show (L.foldl putI (putI m x)).atKey _ z = _
    rw [fold_other L (putI m x) h.2]
    exact atKey_put_other (fun e => h.1 (by simpa using e)) _ z
theorem fold_at {H : Type} {x : Item} {z : DataW H} : ∀ (L : List Item) (m : DataW H), IsMap m → (L.map keyI).Nodup → x ∈ L → (L.foldl putI m).atKey (.string (keyI x)) z = .lit (.string x.2.data.toList)
  | [], _, _, _, h => by simp at h
  | y :: L, m, hm, hn, h => by
    rw [List.map_cons, List.nodup_cons] at hn
    show (L.foldl putI (putI m y)).atKey _ z = _
    rcases List.mem_cons.1 h with rfl | h
    · rw [fold_other L _ hn.1]
      exact atKey_put_same hm (by trivial) _ z
    · exact fold_at L _ (hm.put _ _) hn.2 h
theorem mapD_at {H : Type} {L : List Item} {x : Item} {z : DataW H} (hn : (L.map keyI).Nodup) (h : x ∈ L) : (mapD L : DataW H).atKey (.string (keyI x)) z = .lit (.string x.2.data.toList) := fold_at L _ isMap_empty hn h
theorem mapD_size {H : Type} {L : List Item} (hn : (L.map keyI).Nodup) : Maps.size (mapD L : DataW H) = L.length := by
  have h := (mapD_keys (H := H) hn).length_eq
  obtain ⟨es, he⟩ := fold_isMap L (.map [] : DataW H) isMap_empty
  have he' : (mapD L : DataW H) = .map es := he
  rw [he'] at h ⊢
  simpa [strKeys, Maps.size_eq] using h

/-- Items by ascending keys. -/
abbrev leI : Item → Item → Bool := fun x y => decide (keyI x ≤ keyI y)
def sortI (L : List Item) : List Item := L.mergeSort leI
theorem leI_trans : ∀ a b c : Item, leI a b = true → leI b c = true → leI a c = true := fun a b c h1 h2 => by
  simp only [leI, decide_eq_true_eq] at *; exact List.le_trans h1 h2
theorem leI_total : ∀ a b : Item, (leI a b || leI b a) = true := fun a b => by simp only [leI, Bool.or_eq_true, decide_eq_true_eq]; exact List.le_total _ _
theorem sortI_perm (L : List Item) : (sortI L).Perm L := List.mergeSort_perm L leI
theorem sortI_len (L : List Item) : (sortI L).length = L.length := (sortI_perm L).length_eq
theorem sortI_sorted (L : List Item) : (sortI L).Pairwise (fun a b => keyI a ≤ keyI b) := by
  refine (List.pairwise_mergeSort leI_trans leI_total L).imp fun h => ?_
  simpa [leI] using h
theorem sortI_keys (L : List Item) : (sortI L).map keyI = (L.map keyI).mergeSort Go.leB := List.map_mergeSort (fun _ _ _ _ => rfl)
theorem keys_sorted {L : List Item} {ss : List (List UInt8)} (h : ss.Perm (L.map keyI)) : ss.mergeSort Go.leB = (sortI L).map keyI := by
  rw [sortI_keys]; exact mergeSort_of_perm h
/-- A list sorted strictly by keys is the only one of its items. -/
theorem sorted_eq {L M : List Item} (hp : L.Perm M) (hn : (L.map keyI).Nodup) (hl : L.Pairwise (fun a b => keyI a ≤ keyI b)) (hm : M.Pairwise (fun a b => keyI a ≤ keyI b)) : L = M := by
  refine List.Perm.eq_of_pairwise (le := fun a b => keyI a ≤ keyI b) (fun a b ha hb h1 h2 => ?_) hl hm hp
  have he : keyI a = keyI b := List.le_antisymm h1 h2
  have hbl : b ∈ L := hp.mem_iff.2 hb
  rcases List.mem_iff_getElem.1 ha with ⟨i, hi, rfl⟩
  rcases List.mem_iff_getElem.1 hbl with ⟨j, hj, rfl⟩
  have e2 : (L.map keyI)[i]'(by simpa using hi) = (L.map keyI)[j]'(by simpa using hj) := by simpa using he
  have h3 := (List.getElem_inj hn).1 e2
  subst h3; rfl
theorem sortI_eq {L M : List Item} (hp : M.Perm L) (hn : (L.map keyI).Nodup) (hm : M.Pairwise (fun a b => keyI a ≤ keyI b)) : M = sortI L :=
  sorted_eq (hp.trans (sortI_perm L).symm) (((hp.map keyI).nodup_iff).2 hn) hm (sortI_sorted L)
theorem sortI_strict {L : List Item} (hn : (L.map keyI).Nodup) : (sortI L).Pairwise (fun a b => keyI a < keyI b) := by
  have h1 : ((sortI L).map keyI).Nodup := (((sortI_perm L).map keyI).nodup_iff).2 hn
  have h2 : (sortI L).Pairwise (fun a b => keyI a ≠ keyI b) := List.pairwise_map.1 h1
  refine (List.Pairwise.and h2 (sortI_sorted L)).imp fun ⟨h3, h4⟩ => ?_
  rcases List.le_iff_lt_or_eq.1 h4 with h5 | h5
  · exact h5
  · exact absurd h5 h3

end Go.Proofs.YteojekiocecdnaaGreatDoor
