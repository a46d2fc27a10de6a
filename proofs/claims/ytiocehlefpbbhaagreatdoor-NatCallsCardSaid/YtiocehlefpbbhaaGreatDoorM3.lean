/-
  Plain mathematics: decimal texts and the numbers that they are.
-/
import Derived.Test.YtiocehlefpbbhaaGreatDoorM2
import Derived.Lib.ItoaNum
namespace Go.Proofs.YtiocehlefpbbhaaGreatDoor.NV
open Go.Lib (decDigits)

theorem snoc_ind (P : List UInt8 → Prop) (nil : P []) (snoc : ∀ l c, P l → P (l ++ [c])) (l : List UInt8) : P l := by
  have h : ∀ m : List UInt8, P m.reverse := by
    intro m
    induction m with
    | nil => exact nil
    | cons c m ih => rw [List.reverse_cons]; exact snoc _ _ ih
  simpa using h l.reverse

/-- The number that a text of digits is. -/
def dv (l : List UInt8) : Nat := l.foldl (fun n c => 10 * n + (c.toNat - 48)) 0

def Digs (l : List UInt8) : Prop := ∀ c ∈ l, 48 ≤ c.toNat ∧ c.toNat ≤ 57

theorem dv_nil : dv [] = 0 := rfl
theorem dv_snoc (l : List UInt8) (c : UInt8) : dv (l ++ [c]) = 10 * dv l + (c.toNat - 48) := by simp [dv]

theorem dv_append (l m : List UInt8) : dv (l ++ m) = dv l * 10 ^ m.length + dv m := by
  induction m using snoc_ind with
  | nil => simp [dv_nil]
  | snoc m c ih =>
    rw [← List.append_assoc, dv_snoc, ih, dv_snoc, List.length_append, List.length_singleton, Nat.pow_succ, Nat.mul_add]
    have : 10 * (dv l * 10 ^ m.length) = dv l * (10 ^ m.length * 10) := by ac_rfl
    omega

theorem dv_lt {l : List UInt8} (h : Digs l) : dv l < 10 ^ l.length := by
  induction l using snoc_ind with
  | nil => simp [dv_nil]
  | snoc l c ih =>
    have h1 := ih (fun x hx => h x (by simp [hx]))
    have h2 := h c (by simp)
    rw [dv_snoc, List.length_append, List.length_singleton, Nat.pow_succ]
    omega

theorem Digs.take {l : List UInt8} (h : Digs l) (k : Nat) : Digs (l.take k) := fun c hc => h c (List.mem_of_mem_take hc)
theorem Digs.drop {l : List UInt8} (h : Digs l) (k : Nat) : Digs (l.drop k) := fun c hc => h c (List.mem_of_mem_drop hc)

theorem B_pow (k : Nat) : B ^ k = 10 ^ (9 * k) := by rw [Nat.pow_mul, B_eq]

/-- The first e digits: what is left of the number without the last ones. -/
theorem dv_take {l : List UInt8} (h : Digs l) {e : Nat} (_he : e ≤ l.length) : dv (l.take e) = dv l / 10 ^ (l.length - e) := by
  have h1 : dv l = dv (l.take e) * 10 ^ (l.length - e) + dv (l.drop e) := by
    conv => lhs; rw [← List.take_append_drop e l]
    rw [dv_append, List.length_drop]
  have h2 := dv_lt (h.drop e)
  rw [List.length_drop] at h2
  rw [h1, Nat.mul_comm, Nat.mul_add_div (Nat.pow_pos (by omega)), Nat.div_eq_of_lt h2, Nat.add_zero]

/-- Limb k, read off the digits from lo to e. -/
theorem dv_piece {l : List UInt8} (h : Digs l) {e lo k : Nat} (he : e + 9 * k = l.length) (hlo : lo = e - 9) : dv ((l.take e).drop lo) = dg (dv l) k := by
  have h1 := dv_take h (e := e) (by omega)
  rw [show l.length - e = 9 * k by omega, ← B_pow] at h1
  have hl : (l.take e).length = e := by simp; omega
  have h3 : dv (l.take e) = dv ((l.take e).take lo) * 10 ^ (e - lo) + dv ((l.take e).drop lo) := by
    conv => lhs; rw [← List.take_append_drop lo (l.take e)]
    rw [dv_append, List.length_drop, hl]
  have h4 := dv_lt ((h.take e).drop lo)
  rw [List.length_drop, hl] at h4
  by_cases h9 : 9 ≤ e
  · have e9 : e - lo = 9 := by omega
    rw [e9] at h3 h4
    rw [dg, ← h1, h3, B_eq, Nat.mul_comm, Nat.mul_add_mod, Nat.mod_eq_of_lt h4]
  · have e0 : lo = 0 := by omega
    subst e0
    simp only [List.drop_zero, Nat.sub_zero] at h4 ⊢
    have h5 : 10 ^ e ≤ 10 ^ 9 := Nat.pow_le_pow_right (by omega) (by omega)
    rw [dg, ← h1, B_eq, Nat.mod_eq_of_lt (by omega)]

theorem dv_lt_pow {l : List UInt8} (h : Digs l) {k : Nat} (hk : l.length ≤ 9 * k) : dv l < B ^ k := by
  rw [B_pow]
  exact Nat.lt_of_lt_of_le (dv_lt h) (Nat.pow_le_pow_right (by omega) hk)

/-! ### The numeral of a number -/

theorem dec_small {n : Nat} (h : n < 10) : decDigits n = [UInt8.ofNat (48 + n)] := by rw [decDigits, dif_pos h]
theorem dec_big {n : Nat} (h : ¬ n < 10) : decDigits n = decDigits (n / 10) ++ [UInt8.ofNat (48 + n % 10)] := by rw [decDigits, dif_neg h]

theorem byte_toNat {d : Nat} (h : d < 10) : (UInt8.ofNat (48 + d)).toNat = 48 + d := by
  rw [UInt8.toNat_ofNat']; omega

theorem dec_ind (P : Nat → Prop) (h1 : ∀ n, n < 10 → P n) (h2 : ∀ n, ¬ n < 10 → P (n / 10) → P n) (n : Nat) : P n := by
  induction n using Nat.strongRecOn with
  | _ n ih =>
    by_cases h : n < 10
    · exact h1 n h
    · exact h2 n h (ih (n / 10) (by omega))

theorem dv_dec (n : Nat) : dv (decDigits n) = n := by
  induction n using dec_ind with
  | h1 n h => rw [dec_small h]; show 10 * 0 + ((UInt8.ofNat (48 + n)).toNat - 48) = n; rw [byte_toNat h]; omega
  | h2 n h ih => rw [dec_big h, dv_snoc, ih, byte_toNat (by omega)]; omega

theorem digs_dec (n : Nat) : Digs (decDigits n) := by
  induction n using dec_ind with
  | h1 n h => rw [dec_small h]; intro c hc; rw [List.mem_singleton] at hc; subst hc; rw [byte_toNat h]; omega
  | h2 n h ih =>
    rw [dec_big h]; intro c hc
    rcases List.mem_append.1 hc with hc | hc
    · exact ih c hc
    · rw [List.mem_singleton] at hc; subst hc; rw [byte_toNat (by omega)]; omega

theorem dec_ne_nil (n : Nat) : decDigits n ≠ [] := by
  by_cases h : n < 10
  · rw [dec_small h]; simp
  · rw [dec_big h]; simp

theorem dec_len_pos (n : Nat) : 0 < (decDigits n).length := List.length_pos_iff.2 (dec_ne_nil n)

theorem dec_inj {a b : Nat} (h : decDigits a = decDigits b) : a = b := by rw [← dv_dec a, h, dv_dec]

/-- The last k digits of a number below 10^k, with zeros ahead. -/
def pad : Nat → Nat → List UInt8
  | 0, _ => []
  | k + 1, r => pad k (r / 10) ++ [UInt8.ofNat (48 + r % 10)]

theorem pad_length (k r : Nat) : (pad k r).length = k := by
  induction k generalizing r with
  | zero => rfl
  | succ k ih => simp [pad, ih]

theorem dec_pad {q : Nat} (hq : 0 < q) (k : Nat) : ∀ {r : Nat}, r < 10 ^ k → decDigits (q * 10 ^ k + r) = decDigits q ++ pad k r := by
  induction k with
  | zero => intro r hr; simp at hr; subst hr; simp [pad]
  | succ k ih =>
    intro r hr
    have h1 : ¬ q * 10 ^ (k + 1) + r < 10 := by
      have : 1 * 10 ≤ q * 10 ^ (k + 1) := Nat.mul_le_mul hq (by rw [Nat.pow_succ]; have := Nat.one_le_pow k 10 (by omega); omega)
      omega
    have h2 : (q * 10 ^ (k + 1) + r) / 10 = q * 10 ^ k + r / 10 := by rw [Nat.pow_succ, ← Nat.mul_assoc]; omega
    have h3 : (q * 10 ^ (k + 1) + r) % 10 = r % 10 := by rw [Nat.pow_succ, ← Nat.mul_assoc]; omega
    rw [dec_big h1, h2, h3, ih (by rw [Nat.pow_succ] at hr; omega), pad, List.append_assoc]

theorem dec_one : decDigits 1 = [49] := by rw [dec_small (by omega)]; rfl

/-- As the program writes a limb with its leading zeros: behind the digit of the base. -/
theorem dec_base {r : Nat} (h : r < 1000000000) : decDigits (1000000000 + r) = 49 :: pad 9 r := by
  have := dec_pad (q := 1) (by omega) 9 (r := r) (by omega)
  rw [dec_one] at this
  rw [show 1000000000 + r = 1 * 10 ^ 9 + r by omega, this]
  rfl

/-- One limb more. -/
theorem dec_limb {n k : Nat} (h : 0 < n / B ^ (k + 1)) : decDigits (n / B ^ k) = decDigits (n / B ^ (k + 1)) ++ pad 9 (dg n k) := by
  have e : n / B ^ k = n / B ^ (k + 1) * 10 ^ 9 + dg n k := by
    rw [dg, pow_succ, ← Nat.div_div_eq_div_mul]
    have := Nat.mod_add_div (n / B ^ k) B
    rw [B_eq] at this ⊢
    omega
  rw [e, dec_pad h 9 (dg_lt n k)]

theorem div_pos_of_ln {n k m : Nat} (h : ln n = m + 1) (hk : k ≤ m) : 0 < n / B ^ k :=
  Nat.div_pos (Nat.le_trans (Nat.pow_le_pow_right B_pos hk) (pow_le_of_ln h)) (pow_pos k)

theorem top_eq {n m : Nat} (h : ln n = m + 1) : n / B ^ m = dg n m := by
  have h2 := lt_pow_ln n
  rw [h, pow_succ] at h2
  rw [dg, Nat.mod_eq_of_lt ((Nat.div_lt_iff_lt_mul (pow_pos m)).2 (by rw [Nat.mul_comm]; exact h2))]

/-- How long the numeral is, by the last limb. -/
theorem dec_length {n m : Nat} (h : ln n = m + 1) : (decDigits n).length = 9 * m + (decDigits (dg n m)).length := by
  have e : n = n / B ^ m * 10 ^ (9 * m) + n % B ^ m := by
    rw [← B_pow, Nat.mul_comm]; have := Nat.mod_add_div n (B ^ m); omega
  conv => lhs; rw [e]
  rw [dec_pad (div_pos_of_ln h (Nat.le_refl _)) (9 * m) (by rw [← B_pow]; exact Nat.mod_lt _ (pow_pos m)), List.length_append, pad_length, top_eq h]
  omega

theorem dec_len_le {n k : Nat} (h : 0 < k) : (decDigits n).length ≤ k ↔ n < 10 ^ k := by
  constructor
  · intro hl
    have := dv_lt (digs_dec n)
    rw [dv_dec] at this
    exact Nat.lt_of_lt_of_le this (Nat.pow_le_pow_right (by omega) hl)
  · intro hn
    rw [Go.Lib.decDigits_length]
    induction k generalizing n with
    | zero => omega
    | succ k ih =>
      by_cases h10 : n < 10
      · rw [Go.Lib.nDigits_small h10]; omega
      · rw [Go.Lib.nDigits_big h10]
        have hk : 0 < k := by
          by_cases h0 : k = 0
          · subst h0; simp at hn; omega
          · omega
        have := ih (n := n / 10) hk (by rw [Nat.pow_succ] at hn; omega)
        omega

theorem dec_len_mono {a b : Nat} (h : a ≤ b) : (decDigits a).length ≤ (decDigits b).length := by
  rw [dec_len_le (dec_len_pos b)]
  have := dv_lt (digs_dec b)
  rw [dv_dec] at this
  omega

/-- A number of at most so many digits has at most so many limbs. -/
theorem ln_of_len {n k : Nat} (h : (decDigits n).length ≤ 9 * k) : ln n ≤ k := by
  refine ln_le ?_
  have := dv_lt_pow (digs_dec n) h
  rwa [dv_dec] at this

/-! ### What is a natural number's text -/

/-- The text's first digit is 0, and it is not alone; or there is none; or some sign is no digit. -/
def badB (l : List UInt8) : Bool := l.isEmpty || (l.headD 0 == 48 && decide (1 < l.length)) || !(l.all fun c => decide (48 ≤ c.toNat ∧ c.toNat ≤ 57))

/-- What Check answers. -/
def chk (l : List UInt8) : Nat := if badB l then 3 else if 4000 < l.length then 5 else 0

theorem head_dec (n : Nat) : (decDigits n).headD 0 = 48 → n = 0 := by
  induction n using dec_ind with
  | h1 n h =>
    rw [dec_small h]; intro e
    have : (UInt8.ofNat (48 + n)).toNat = 48 := by simpa using congrArg UInt8.toNat e
    rw [byte_toNat h] at this; omega
  | h2 n h ih =>
    rw [dec_big h]; intro e
    have : (decDigits (n / 10)).headD 0 = 48 := by
      cases hd : decDigits (n / 10) with
      | nil => exact absurd hd (dec_ne_nil _)
      | cons x xs => rw [hd] at e; simpa using e
    have := ih this
    omega

theorem bad_dec (n : Nat) : badB (decDigits n) = false := by
  unfold badB
  have h1 : (decDigits n).isEmpty = false := by simpa using dec_ne_nil n
  have h3 : ((decDigits n).all fun c => decide (48 ≤ c.toNat ∧ c.toNat ≤ 57)) = true := by
    rw [List.all_eq_true]; intro c hc; simpa using digs_dec n c hc
  rw [h1, h3]
  by_cases h2 : (decDigits n).headD 0 = 48
  · have h0 := head_dec n h2
    subst h0
    have : decDigits 0 = [48] := by rw [dec_small (by omega)]; rfl
    rw [this]; rfl
  · have : ((decDigits n).headD 0 == 48) = false := by simpa using h2
    rw [this]; rfl

theorem chk_dec (n : Nat) : chk (decDigits n) = if 4000 < (decDigits n).length then 5 else 0 := by
  unfold chk; rw [bad_dec]; rfl

theorem dec_of_digs : ∀ {l : List UInt8}, l ≠ [] → Digs l → (l.headD 0 = 48 → l.length ≤ 1) → decDigits (dv l) = l := by
  intro l
  induction l using snoc_ind with
  | nil => intro h; exact absurd rfl h
  | snoc l c ih =>
    intro _ hd hz
    have hc := hd c (by simp)
    by_cases hl : l = []
    · subst hl
      have e : dv [c] = c.toNat - 48 := by simp [dv]
      rw [List.nil_append, e, dec_small (by omega), show 48 + (c.toNat - 48) = c.toNat by omega, UInt8.ofNat_toNat]
    · have hdl : Digs l := fun x hx => hd x (by simp [hx])
      have hhd : (l ++ [c]).headD 0 = l.headD 0 := by
        cases l with
        | nil => exact absurd rfl hl
        | cons x xs => rfl
      have hnz : l.headD 0 ≠ 48 := by
        intro e
        have := hz (by rw [hhd]; exact e)
        simp at this; exact hl this
      have ih' := ih hl hdl (fun e => absurd e hnz)
      have hpos : dv l ≠ 0 := by
        intro e
        rw [e, dec_small (by omega)] at ih'
        exact hnz (by rw [← ih']; rfl)
      rw [dv_snoc, dec_big (by omega), show (10 * dv l + (c.toNat - 48)) / 10 = dv l by omega, ih', show (10 * dv l + (c.toNat - 48)) % 10 = c.toNat - 48 by omega, show 48 + (c.toNat - 48) = c.toNat by omega, UInt8.ofNat_toNat]

theorem good_parts {l : List UInt8} (h : badB l = false) : l ≠ [] ∧ Digs l ∧ (l.headD 0 = 48 → l.length ≤ 1) := by
  unfold badB at h
  simp only [Bool.or_eq_false_iff, Bool.and_eq_false_iff, Bool.not_eq_false'] at h
  obtain ⟨⟨h1, h2⟩, h3⟩ := h
  refine ⟨by intro e; subst e; simp at h1, fun c hc => by simpa using List.all_eq_true.1 h3 c hc, fun e => ?_⟩
  rcases h2 with h2 | h2
  · rw [e] at h2; simp at h2
  · simpa using h2

/-- A text that Check accepts is a number's numeral. -/
theorem dec_of_chk {l : List UInt8} (h : chk l = 0) : decDigits (dv l) = l ∧ l.length ≤ 4000 := by
  unfold chk at h
  by_cases hb : badB l = true
  · rw [if_pos hb] at h; omega
  · rw [if_neg hb] at h
    obtain ⟨h1, h2, h3⟩ := good_parts (l := l) (by simpa using hb)
    refine ⟨dec_of_digs h1 h2 h3, ?_⟩
    by_cases hl : 4000 < l.length
    · rw [if_pos hl] at h; omega
    · omega

end Go.Proofs.YtiocehlefpbbhaaGreatDoor.NV
