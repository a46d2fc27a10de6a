/-
  What PickNear asks: how far counts lie below shares; how many bit strings are late. The probability of a key. What PickNear asks of rationals: gaps and sums of shares. What value returns of Law's and Exact's lists. PickNear's walk over weights that may be drawn with. PickNear returns true for any weights and int.
-/
import Derived.Test.YtpkbppfgmpcpcaaGreatDoorEA
import Derived.Test.YtpkbppfgmpcpcaaGreatDoorEE
import Derived.Test.YtpkbppfgmpcpcaaGreatDoorHL
import Derived.Test.YtpkbppfgmpcpcaaGreatDoorU20
import Derived.Test.YtpkbppfgmpcpcaaGreatDoorU19
namespace Go.Proofs.YtpkbppfgmpcpcaaGreatDoor
open Go.RowKit NV
open Go.Lib (decDigits)

theorem up_ge {a c : Nat} (hc : 0 < c) : a ≤ upD a c * c := (upD_le hc).1 (Nat.le_refl _)
theorem up_lt {a c : Nat} (hc : 0 < c) : upD a c * c < a + c := by
  rcases Nat.eq_zero_or_pos (upD a c) with h | h
  · rw [h, Nat.zero_mul]; omega
  · obtain ⟨k, hk⟩ : ∃ k, upD a c = k + 1 := ⟨upD a c - 1, by omega⟩
    have h1 : ¬ (a ≤ k * c) := fun h2 => by have := (upD_le hc).2 h2; omega
    rw [hk, Nat.succ_mul]; omega
theorem div_up {a c : Nat} (hc : 0 < c) : a < (a / c + 1) * c := by
  rcases Nat.lt_or_ge a ((a / c + 1) * c) with h | h
  · exact h
  · have := (le_div hc).2 h; omega

/-- A count is at most the share. -/
theorem cnt_upper {g : Nat → Nat} {m n j : Nat} (h : 0 < wsum g m) : cntP (wsum g) m n j * wsum g m ≤ g j * 2 ^ n := by
  have h1 : endP (wsum g) m n j * wsum g m ≤ wsum g (j + 1) * 2 ^ n := Nat.div_mul_le_self _ _
  have h2 : wsum g j * 2 ^ n ≤ fstP (wsum g) m n j * wsum g m := up_ge h
  have h3 : wsum g (j + 1) * 2 ^ n = wsum g j * 2 ^ n + g j * 2 ^ n := Nat.add_mul _ _ _
  show (endP (wsum g) m n j - fstP (wsum g) m n j) * wsum g m ≤ _
  rw [Nat.sub_mul]; omega
/-- A count is less than two below the share. -/
theorem cnt_lower {g : Nat → Nat} {m n j : Nat} (h : 0 < wsum g m) : g j * 2 ^ n < (cntP (wsum g) m n j + 2) * wsum g m := by
  have h1 : wsum g (j + 1) * 2 ^ n < (endP (wsum g) m n j + 1) * wsum g m := div_up h
  have h2 : fstP (wsum g) m n j * wsum g m < wsum g j * 2 ^ n + wsum g m := up_lt h
  have h3 : wsum g (j + 1) * 2 ^ n = wsum g j * 2 ^ n + g j * 2 ^ n := Nat.add_mul _ _ _
  show _ < ((endP (wsum g) m n j - fstP (wsum g) m n j) + 2) * wsum g m
  rw [Nat.add_mul] at h1
  rw [Nat.add_mul, Nat.sub_mul]
  omega

/-- How many of the first i weights are not 0. -/
def someN (g : Nat → Nat) : Nat → Nat
  | 0 => 0
  | i + 1 => someN g i + (if g i = 0 then 0 else 1)
theorem up_zero (c : Nat) : upD 0 c = 0 := by unfold upD; simp
theorem late_step {g : Nat → Nat} {m n : Nat} (h : 0 < wsum g m) : ∀ i, (wsum g i = 0 ∧ someN g i = 0) ∨ (1 ≤ someN g i ∧ wsum g i * 2 ^ n / wsum g m + 1 ≤ sumP (wsum g) m n i + someN g i)
  | 0 => .inl ⟨rfl, rfl⟩
  | i + 1 => by
    have ih := late_step (n := n) h i
    have hs : sumP (wsum g) m n (i + 1) = sumP (wsum g) m n i + (wsum g (i + 1) * 2 ^ n / wsum g m - upD (wsum g i * 2 ^ n) (wsum g m)) := rfl
    have hw : wsum g (i + 1) = wsum g i + g i := rfl
    have hn : someN g (i + 1) = someN g i + (if g i = 0 then 0 else 1) := rfl
    by_cases h0 : g i = 0
    · rw [if_pos h0, Nat.add_zero] at hn
      have hw0 : wsum g (i + 1) = wsum g i := by omega
      rw [hw0, hn]
      rw [hw0] at hs
      rcases ih with h1 | ⟨h1, h2⟩
      · exact .inl h1
      · exact .inr ⟨h1, by omega⟩
    · rw [if_neg h0] at hn
      refine .inr ⟨by omega, ?_⟩
      rcases ih with ⟨h1, h2⟩ | ⟨h1, h2⟩
      · rw [h1, Nat.zero_mul, up_zero] at hs
        omega
      · have h3 := up_le_div (wsum g i * 2 ^ n) (wsum g m)
        omega
/-- Of K weights that are not 0, at most K - 1 bit strings are late. -/
theorem late_some {g : Nat → Nat} {m n : Nat} (h : 0 < wsum g m) : lateP (wsum g) m n + 1 ≤ someN g m := by
  rcases late_step (n := n) h m with ⟨h1, _⟩ | ⟨h1, h2⟩
  · omega
  · rw [Nat.mul_div_cancel_left _ h] at h2
    unfold lateP; omega
theorem some_le (g : Nat → Nat) : ∀ m, someN g m ≤ m
  | 0 => Nat.le_refl _
  | m + 1 => by
    have := some_le g m
    show someN g m + (if g m = 0 then 0 else 1) ≤ _
    split <;> omega

open Go.RowKit NV
open Go.Lib (decDigits)

/-- The first probability of a key, or 0. -/
def valI (k : ByteArray) : List Item → ByteArray
  | [] => ⟨#[48]⟩
  | x :: L => if x.1.data.toList = k.data.toList then x.2 else valI k L
theorem val_hit {key : ByteArray} {x : Item} : ∀ {L : List Item} {k : Nat}, (∀ j y, j < k → L[j]? = some y → y.1.data.toList ≠ key.data.toList) → L[k]? = some x → x.1.data.toList = key.data.toList → valI key L = x.2
  | [], _, _, h, _ => by simp at h
  | y :: L, 0, _, h, he => by
    obtain rfl : y = x := by simpa using h
    show (if y.1.data.toList = key.data.toList then y.2 else _) = _
    rw [if_pos he]
  | y :: L, k + 1, hn, h, he => by
    show (if y.1.data.toList = key.data.toList then y.2 else valI key L) = _
    rw [if_neg (hn 0 y (by omega) rfl)]
    exact val_hit (k := k) (fun j z hj hz => hn (j + 1) z (by omega) hz) h he
theorem val_none {key : ByteArray} : ∀ {L : List Item}, (∀ (j : Nat) (y : Item), L[j]? = some y → y.1.data.toList ≠ key.data.toList) → valI key L = ⟨#[48]⟩
  | [], _ => rfl
  | y :: L, hn => by
    show (if y.1.data.toList = key.data.toList then y.2 else valI key L) = _
    rw [if_neg (hn 0 y rfl)]
    exact val_none (fun j z hz => hn (j + 1) z hz)

set_option maxHeartbeats 3200000 in
set_option maxRecDepth 100000 in
theorem value_any {w : World} {b1 : Nat} {v1 : Value} {L : List Item} {key : ByteArray} (h1 : w.ownsRow b1 54 2 v1 L.length (cellsI L)) (hN : L.length ≤ 1000) :
    Calls Tryz.prog 57 #[v1, .string key] w fun e w' => e = .returned (.string (valI key L)) ∧ Below w.heap.size w w' := by
  obtain ⟨N, hL⟩ : ∃ N, L.length = N := ⟨_, rfl⟩
  rw [hL] at h1 hN
  obtain ⟨a1, k1, rfl, _⟩ := row_shape h1
  have HL := Lib.hid hL
  have H1 := Lib.hid h1
  clear h1 hL
  go_enter Tryz.func57, Tryz.ntmps57
  go_wp2_with fail
  go_loopw [5] (fun iv wr => ∃ k : Nat, k ≤ N ∧ iv = .int .i64 (k : Int) ∧ Hid (∀ j y, j < k → L[j]? = some y → y.1.data.toList ≠ key.data.toList) ∧ Below w.heap.size w wr) (fun iv _ => N - (intOf iv).toNat)
  case atStart => exact ⟨0, Nat.zero_le _, rfl, Lib.hid (fun j y hj => absurd hj (Nat.not_lt_zero _)), Below.refl _ _⟩
  case round =>
    obtain ⟨k, hk, rfl, HNK, hb⟩ := hrel
    by_cases hlt : k < N
    · obtain ⟨m, hm⟩ : ∃ m, L[k]? = some m := ⟨L[k]'(by rw [HL.out]; exact hlt), List.getElem?_eq_getElem _⟩
      have HM := Lib.hid hm
      obtain ⟨m1, m2⟩ := m
      have r1 := row_belowP H1.out hb
      obtain ⟨g, cap, hg, _⟩ := mass_formP r1 (by omega)
      simp only [Value.slice.injEq, true_and] at hg
      obtain ⟨rfl, rfl⟩ := hg
      obtain ⟨c0, c1⟩ := mass_cellsP r1 hm
      have HB := Lib.hid hb
      by_cases hq : m1.data.toList = key.data.toList
      · have he : (m1.toList == key.toList) = true := by rw [Go.Lib.toList_data, Go.Lib.toList_data, hq, beq_self_eq_true]
        have HV := Lib.hid (val_hit HNK.out HM.out hq)
        clear hb r1 hm H1 hq HM
        go_wp2_with fail
        go_ret
        exact ⟨by rw [HV.out]; rfl, HB.out⟩
      · have he : (m1.toList == key.toList) = false := by rw [Go.Lib.toList_data, Go.Lib.toList_data]; exact beq_false_of_ne hq
        have HQ := Lib.hid hq
        clear hb r1 hm hq
        go_wp2_with fail
        go_roundw
        case rel => exact ⟨k + 1, by omega, by go_num, Lib.hid (fun j y hj hy => by
          rcases Nat.lt_or_ge j k with h | h
          · exact HNK.out j y h hy
          · obtain rfl : k = j := by omega
            rw [HM.out] at hy
            obtain rfl := Option.some.inj hy
            exact HQ.out), HB.out⟩
        case measure => simp [intOf]; omega
    · have HV := Lib.hid (val_none (key := key) (L := L) (fun j y hy => HNK.out j y (by have := (List.getElem?_eq_some_iff.1 hy).1; have := HL.out; omega) hy))
      have HB := Lib.hid hb
      clear hb
      go_wp2_with fail
      go_ret
      exact ⟨by rw [HV.out]; rfl, HB.out⟩

/-- The probability of a key that stands in a list whose keys differ. -/
theorem val_mem {L : List Item} {x : Item} (hn : (L.map keyI).Nodup) (hx : x ∈ L) : valI x.1 L = x.2 := by
  obtain ⟨k, hk, rfl⟩ := List.mem_iff_getElem.1 hx
  refine val_hit (k := k) (fun j y hj hy he => ?_) (List.getElem?_eq_getElem hk) rfl
  obtain ⟨hj2, rfl⟩ := List.getElem?_eq_some_iff.1 hy
  have h1 := (List.nodup_iff_pairwise_ne.1 hn)
  have h2 := List.pairwise_iff_getElem.1 h1 j k (by simpa using hj2) (by simpa using hk) hj
  simp only [List.getElem_map] at h2
  exact h2 he
/-- The probability of a key that does not stand in a list. -/
theorem val_out {L : List Item} {key : ByteArray} (h : ∀ x, x ∈ L → x.1.data.toList ≠ key.data.toList) : valI key L = ⟨#[48]⟩ :=
  val_none (fun _ y hy => h y (List.mem_of_getElem? hy))

open Go.RowKit NV
open Go.Lib (decDigits)

theorem mk_posP (a b : Nat) : mkQ false a b = mkRat (a : Int) b := by unfold mkQ; simp
theorem mk_negP (a b : Nat) : mkQ true a b = mkRat (-(a : Int)) b := by unfold mkQ; simp
theorem mk_addP (a b : Nat) {d : Nat} (hd : d ≠ 0) : mkQ false a d + mkQ false b d = mkQ false (a + b) d := by
  rw [mk_posP, mk_posP, mk_posP, Rat.mkRat_add_mkRat _ _ hd hd, ← Int.add_mul, Rat.mkRat_mul_right hd]; rfl
/-- A share is its count's share and the gap. -/
theorem gap_sum {c t A D : Nat} (hA : A ≠ 0) (hD : D ≠ 0) (h : c * D ≤ t * A) : mkQ false c A + mkQ false (t * A - c * D) (D * A) = mkQ false t D := by
  obtain ⟨R, hR⟩ : ∃ R, t * A = c * D + R := ⟨t * A - c * D, by omega⟩
  rw [show t * A - c * D = R by omega, mk_posP, mk_posP, mk_posP, Rat.mkRat_add_mkRat _ _ hA (Nat.mul_ne_zero hD hA), Rat.mkRat_eq_iff (Nat.mul_ne_zero hA (Nat.mul_ne_zero hD hA)) hD]
  have e : (c * (D * A) + R * A) * D = t * (A * (D * A)) := by
    have e1 : c * (D * A) + R * A = (c * D + R) * A := by rw [Nat.add_mul]; congr 1; ac_rfl
    rw [e1, ← hR]; ac_rfl
  exact_mod_cast e
theorem gap_is {c t A D : Nat} (hA : A ≠ 0) (hD : D ≠ 0) (h : c * D ≤ t * A) : mkQ false t D + -(mkQ false c A) = mkQ false (t * A - c * D) (D * A) := by
  have h := gap_sum hA hD h
  generalize mkQ false c A = x at h ⊢
  generalize mkQ false (t * A - c * D) (D * A) = g at h ⊢
  rw [← h, Rat.add_comm x g, Rat.add_assoc, Rat.add_neg_cancel, Rat.add_zero]
/-- A difference of shares that is negative. -/
theorem neg_of {x y : Rat} {E d : Nat} (hd : d ≠ 0) (hE : 0 < E) (h : mkQ true E d + y = x) : cmpQ x y < 0 := by
  rw [← cmpQ_sub, sgn_neg_iff]
  rw [show x + -y = mkQ true E d by rw [← h, Rat.add_assoc, Rat.add_neg_cancel, Rat.add_zero]]
  obtain ⟨_, _, h⟩ := red_parts true E hd
  rw [h]
  have hdv := Nat.gcd_dvd_left E d
  have h8 := Nat.div_pos (Nat.le_of_dvd hE hdv) (Nat.gcd_pos_of_pos_left _ hE)
  rw [decide_eq_false (Nat.pos_iff_ne_zero.1 h8)]; rfl
/-- A gap is less than two shares of one bit string. -/
theorem gap_two {R A D : Nat} (hA : A ≠ 0) (hD : D ≠ 0) (h : R < 2 * D) : cmpQ (mkQ false R (D * A)) (mkQ false 2 A) < 0 := by
  obtain ⟨E, hE⟩ : ∃ E, 2 * D = R + E := ⟨2 * D - R, by omega⟩
  refine neg_of (E := E) (d := D * A) (Nat.mul_ne_zero hD hA) (by omega) ?_
  rw [mk_posP, mk_posP, mk_negP, Rat.mkRat_add_mkRat _ _ (Nat.mul_ne_zero hD hA) hA, Rat.mkRat_eq_iff (Nat.mul_ne_zero (Nat.mul_ne_zero hD hA) hA) (Nat.mul_ne_zero hD hA)]
  have e : (-(E : Int) * (A : Int) + ((2 : Nat) : Int) * ((D * A : Nat) : Int)) = ((R * A : Nat) : Int) := by
    have e3 : 2 * (D * A) = R * A + E * A := by rw [← Nat.mul_assoc, hE, Nat.add_mul]
    have e4 : ((2 : Nat) : Int) * ((D * A : Nat) : Int) = ((R * A : Nat) : Int) + ((E * A : Nat) : Int) := by exact_mod_cast e3
    rw [e4, Int.neg_mul, Int.natCast_mul E A]; omega
  rw [e]
  have e2 : (R * A) * (D * A) = R * (D * A * A) := by ac_rfl
  exact_mod_cast e2
/-- Fewer bit strings have the smaller share. -/
theorem share_le {l k A : Nat} (hA : A ≠ 0) (h : l ≤ k) : cmpQ (mkQ false l A) (mkQ false k A) ≤ 0 := by
  rcases Nat.eq_or_lt_of_le h with rfl | h
  · rw [← cmpQ_sub, Rat.add_neg_cancel]; decide
  · refine Int.le_of_lt (neg_of (E := k - l) (d := A) hA (by omega) ?_)
    obtain ⟨E, rfl⟩ : ∃ E, k = l + E := ⟨k - l, by omega⟩
    rw [Nat.add_sub_cancel_left, mk_posP, mk_posP, mk_negP, Rat.mkRat_add_mkRat _ _ hA hA, ← Int.add_mul, Rat.mkRat_mul_right hA]
    congr 1
    omega
theorem mk_mulP (a b c d : Nat) : mkQ false a b * mkQ false c d = mkQ false (a * c) (b * d) := by
  rw [mk_posP, mk_posP, mk_posP, Rat.mkRat_mul_mkRat]; rfl
/-- k times the share of one bit string. -/
theorem times_share (k A : Nat) : mkQ false k 1 * mkQ false 1 A = mkQ false k A := by rw [mk_mulP, Nat.mul_one, Nat.one_mul]

open Go.RowKit NV
open Go.Lib (decDigits)

theorem qstr_intP {q : Rat} (hn : ng q = false) (hd : q.den = 1) : qstr q = dstr (tp q) := by
  unfold qstr; rw [rstr_eq, if_pos hd, hn]; rfl
theorem q0P : qstr 0 = ⟨#[48]⟩ := (qstr_intP (q := 0) rfl rfl).trans zero_str.symm
theorem q1P : qstr 1 = ⟨#[49]⟩ := (qstr_intP (q := 1) rfl rfl).trans one_str.symm
theorem share_zero (M : Nat) : qstr (mkQ false 0 M) = ⟨#[48]⟩ := by
  rw [show mkQ false 0 M = 0 by unfold mkQ; simp]; exact q0P
theorem share_one {T : Nat} (h : T ≠ 0) : mkQ false T T = 1 := by
  rw [mk_posP, show (1 : Rat) = mkRat 1 1 from rfl, Rat.mkRat_eq_iff h (by omega)]; omega
theorem sort_nodup {L : List Item} (h : (L.map keyI).Nodup) : ((sortI L).map keyI).Nodup := (((sortI_perm L).map keyI).nodup_iff).2 h
theorem items_val {g : Nat → Nat} {M N i : Nat} (hi : i < N) : valI (dstr i) (sortI (itemsP g M N)) = qstr (mkQ false (g i) M) := by
  by_cases h0 : g i = 0
  · rw [h0, share_zero]
    refine val_out fun x hx he => ?_
    obtain ⟨j, _, hj, rfl⟩ := items_mem.1 ((sortI_perm _).mem_iff.1 hx)
    have : j = i := dstr_injP (ba_extP he)
    subst this; exact hj h0
  · exact val_mem (x := (dstr i, qstr (mkQ false (g i) M))) (sort_nodup (items_nodup _ _ _)) ((sortI_perm _).mem_iff.2 (items_mem.2 ⟨i, hi, h0, rfl⟩))
theorem law_val {g : Nat → Nat} {lt M N i : Nat} (hi : i < N) : valI (dstr i) (sortI (lawL g lt M N)) = qstr (mkQ false (g i) M) := by
  by_cases h0 : g i = 0
  · rw [h0, share_zero]
    refine val_out fun x hx he => ?_
    rcases List.mem_append.1 ((sortI_perm _).mem_iff.1 hx) with hx | hx
    · obtain ⟨j, _, hj, rfl⟩ := items_mem.1 hx
      have : j = i := dstr_injP (ba_extP he)
      subst this; exact hj h0
    · by_cases hl : lt = 0
      · rw [if_pos hl] at hx; simp at hx
      · rw [if_neg hl] at hx
        obtain rfl := List.mem_singleton.1 hx
        exact late_not i he.symm
  · exact val_mem (x := (dstr i, qstr (mkQ false (g i) M))) (sort_nodup (law_nodup _ _ _ _)) ((sortI_perm _).mem_iff.2 (List.mem_append_left _ (items_mem.2 ⟨i, hi, h0, rfl⟩)))
theorem late_val {g : Nat → Nat} {lt M N : Nat} : valI lateS (sortI (lawL g lt M N)) = qstr (mkQ false lt M) := by
  by_cases h0 : lt = 0
  · rw [h0, share_zero]
    refine val_out fun x hx he => ?_
    rcases List.mem_append.1 ((sortI_perm _).mem_iff.1 hx) with hx | hx
    · obtain ⟨j, _, hj, rfl⟩ := items_mem.1 hx
      exact late_not j he
    · rw [if_pos rfl] at hx; simp at hx
  · exact val_mem (x := (lateS, qstr (mkQ false lt M))) (sort_nodup (law_nodup _ _ _ _)) ((sortI_perm _).mem_iff.2 (List.mem_append_right _ (by rw [if_neg h0]; exact List.mem_singleton.2 rfl)))

open Go.RowKit NV
open Go.Lib (decDigits)

set_option maxHeartbeats 12800000 in
set_option maxRecDepth 100000 in
theorem pnear_walk {ao : Option Addr} {N cap : Nat} {f : Nat → ByteArray} {n : Int} {w : World} (h : PRow w ao N f) (htab : Tab w) (hN : N ≤ 70) (hl : wLong f N = false)
    {M M2 : Nat} {SL SX : List Item} {A B G TT : Nat → ByteArray} {sg ls : Nat → Int} {sm : Nat → Nat} {ssz stw sM sl : ByteArray} {ov : Int}
    (hLaw : ∀ W, Below w.heap.size w W → Calls Tryz.prog 49 #[.slice ao N cap, .int .i64 n] W fun e w1 => ∃ v, e = .returned (.tuple #[v, .int .i64 0]) ∧ w1.ownsRow W.heap.size 54 2 v M (cellsI SL) ∧ Below W.heap.size W w1)
    (hEx : ∀ W, Below w.heap.size w W → Calls Tryz.prog 51 #[.slice ao N cap] W fun e w1 => ∃ v, e = .returned (.tuple #[v, .int .i64 0]) ∧ w1.ownsRow W.heap.size 54 2 v M2 (cellsI SX) ∧ Below W.heap.size W w1)
    (hM : SL.length = M) (hM2 : SX.length = M2) (hMb : M ≤ 100) (hMb2 : M2 ≤ 100)
    (hA : ∀ i, i < N → valI (dstr i) SL = A i) (hB : ∀ i, i < N → valI (dstr i) SX = B i) (hlv : valI lateS SL = sl)
    (hpow : ∀ W, Calls Tryz.prog 54 #[.string ⟨#[49, 47, 50]⟩, .int .i64 n] W fun e w1 => e = .returned (.tuple #[.string ssz, .int .i64 0]) ∧ Below W.heap.size W w1)
    (htw : ∀ W, Calls Tryz.prog 55 #[.string ⟨#[50]⟩, .string ssz] W fun e w1 => e = .returned (.tuple #[.string stw, .int .i64 0]) ∧ Below W.heap.size W w1)
    (hsub : ∀ i, i < N → ∀ W, Calls Tryz.prog 58 #[.string (B i), .string (A i)] W fun e w1 => e = .returned (.tuple #[.string (G i), .int .i64 0]) ∧ Below W.heap.size W w1)
    (hsgn : ∀ i, i < N → ∀ W, Calls Tryz.prog 59 #[.string (G i)] W fun e w1 => e = .returned (.tuple #[.int .i64 (sg i), .int .i64 0]) ∧ Below W.heap.size W w1)
    (hcmp : ∀ i, i < N → ∀ W, Calls Tryz.prog 60 #[.string (G i), .string stw] W fun e w1 => e = .returned (.tuple #[.int .i64 (ls i), .int .i64 0]) ∧ Below W.heap.size W w1)
    (hadd : ∀ i, i < N → ∀ W, Calls Tryz.prog 61 #[.string (TT i), .string (B i)] W fun e w1 => e = .returned (.tuple #[.string (TT (i + 1)), .int .i64 0]) ∧ Below W.heap.size W w1)
    (hmost : ∀ W, Calls Tryz.prog 55 #[.string (dstr (sm N - 1)), .string ssz] W fun e w1 => e = .returned (.tuple #[.string sM, .int .i64 0]) ∧ Below W.heap.size W w1)
    (hover : ∀ W, Calls Tryz.prog 60 #[.string sl, .string sM] W fun e w1 => e = .returned (.tuple #[.int .i64 ov, .int .i64 0]) ∧ Below W.heap.size W w1)
    (hs0 : ∀ i, 0 ≤ sg i) (hl0 : ∀ i, ls i < 0) (hov : ov ≤ 0) (ht0 : TT 0 = ⟨#[48]⟩) (ht1 : TT N = ⟨#[49]⟩)
    (hz : ∀ i, i < N → ((f i).toList == [48]) = true → ((B i).toList == [48]) = true) (hsm0 : sm 0 = 0) (hsm : ∀ i, i < N → sm (i + 1) = sm i + (if ((f i).toList == [48]) = true then 0 else 1)) (hsl : ∀ i, sm i ≤ i) (hs1 : 1 ≤ sm N) :
    Calls Tryz.prog 6 #[.slice ao N cap, .int .i64 n] w fun e w' => e = .returned (.bool true) ∧ Below w.heap.size w w' := by
  have HL := Lib.hid (lives5_any w htab)
  have hlg := fun W (hb : Below w.heap.size w W) => long_any (cap := cap) (h.below hb) (by omega)
  rw [hl] at hlg
  have HLG := Lib.hid hlg
  have HW := Lib.hid (fun W (hb : Below w.heap.size w W) => h.below hb)
  have HLAW := Lib.hid hLaw
  have HEX := Lib.hid hEx
  have HVA := Lib.hid (fun (W : World) (b : Nat) (v : Value) (i : Nat) (hi : i < N) (hr : W.ownsRow b 54 2 v M (cellsI SL)) => show Calls Tryz.prog 57 #[v, .string (dstr i)] W (fun e w1 => e = .returned (.string (A i)) ∧ Below W.heap.size W w1) from by
    have h1 := value_any (key := dstr i) (show W.ownsRow b 54 2 v SL.length (cellsI SL) by rw [hM]; exact hr) (by omega)
    rw [hA i hi] at h1; exact h1)
  have HVB := Lib.hid (fun (W : World) (b : Nat) (v : Value) (i : Nat) (hi : i < N) (hr : W.ownsRow b 54 2 v M2 (cellsI SX)) => show Calls Tryz.prog 57 #[v, .string (dstr i)] W (fun e w1 => e = .returned (.string (B i)) ∧ Below W.heap.size W w1) from by
    have h1 := value_any (key := dstr i) (show W.ownsRow b 54 2 v SX.length (cellsI SX) by rw [hM2]; exact hr) (by omega)
    rw [hB i hi] at h1; exact h1)
  have HVL := Lib.hid (fun (W : World) (b : Nat) (v : Value) (hr : W.ownsRow b 54 2 v M (cellsI SL)) => show Calls Tryz.prog 57 #[v, .string lateS] W (fun e w1 => e = .returned (.string sl) ∧ Below W.heap.size W w1) from by
    have h1 := value_any (key := lateS) (show W.ownsRow b 54 2 v SL.length (cellsI SL) by rw [hM]; exact hr) (by omega)
    rw [hlv] at h1; exact h1)
  have HINT := Lib.hid (fun (i : Nat) (hi : i ≤ 1000) W => rInt_nat i (by omega) W)
  have HPOW := Lib.hid hpow
  have HTW := Lib.hid htw
  have HSUB := Lib.hid hsub
  have HSGN := Lib.hid hsgn
  have HCMP := Lib.hid hcmp
  have HADD := Lib.hid hadd
  have HMOST := Lib.hid hmost
  have HOVER := Lib.hid hover
  have HS0 := Lib.hid hs0
  have HL0 := Lib.hid hl0
  have HT0 := Lib.hid ht0
  have HT1 := Lib.hid ht1
  have HZ := Lib.hid hz
  have HSM0 := Lib.hid hsm0
  have HSM := Lib.hid hsm
  have HSL := Lib.hid hsl
  have HS1 := Lib.hid hs1
  clear h htab hl hLaw hEx hM hM2 hMb hMb2 hA hB hlv hpow htw hsub hsgn hcmp hadd hmost hover hs0 hl0 ht0 ht1 hz hsm0 hsm hsl hs1 hlg
  go_enter Tryz.func6, Tryz.ntmps6
  go_wp2_with fail
  refine HL.out.mono ?_
  rintro e w1 ⟨rfl, hb⟩
  have HB := Lib.hid hb
  clear hb HL
  go_wp2_with fail
  refine (HLG.out _ HB.out).mono ?_
  rintro e w2 ⟨rfl, rfl⟩
  clear HLG
  go_wp2_with fail
  refine (HLAW.out _ HB.out).mono ?_
  rintro e w2 ⟨v, rfl, hrow, hb⟩
  replace HB := Lib.hid (HB.out.trans (hb.mono HB.out.size))
  obtain ⟨vo, vc, rfl, _⟩ := row_shape hrow
  have HR1 := Lib.hid hrow
  clear hb HLAW hrow
  go_wp2_with fail
  refine (HEX.out _ HB.out).mono ?_
  rintro e w3 ⟨v, rfl, hrow, hb⟩
  replace HB := Lib.hid (HB.out.trans (hb.mono HB.out.size))
  replace HR1 := Lib.hid (row_belowP HR1.out hb)
  obtain ⟨xo, xc, rfl, _⟩ := row_shape hrow
  have HR2 := Lib.hid hrow
  clear hb HEX hrow
  go_wp2_with fail
  refine (HPOW.out _).mono ?_
  rintro e w4 ⟨rfl, hb⟩
  replace HB := Lib.hid (HB.out.trans (hb.mono HB.out.size))
  replace HR1 := Lib.hid (row_belowP HR1.out hb)
  replace HR2 := Lib.hid (row_belowP HR2.out hb)
  clear hb
  clear HPOW
  go_wp2_with fail
  refine (HTW.out _).mono ?_
  rintro e w5 ⟨rfl, hb⟩
  replace HB := Lib.hid (HB.out.trans (hb.mono HB.out.size))
  replace HR1 := Lib.hid (row_belowP HR1.out hb)
  replace HR2 := Lib.hid (row_belowP HR2.out hb)
  clear hb
  clear HTW
  go_wp2_with fail
  go_loopw [13, 14, 15] (fun mv tv iv wr => ∃ i : Nat, i ≤ N ∧ mv = .int .i64 ((sm i : Nat) : Int) ∧ tv = .string (TT i) ∧ iv = .int .i64 (i : Int) ∧ Below w5.heap.size w5 wr) (fun _ _ iv _ => N - (intOf iv).toNat)
  case atStart => exact ⟨0, Nat.zero_le _, by rw [HSM0.out]; rfl, by rw [HT0.out], rfl, Below.refl _ _⟩
  case round =>
    obtain ⟨i, hi, rfl, rfl, rfl, hbr⟩ := hrel
    have hsi := HSL.out i
    have HBR := Lib.hid hbr
    clear hbr
    by_cases hlt : i < N
    · have hs0 := HS0.out i
      have hl0 := HL0.out i
      have HSUBi := Lib.hid (HSUB.out i hlt)
      have HSGNi := Lib.hid (HSGN.out i hlt)
      have HCMPi := Lib.hid (HCMP.out i hlt)
      have HADDi := Lib.hid (HADD.out i hlt)
      have HZi := Lib.hid (HZ.out i hlt)
      have HSMi := Lib.hid (HSM.out i hlt)
      go_wp2_with fail
      refine (HINT.out i (by omega) _).mono ?_
      rintro e w6 ⟨rfl, hb⟩
      replace HBR := Lib.hid (HBR.out.trans (hb.mono HBR.out.size))
      clear hb
      go_wp2_with fail
      refine (HVA.out _ _ _ i hlt (row_belowP HR1.out HBR.out)).mono ?_
      rintro e w7 ⟨rfl, hb⟩
      replace HBR := Lib.hid (HBR.out.trans (hb.mono HBR.out.size))
      clear hb
      go_wp2_with fail
      refine (HVB.out _ _ _ i hlt (row_belowP HR2.out HBR.out)).mono ?_
      rintro e w8 ⟨rfl, hb⟩
      replace HBR := Lib.hid (HBR.out.trans (hb.mono HBR.out.size))
      clear hb
      go_wp2_with fail
      refine (HSUBi.out _).mono ?_
      rintro e w9 ⟨rfl, hb⟩
      replace HBR := Lib.hid (HBR.out.trans (hb.mono HBR.out.size))
      clear hb
      go_wp2_with fail
      refine (HSGNi.out _).mono ?_
      rintro e w10 ⟨rfl, hb⟩
      replace HBR := Lib.hid (HBR.out.trans (hb.mono HBR.out.size))
      clear hb
      go_wp2_with fail
      refine (HCMPi.out _).mono ?_
      rintro e w11 ⟨rfl, hb⟩
      replace HBR := Lib.hid (HBR.out.trans (hb.mono HBR.out.size))
      clear hb
      obtain ⟨a, rfl, _, hcell⟩ := (HW.out _ (HB.out.trans (HBR.out.mono HB.out.size))).at hlt
      cases hq : ((f i).toList == [48]) with
      | true =>
        have hbz := HZi.out hq
        have HS2 := Lib.hid (show sm (i + 1) = sm i by rw [HSMi.out, if_pos hq, Nat.add_zero])
        go_wp2_with fail
        refine (HADDi.out _).mono ?_
        rintro e w12 ⟨rfl, hb⟩
        replace HBR := Lib.hid (HBR.out.trans (hb.mono HBR.out.size))
        clear hb
        go_wp2_with fail
        go_roundw
        case rel => exact ⟨i + 1, by omega, by rw [HS2.out], rfl, by go_num, HBR.out⟩
        case measure => simp [intOf]; omega
      | false =>
        have HS2 := Lib.hid (show sm (i + 1) = sm i + 1 by rw [HSMi.out, hq]; rfl)
        go_wp2_with fail
        refine (HADDi.out _).mono ?_
        rintro e w12 ⟨rfl, hb⟩
        replace HBR := Lib.hid (HBR.out.trans (hb.mono HBR.out.size))
        clear hb
        go_wp2_with fail
        go_roundw
        case rel => exact ⟨i + 1, by omega, by rw [HS2.out]; go_num, rfl, by go_num, HBR.out⟩
        case measure => simp [intOf]; omega
    · obtain rfl : N = i := by omega
      rw [HT1.out]
      have hs1 := HS1.out
      have hsN := HSL.out N
      obtain ⟨k1, hk1⟩ : ∃ k1, sm N = k1 + 1 := ⟨sm N - 1, by omega⟩
      have HE := Lib.hid (show ((sm N : Nat) : Int) - 1 = (k1 : Int) by omega)
      have hmo := HMOST.out
      rw [show sm N - 1 = k1 by omega] at hmo
      have HMO := Lib.hid hmo
      have hk9 : k1 ≤ 1000 := by omega
      have HI1 := Lib.hid (HINT.out k1 hk9)
      have hb1 : (1 : Int) ≤ ((sm N : Nat) : Int) := by omega
      have hb2 : ((sm N : Nat) : Int) ≤ 1000 := by omega
      clear hmo hk1 hs1 hsN hk9 HMOST HINT
      go_wp2_with fail
      rw [HE.out]
      refine (HI1.out _).mono ?_
      rintro e w20 ⟨rfl, hb⟩
      replace HBR := Lib.hid (HBR.out.trans (hb.mono HBR.out.size))
      clear hb HI1 hb1 hb2 HE
      go_wp2_with fail
      refine (HMO.out _).mono ?_
      rintro e w21 ⟨rfl, hb⟩
      replace HBR := Lib.hid (HBR.out.trans (hb.mono HBR.out.size))
      clear hb
      go_wp2_with fail
      refine (HVL.out _ _ _ (row_belowP HR1.out HBR.out)).mono ?_
      rintro e w22 ⟨rfl, hb⟩
      replace HBR := Lib.hid (HBR.out.trans (hb.mono HBR.out.size))
      clear hb
      go_wp2_with fail
      refine (HOVER.out _).mono ?_
      rintro e w23 ⟨rfl, hb⟩
      replace HBR := Lib.hid (HBR.out.trans (hb.mono HBR.out.size))
      clear hb
      go_wp2_with fail
      go_ret
      exact ⟨ret_bool (by simp), HB.out.trans (HBR.out.mono HB.out.size)⟩

open Go.RowKit NV
open Go.Lib (decDigits)

def qHalfN : Rat := ⟨1, 2, by decide, by decide⟩
theorem halfN_str : qstr qHalfN = ⟨#[49, 47, 50]⟩ := (frac_str false 1 2 (by omega) (by omega) (by omega)).trans rfl
theorem halfN_ok : QOk qHalfN := ⟨ok_two (n := 2) (by omega) (by decide), ok_two (n := 2) (by omega) (by decide)⟩
theorem twoN_nz (n : Nat) : (2 ^ n : Nat) ≠ 0 := Nat.pos_iff_ne_zero.1 (Nat.pow_pos (by omega))
theorem halfN_pow : ∀ n : Nat, qHalfN ^ n = mkQ false 1 (2 ^ n)
  | 0 => by rw [Rat.pow_zero]; rfl
  | n + 1 => by
    rw [Rat.pow_succ, halfN_pow n]
    rw [mk_posP, mk_posP, show qHalfN = mkRat 1 2 from rfl, Rat.mkRat_mul_mkRat, Nat.pow_succ]; rfl
theorem qstr_natP (k : Nat) : qstr (mkQ false k 1) = dstr k := by
  obtain ⟨r1, r2, r3⟩ := red_parts false k (show (1 : Nat) ≠ 0 by omega)
  rw [qstr_intP (by rw [r3]; rfl) (by rw [r2, Nat.gcd_one_right, Nat.div_one]), r1, Nat.gcd_one_right, Nat.div_one]
theorem ngN (a b : Nat) (hb : b ≠ 0) : ng (mkQ false a b) = false := by
  obtain ⟨_, _, r3⟩ := red_parts false a hb
  rw [r3]; rfl

theorem near_w {f : Nat → ByteArray} {N : Nat} (hw : WOk f N) (hls : ∀ j, j < N → (f j).size ≤ 300) : ∃ K, K = 300 ∧ ∀ j, j < N → wN f j ≤ 10 ^ K := by
  refine ⟨300, rfl, fun j hj => ?_⟩
  obtain ⟨K, hK⟩ : ∃ K, K = 300 := ⟨_, rfl⟩
  have h := hls j hj
  rw [hw.text j hj, dstr_size, ← hK, dec_len_le (by omega)] at h
  rw [← hK]; exact Nat.le_of_lt h
theorem near_big {f : Nat → ByteArray} {N n : Nat} (hw : WOk f N) (hls : ∀ j, j < N → (f j).size ≤ 300) (hN : N ≤ 70) (hn : n ≤ 256) : Ok (wsum (wN f) N * 2 ^ n) := by
  obtain ⟨K, hK, h⟩ := near_w hw hls
  have h1 : wsum (wN f) N ≤ N * 10 ^ K := wsum_le h
  have h2 : N * 10 ^ K ≤ 70 * 10 ^ K := Nat.mul_le_mul_right _ hN
  have h3 : 2 ^ n ≤ 10 ^ n := Nat.pow_le_pow_left (by omega) n
  have h4 : wsum (wN f) N * 2 ^ n ≤ 70 * 10 ^ K * 10 ^ n := Nat.mul_le_mul (Nat.le_trans h1 h2) h3
  have h5 : 70 * 10 ^ K * 10 ^ n < 10 ^ (2 + (K + n)) := by
    rw [Nat.pow_add 10 2, Nat.pow_add, Nat.mul_assoc]
    exact Nat.mul_lt_mul_of_pos_right (by decide) (Nat.mul_pos (Nat.pow_pos (by omega)) (Nat.pow_pos (by omega)))
  exact ok_smallP (by omega) (Nat.lt_of_le_of_lt h4 h5)

set_option maxHeartbeats 1600000 in
theorem pnear_yes {ao : Option Addr} {N cap n : Nat} {f : Nat → ByteArray} {w : World} (h : PRow w ao N f) (hw : WOk f N) (hl : wLong f N = false) (hn : n ≤ 256) (htab : Tab w) :
    Calls Tryz.prog 6 #[.slice ao N cap, .int .i64 (n : Int)] w fun e w' => e = .returned (.bool true) ∧ Below w.heap.size w w' := by
  obtain ⟨hls, h70⟩ := wLong_no hl
  have hT : 0 < wsum (wN f) N := hw.pos
  have hT0 : wsum (wN f) N ≠ 0 := Nat.pos_iff_ne_zero.1 hT
  have h20 := twoN_nz n
  have okB : Ok (wsum (wN f) N * 2 ^ n) := near_big hw hls h70 hn
  have okT : Ok (wsum (wN f) N) := okB.mono (Nat.le_mul_of_pos_right _ (Nat.pow_pos (by omega)))
  have ok2 : Ok (2 ^ n) := ok_two (n := n) (by omega) (Nat.le_refl _)
  have hle : ∀ i, i ≤ N → wsum (wN f) i ≤ wsum (wN f) N := fun i hi => wsum_mono _ i N hi
  have hg : ∀ i, i < N → wN f i ≤ wsum (wN f) N := fun i hi => by
    have h1 := hle (i + 1) hi
    have h2 : wsum (wN f) (i + 1) = wsum (wN f) i + wN f i := rfl
    omega
  have hcu : ∀ i, cntP (wsum (wN f)) N n i * wsum (wN f) N ≤ wN f i * 2 ^ n := fun i => cnt_upper hT
  have hcl : ∀ i, wN f i * 2 ^ n - cntP (wsum (wN f)) N n i * wsum (wN f) N < 2 * wsum (wN f) N := fun i => by
    have h1 := cnt_lower (g := wN f) (m := N) (n := n) (j := i) hT
    have h2 := hcu i
    rw [Nat.add_mul] at h1
    omega
  have okA : ∀ i, i < N → QOk (mkQ false (cntP (wsum (wN f)) N n i) (2 ^ n)) := fun i hi => qok_mk (ok2.mono (cnt_le hw.sc hi)) ok2 h20
  have okBi : ∀ i, i < N → QOk (mkQ false (wN f i) (wsum (wN f) N)) := fun i hi => qok_mk (okT.mono (hg i hi)) okT hT0
  have okG : ∀ i, i < N → QOk (mkQ false (wN f i * 2 ^ n - cntP (wsum (wN f)) N n i * wsum (wN f) N) (wsum (wN f) N * 2 ^ n)) := fun i hi =>
    qok_mk (okB.mono (Nat.le_trans (Nat.sub_le _ _) (Nat.mul_le_mul_right _ (hg i hi)))) okB (Nat.mul_ne_zero hT0 h20)
  have okTT : ∀ i, i ≤ N → QOk (mkQ false (wsum (wN f) i) (wsum (wN f) N)) := fun i hi => qok_mk (okT.mono (hle i hi)) okT hT0
  have okS : QOk (mkQ false 1 (2 ^ n)) := qok_mk (ok_two (n := 1) (by omega) (by omega)) ok2 h20
  have okS2 : QOk (mkQ false 2 (2 ^ n)) := qok_mk (ok_two (n := 1) (by omega) (by omega)) ok2 h20
  have hsn := late_some (g := wN f) (m := N) (n := n) hT
  have hsN := some_le (wN f) N
  have okK : ∀ k, k ≤ 70 → Ok k := fun k hk => ok_two (n := 7) (by omega) (Nat.le_trans hk (by decide))
  have okM : QOk (mkQ false (someN (wN f) N - 1) (2 ^ n)) := qok_mk (okK _ (by omega)) ok2 h20
  have okL : QOk (mkQ false (lateP (wsum (wN f)) N n) (2 ^ n)) := qok_mk (ok2.mono (Nat.sub_le _ _)) ok2 h20
  have ok1 : Ok 1 := okK 1 (by omega)
  have d1 := fun W (hb : Below w.heap.size w W) => pLaw_ok (cap := cap) (h.below hb) hw hn (htab.below hb)
  have d2 := fun W (hb : Below w.heap.size w W) => pExact_ok (cap := cap) (h.below hb) hw (htab.below hb)
  have l1 : (sortI (lawL (cntP (wsum (wN f)) N n) (lateP (wsum (wN f)) N n) (2 ^ n) N)).length = (lawL (cntP (wsum (wN f)) N n) (lateP (wsum (wN f)) N n) (2 ^ n) N).length := (sortI_perm _).length_eq
  have l2 : (sortI (itemsP (wN f) (wsum (wN f) N) N)).length = (itemsP (wN f) (wsum (wN f) N) N).length := (sortI_perm _).length_eq
  have l3 : (lawL (cntP (wsum (wN f)) N n) (lateP (wsum (wN f)) N n) (2 ^ n) N).length ≤ 100 := Nat.le_trans (law_len _ _ _ _) (by omega)
  have l4 : (itemsP (wN f) (wsum (wN f) N) N).length ≤ 100 := Nat.le_trans (items_len _ _ _) (by omega)
  have vA : ∀ i, i < N → valI (dstr i) (sortI (lawL (cntP (wsum (wN f)) N n) (lateP (wsum (wN f)) N n) (2 ^ n) N)) = (fun i => qstr (mkQ false (cntP (wsum (wN f)) N n i) (2 ^ n))) i := fun i hi => law_val hi
  have vB : ∀ i, i < N → valI (dstr i) (sortI (itemsP (wN f) (wsum (wN f) N) N)) = (fun i => qstr (mkQ false (wN f i) (wsum (wN f) N))) i := fun i hi => items_val hi
  have vL : valI lateS (sortI (lawL (cntP (wsum (wN f)) N n) (lateP (wsum (wN f)) N n) (2 ^ n) N)) = qstr (mkQ false (lateP (wsum (wN f)) N n) (2 ^ n)) := late_val
  have d3 := fun W => rq_done (r := mkQ false 1 (2 ^ n)) (rPow_pos_p (k := n) W halfN_ok (by omega) rfl) (halfN_pow n) okS
  rw [halfN_str] at d3
  have d4 := fun W => rq_done (r := mkQ false 2 (2 ^ n)) (rMul_q (p := mkQ false 2 1) (q := mkQ false 1 (2 ^ n)) W (qok_mk (okK 2 (by omega)) ok1 (by omega)) okS) (times_share 2 (2 ^ n)) okS2
  rw [qstr_natP, digit_str (n := 2) (by omega)] at d4
  have d5 := fun i (hi : i < N) W => rq_done (r := mkQ false (wN f i * 2 ^ n - cntP (wsum (wN f)) N n i * wsum (wN f) N) (wsum (wN f) N * 2 ^ n)) (rSub_q W (okBi i hi) (okA i hi)) (gap_is h20 hT0 (hcu i)) (okG i hi)
  have d6 := fun i (hi : i < N) W => rSign_q W (okG i hi)
  have d7 := fun i (hi : i < N) W => rCmp_q W (okG i hi) okS2
  have d8 := fun i (hi : i < N) W => rq_done (r := mkQ false (wsum (wN f) (i + 1)) (wsum (wN f) N)) (rAdd_q W (okTT i (Nat.le_of_lt hi)) (okBi i hi)) (mk_addP (wsum (wN f) i) (wN f i) hT0) (okTT (i + 1) hi)
  have d9 := fun W => rq_done (r := mkQ false (someN (wN f) N - 1) (2 ^ n)) (rMul_q (p := mkQ false (someN (wN f) N - 1) 1) (q := mkQ false 1 (2 ^ n)) W (qok_mk (okK _ (by omega)) ok1 (by omega)) okS) (times_share _ (2 ^ n)) okM
  rw [qstr_natP] at d9
  have d10 := fun W => rCmp_q W okL okM
  have s0 : ∀ i, 0 ≤ (fun i => sgnQ (mkQ false (wN f i * 2 ^ n - cntP (wsum (wN f)) N n i * wsum (wN f) N) (wsum (wN f) N * 2 ^ n))) i := fun i => by
    have h2 : ¬ sgnQ (mkQ false (wN f i * 2 ^ n - cntP (wsum (wN f)) N n i * wsum (wN f) N) (wsum (wN f) N * 2 ^ n)) < 0 := fun h => by rw [sgn_neg_iff, ngN _ _ (Nat.mul_ne_zero hT0 h20)] at h; cases h
    show 0 ≤ sgnQ _
    omega
  have s1 : ∀ i, (fun i => cmpQ (mkQ false (wN f i * 2 ^ n - cntP (wsum (wN f)) N n i * wsum (wN f) N) (wsum (wN f) N * 2 ^ n)) (mkQ false 2 (2 ^ n))) i < 0 := fun i => gap_two h20 hT0 (hcl i)
  have s2 : cmpQ (mkQ false (lateP (wsum (wN f)) N n) (2 ^ n)) (mkQ false (someN (wN f) N - 1) (2 ^ n)) ≤ 0 := share_le h20 (by omega)
  have t0 : (fun i => qstr (mkQ false (wsum (wN f) i) (wsum (wN f) N))) 0 = ⟨#[48]⟩ := share_zero _
  have t1 : (fun i => qstr (mkQ false (wsum (wN f) i) (wsum (wN f) N))) N = ⟨#[49]⟩ := by
    show qstr (mkQ false (wsum (wN f) N) (wsum (wN f) N)) = _
    rw [share_one hT0]; exact q1P
  have z0 : ∀ i, i < N → ((f i).toList == [48]) = true → (((fun i => qstr (mkQ false (wN f i) (wsum (wN f) N))) i).toList == [48]) = true := fun i hi hq => by
    rw [hw.text i hi, zero_isP, decide_eq_true_iff] at hq
    show ((qstr (mkQ false (wN f i) (wsum (wN f) N))).toList == [48]) = true
    rw [hq, share_zero]; exact lit_eq [48] _ rfl
  have m1 : ∀ i, i < N → someN (wN f) (i + 1) = someN (wN f) i + (if ((f i).toList == [48]) = true then 0 else 1) := fun i hi => by
    show someN (wN f) i + (if wN f i = 0 then 0 else 1) = _
    rw [show ((f i).toList == [48]) = decide (wN f i = 0) by rw [hw.text i hi]; exact zero_isP _]
    by_cases h0 : wN f i = 0
    · rw [if_pos h0, if_pos (by rw [h0]; rfl)]
    · rw [if_neg h0, if_neg (by rw [decide_eq_false h0]; simp)]
  exact pnear_walk (TT := fun i => qstr (mkQ false (wsum (wN f) i) (wsum (wN f) N))) (sm := someN (wN f)) h htab h70 hl d1 d2 l1 l2 l3 l4 vA vB vL d3 d4 d5 d6 d7 d8 d9 d10 s0 s1 s2 t0 t1 z0 rfl m1 (some_le (wN f)) (by omega)

set_option maxHeartbeats 3200000 in
set_option maxRecDepth 100000 in
theorem pnear_far {ao : Option Addr} {N cap : Nat} {f : Nat → ByteArray} {n : Int} {w : World} (h : PRow w ao N f) (hN : N ≤ 9223372036854775807) (htab : Tab w) (hl : wLong f N = true) :
    Calls Tryz.prog 6 #[.slice ao N cap, .int .i64 n] w fun e w' => e = .returned (.bool true) ∧ Below w.heap.size w w' := by
  have HL := Lib.hid (lives5_any w htab)
  have hlg := fun W (hb : Below w.heap.size w W) => long_any (cap := cap) (h.below hb) hN
  rw [hl] at hlg
  have HLG := Lib.hid hlg
  clear h htab hl hlg hN
  go_enter Tryz.func6, Tryz.ntmps6
  go_wp2_with fail
  refine HL.out.mono ?_
  rintro e w1 ⟨rfl, hb⟩
  have HB := Lib.hid hb
  clear hb HL
  go_wp2_with fail
  refine (HLG.out _ HB.out).mono ?_
  rintro e w2 ⟨rfl, rfl⟩
  clear HLG
  go_wp2_with fail
  go_ret
  exact ⟨rfl, HB.out⟩

set_option maxHeartbeats 3200000 in
set_option maxRecDepth 100000 in
theorem pnear_err {ao : Option Addr} {N cap : Nat} {f : Nat → ByteArray} {n c : Int} {w : World} (h : PRow w ao N f) (hN : N ≤ 9223372036854775807) (htab : Tab w) (hl : wLong f N = false) (hne : (c != 0) = true)
    (h1 : ∀ W, Below w.heap.size w W → Calls Tryz.prog 49 #[.slice ao N cap, .int .i64 n] W fun e w1 => e = .returned (.tuple #[.slice none 0 0, .int .i64 c]) ∧ Below W.heap.size W w1)
    (h2 : ∀ W, Below w.heap.size w W → Calls Tryz.prog 51 #[.slice ao N cap] W fun e w1 => e = .returned (.tuple #[.slice none 0 0, .int .i64 c]) ∧ Below W.heap.size W w1) :
    Calls Tryz.prog 6 #[.slice ao N cap, .int .i64 n] w fun e w' => e = .returned (.bool true) ∧ Below w.heap.size w w' := by
  have HL := Lib.hid (lives5_any w htab)
  have hlg := fun W (hb : Below w.heap.size w W) => long_any (cap := cap) (h.below hb) hN
  rw [hl] at hlg
  have HLG := Lib.hid hlg
  have H1 := Lib.hid h1
  have H2 := Lib.hid h2
  clear h htab hl hlg hN h1 h2
  go_enter Tryz.func6, Tryz.ntmps6
  go_wp2_with fail
  refine HL.out.mono ?_
  rintro e w1 ⟨rfl, hb⟩
  have HB := Lib.hid hb
  clear hb HL
  go_wp2_with fail
  refine (HLG.out _ HB.out).mono ?_
  rintro e w2 ⟨rfl, rfl⟩
  clear HLG
  go_wp2_with fail
  refine (H1.out _ HB.out).mono ?_
  rintro e w2 ⟨rfl, hb⟩
  replace HB := Lib.hid (HB.out.trans (hb.mono HB.out.size))
  clear hb H1
  go_wp2_with fail
  refine (H2.out _ HB.out).mono ?_
  rintro e w3 ⟨rfl, hb⟩
  replace HB := Lib.hid (HB.out.trans (hb.mono HB.out.size))
  clear hb H2
  go_wp2_with fail
  go_ret
  exact ⟨ret_bool (by simp), HB.out⟩

set_option maxHeartbeats 3200000 in
set_option maxRecDepth 100000 in
theorem pnear_rng {ao : Option Addr} {N cap M2 : Nat} {SX : List Item} {f : Nat → ByteArray} {n : Int} {w : World} (h : PRow w ao N f) (hN : N ≤ 9223372036854775807) (htab : Tab w) (hl : wLong f N = false)
    (h1 : ∀ W, Below w.heap.size w W → Calls Tryz.prog 49 #[.slice ao N cap, .int .i64 n] W fun e w1 => e = .returned (.tuple #[.slice none 0 0, .int .i64 2]) ∧ Below W.heap.size W w1)
    (h2 : ∀ W, Below w.heap.size w W → Calls Tryz.prog 51 #[.slice ao N cap] W fun e w1 => ∃ v, e = .returned (.tuple #[v, .int .i64 0]) ∧ w1.ownsRow W.heap.size 54 2 v M2 (cellsI SX) ∧ Below W.heap.size W w1) :
    Calls Tryz.prog 6 #[.slice ao N cap, .int .i64 n] w fun e w' => e = .returned (.bool true) ∧ Below w.heap.size w w' := by
  have HL := Lib.hid (lives5_any w htab)
  have hlg := fun W (hb : Below w.heap.size w W) => long_any (cap := cap) (h.below hb) hN
  rw [hl] at hlg
  have HLG := Lib.hid hlg
  have H1 := Lib.hid h1
  have H2 := Lib.hid h2
  clear h htab hl hlg hN h1 h2
  go_enter Tryz.func6, Tryz.ntmps6
  go_wp2_with fail
  refine HL.out.mono ?_
  rintro e w1 ⟨rfl, hb⟩
  have HB := Lib.hid hb
  clear hb HL
  go_wp2_with fail
  refine (HLG.out _ HB.out).mono ?_
  rintro e w2 ⟨rfl, rfl⟩
  clear HLG
  go_wp2_with fail
  refine (H1.out _ HB.out).mono ?_
  rintro e w2 ⟨rfl, hb⟩
  replace HB := Lib.hid (HB.out.trans (hb.mono HB.out.size))
  clear hb H1
  go_wp2_with fail
  refine (H2.out _ HB.out).mono ?_
  rintro e w3 ⟨v, rfl, hrow, hb⟩
  replace HB := Lib.hid (HB.out.trans (hb.mono HB.out.size))
  obtain ⟨vo, vc, rfl, _⟩ := row_shape hrow
  clear hb H2 hrow
  go_wp2_with fail
  go_ret
  exact ⟨ret_bool (by simp), HB.out⟩

theorem pnear_any {ao : Option Addr} {N cap : Nat} {f : Nat → ByteArray} {n : Int} {w : World} (h : PRow w ao N f) (hN : N ≤ 9223372036854775807) (htab : Tab w) :
    Calls Tryz.prog 6 #[.slice ao N cap, .int .i64 n] w fun e w' => e = .returned (.bool true) ∧ Below w.heap.size w w' := by
  cases hl : wLong f N with
  | true => exact pnear_far h hN htab hl
  | false =>
    obtain ⟨hls, h70⟩ := wLong_no hl
    have hsz : ∀ j, j < N → (f j).size ≤ 140737488351232 := fun j hj => by have := hls j hj; omega
    by_cases he : pickE f N = 0
    · have hw := pickE_ok he
      by_cases hr : n < 0 ∨ 256 < n
      · have hc : cntE f N n = 2 := by unfold cntE; rw [if_neg (by rw [he]; simp), if_pos hr]
        refine pnear_rng h hN htab hl (fun W hb => ?_) (fun W hb => pExact_ok (h.below hb) hw (htab.below hb))
        have h1 := pLaw_err (cap := cap) (n := n) (h.below hb) hsz (by rw [hc]; decide)
        rw [hc] at h1; exact h1
      · obtain ⟨m, rfl⟩ : ∃ m : Nat, n = (m : Int) := ⟨n.toNat, by omega⟩
        exact pnear_yes h hw hl (by omega) htab
    · have hc : cntE f N n = pickE f N := by unfold cntE; rw [if_pos he]
      refine pnear_err (c := ((pickE f N : Nat) : Int)) h hN htab hl (errneP he) (fun W hb => ?_) (fun W hb => pExact_err (h.below hb) hsz he)
      have h1 := pLaw_err (cap := cap) (n := n) (h.below hb) hsz (by rw [hc]; exact he)
      rw [hc] at h1; exact h1

end Go.Proofs.YtpkbppfgmpcpcaaGreatDoor
