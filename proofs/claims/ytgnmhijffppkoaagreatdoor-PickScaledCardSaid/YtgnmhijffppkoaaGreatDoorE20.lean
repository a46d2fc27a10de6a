/-
  PickScaled returns true.
-/
import Derived.Test.YtgnmhijffppkoaaGreatDoorE19
namespace Go.Proofs.YtgnmhijffppkoaaGreatDoor
open Go.RowKit NV
open Go.Lib (decDigits)

theorem first_bad {P : Nat → Prop} : ∀ N : Nat, (∀ j, j < N → P j) ∨ ∃ K, K < N ∧ (∀ j, j < K → P j) ∧ ¬ P K
  | 0 => .inl (fun j hj => absurd hj (Nat.not_lt_zero _))
  | N + 1 => by
    rcases first_bad (P := P) N with h | ⟨K, h1, h2⟩
    · by_cases hp : P N
      · refine .inl fun j hj => ?_
        rcases Nat.lt_or_ge j N with h3 | h3
        · exact h j h3
        · obtain rfl : j = N := by omega
          exact hp
      · exact .inr ⟨N, by omega, h, hp⟩
    · exact .inr ⟨K, by omega, h2⟩

theorem schk_parts {b : ByteArray} (hc : schk b = 0) : IsBits b.data.toList ∧ b.size ≤ 256 := by
  have hb : IsBits b.data.toList := by
    rcases Classical.em (IsBits b.data.toList) with h | h
    · exact h
    · unfold schk at hc; rw [bchk_no h, if_pos (by omega)] at hc; omega
  refine ⟨hb, ?_⟩
  unfold schk at hc
  rw [bchk_yes hb, if_neg (by omega)] at hc
  rcases Nat.lt_or_ge 256 b.size with h | h
  · rw [if_pos h] at hc; omega
  · exact h

theorem scaled_ok {ao : Option Addr} {N cap : Nat} {f : Nat → ByteArray} {fac b : ByteArray} {n many : Int} {w : World} (h : PRow w ao N f) (hN : N ≤ 9223372036854775807) (htab : Tab w) (hl : wLong f N = false) (h2 : ¬ 100 < fac.size) (h3 : ¬ 100 < b.size) (h4 : ¬ n < 0) (h5 : ¬ 40 < n) (m0 : -9223372036854775808 ≤ many) (m1 : many ≤ 9223372036854775807) (hf : chk fac.data.toList = 0) (hf0 : (fac.toList == [48]) = false) (hval : ∀ j, j < N → chk (f j).data.toList = 0) :
    Calls Tryz.prog 9 #[.slice ao N cap, .string fac, .string b, .int .i64 n, .int .i64 many] w fun e w' => e = .returned (.bool true) ∧ Below w.heap.size w w' := by
  obtain ⟨hls, hl70⟩ := wLong_no hl
  obtain ⟨c, hc⟩ : ∃ c, c = dv fac.data.toList := ⟨_, rfl⟩
  have hc0 : 0 < c := by
    rcases Nat.eq_zero_or_pos c with h0 | h0
    · exfalso
      have h1 := (chk_text hf).1
      rw [← hc, h0] at h1
      rw [h1, zero_isP] at hf0
      simp at hf0
    · exact h0
  have ht : ∀ j, j < N → f j = dstr (wN f j) := fun j hj => (chk_text (hval j hj)).1
  have og : ∀ j, j < N → Ok (wN f j) := fun j hj => (chk_text (hval j hj)).2
  have hs : ∀ j, j < N → (dstr (wN f j)).size ≤ 3800 := fun j hj => by rw [← ht j hj]; have := hls j hj; omega
  have hsz : ∀ j, j < N → (f j).size ≤ 140737488351232 := fun j hj => by have := hls j hj; omega
  have hp : ∀ j, j < N → Ok (wN f j * c) ∧ (dstr (wN f j * c)).size ≤ 3800 := fun j hj => by rw [hc]; exact prod_ok (hval j hj) (hls j hj) hf (by omega)
  obtain ⟨f2, hf2⟩ : ∃ f2 : Nat → ByteArray, f2 = fun j => dstr (wN f j * c) := ⟨_, rfl⟩
  have ht2 : ∀ j, j < N → f2 j = dstr (wN f j * c) := fun j _ => by rw [hf2]
  have hn2 := wN_texts (g := fun j => wN f j * c) ht2
  have hsz2 : ∀ j, j < N → (f2 j).size ≤ 140737488351232 := fun j hj => by rw [ht2 j hj]; have := (hp j hj).2; omega
  have hw2 : ∀ i, i ≤ N → wsum (wN f2) i = c * wsum (wN f) i := fun i hi => by
    rw [← wsum_mul]; exact wsum_congr (fun j hj => by rw [hn2 j (by omega)]; exact Nat.mul_comm _ _)
  have hpe : pickE f2 N = pickE f N := by
    rw [pickE_texts ht og hs, pickE_texts (g := fun j => wN f j * c) ht2 (fun j hj => (hp j hj).1) (fun j hj => (hp j hj).2)]
    have e1 : wsum (fun j => wN f j * c) N = c * wsum (wN f) N := by rw [← hw2 N (Nat.le_refl _)]; exact (wsum_congr hn2).symm
    rw [e1]
    by_cases h0 : wsum (wN f) N = 0
    · rw [h0, Nat.mul_zero]
    · rw [if_neg (show ¬ c * wsum (wN f) N = 0 from fun e => by rcases Nat.mul_eq_zero.1 e with e | e <;> omega), if_neg h0]
  have hf2' : (fun j => dstr (wN f j * dv fac.data.toList)) = f2 := by rw [hf2, hc]
  obtain ⟨m, rfl⟩ : ∃ m : Nat, n = (m : Int) := ⟨n.toNat, by omega⟩
  by_cases he : pickE f N = 0
  · have hw := pickE_ok he
    have hwf2 := pickE_ok (hpe.trans he)
    have hLeq : ∀ j, j < N → cntP (wsum (wN f2)) N m j = cntP (wsum (wN f)) N m j := fun j hj => cnt_scale hc0 hw2 hj
    have hsm : lateP (wsum (wN f2)) N m = lateP (wsum (wN f)) N m := by unfold lateP; rw [sumP_congr hLeq]
    have hLL : lawL (cntP (wsum (wN f2)) N m) (lateP (wsum (wN f2)) N m) (2 ^ m) N = lawL (cntP (wsum (wN f)) N m) (lateP (wsum (wN f)) N m) (2 ^ m) N := by rw [hsm]; exact law_congr hLeq
    have hlen : (sortI (lawL (cntP (wsum (wN f)) N m) (lateP (wsum (wN f)) N m) (2 ^ m) N)).length ≤ 1000 := by
      rw [sortI_len]; exact Nat.le_trans (law_len _ _ _ _) (by omega)
    have hL1 : ∀ W, Below w.heap.size w W → _ := fun W hb => pLaw_ok (cap := cap) (n := m) (h.below hb) hw (by omega) (htab.below hb)
    have hL2 : ∀ W ao' cap', Below w.heap.size w W → PRow W ao' N f2 → _ := fun W ao' cap' hb hr => pLaw_ok (cap := cap') (n := m) hr hwf2 (by omega) (htab.below hb)
    rw [hLL] at hL2
    by_cases hbc : schk b = 0
    · obtain ⟨hb, hb2⟩ := schk_parts hbc
      obtain ⟨d, v, u, hT2⟩ := pick_ex (f := wsum (wN f2)) (m := N) b.data.toList
      have hT := pick_scale hc0 hw2 hT2
      refine scaled_yes (cap := cap) h hN htab hl h2 h3 h4 h5 m0 m1 hf hf0 hval (LL := sortI (lawL (cntP (wsum (wN f)) N m) (lateP (wsum (wN f)) N m) (2 ^ m) N)) hlen (d2 := d) (v2 := v) (u2 := u) (e2 := 0) (el := 0)
        (fun W hbw => pDraw_ok (h.below hbw) hw (htab.below hbw) hb hb2 hT) ?_ ?_ ?_
      · rw [hf2']; exact fun W ao' cap' hbw hr => pDraw_ok hr hwf2 (htab.below hbw) hb hb2 hT2
      · rw [sortI_len]; exact hL1
      · rw [hf2', sortI_len]; exact hL2
    · refine scaled_yes (cap := cap) h hN htab hl h2 h3 h4 h5 m0 m1 hf hf0 hval (LL := sortI (lawL (cntP (wsum (wN f)) N m) (lateP (wsum (wN f)) N m) (2 ^ m) N)) hlen (d2 := false) (v2 := 0) (u2 := 0) (e2 := ((schk b : Nat) : Int)) (el := 0)
        (fun W hbw => pDraw_b (h.below hbw) hw (htab.below hbw) hbc (by omega)) ?_ ?_ ?_
      · rw [hf2']; exact fun W ao' cap' hbw hr => pDraw_b hr hwf2 (htab.below hbw) hbc (by omega)
      · rw [sortI_len]; exact hL1
      · rw [hf2', sortI_len]; exact hL2
  · have hce : cntE f N (m : Int) ≠ 0 := by unfold cntE; rw [if_pos he]; exact he
    have hce1 : cntE f N (m : Int) = pickE f N := by unfold cntE; rw [if_pos he]
    have hce2 : cntE f2 N (m : Int) = pickE f N := by unfold cntE; rw [hpe, if_pos he]
    refine scaled_yes (cap := cap) h hN htab hl h2 h3 h4 h5 m0 m1 hf hf0 hval (LL := []) (Nat.zero_le _) (d2 := false) (v2 := 0) (u2 := 0) (e2 := ((pickE f N : Nat) : Int)) (el := ((pickE f N : Nat) : Int))
      (fun W hbw => pDraw_w (h.below hbw) hsz he) ?_ ?_ ?_
    · rw [hf2']; intro W ao' cap' hbw hr
      have := pDraw_w (cap := cap') (b := b) hr hsz2 (by rw [hpe]; exact he)
      rw [hpe] at this; exact this
    · intro W hbw
      have := pLaw_err (cap := cap) (n := (m : Int)) (h.below hbw) hsz hce
      rw [hce1] at this
      exact this.mono fun e w' ⟨h1, h2⟩ => ⟨_, h1, World.ownsRow_nil _ _ _ _, h2⟩
    · rw [hf2']; intro W ao' cap' hbw hr
      have := pLaw_err (cap := cap') (n := (m : Int)) hr hsz2 (by rw [hce2]; exact he)
      rw [hce2] at this
      exact this.mono fun e w' ⟨h1, h2⟩ => ⟨_, h1, World.ownsRow_nil _ _ _ _, h2⟩

theorem pscaled_any {ao : Option Addr} {N cap : Nat} {f : Nat → ByteArray} {fac b : ByteArray} {n many : Int} {w : World} (h : PRow w ao N f) (hN : N ≤ 9223372036854775807) (htab : Tab w) (m0 : -9223372036854775808 ≤ many) (m1 : many ≤ 9223372036854775807) :
    Calls Tryz.prog 9 #[.slice ao N cap, .string fac, .string b, .int .i64 n, .int .i64 many] w fun e w' => e = .returned (.bool true) ∧ Below w.heap.size w w' := by
  cases hl : wLong f N with
  | true => exact scaled_far1 h hN htab hl
  | false =>
    by_cases h2 : 100 < fac.size
    · exact scaled_far2 h hN htab hl h2
    by_cases h3 : 100 < b.size
    · exact scaled_far3 h hN htab hl h2 h3
    by_cases h4 : n < 0
    · exact scaled_far4 h hN htab hl h2 h3 h4
    by_cases h5 : 40 < n
    · exact scaled_far5 h hN htab hl h2 h3 h4 h5
    by_cases hf : chk fac.data.toList = 0
    · cases hf0 : (fac.toList == [48]) with
      | true => exact scaled_zero h hN htab hl h2 h3 h4 h5 m0 m1 hf hf0
      | false =>
        rcases first_bad (P := fun j => chk (f j).data.toList = 0) N with hv | ⟨K, hK, hv, hb⟩
        · exact scaled_ok h hN htab hl h2 h3 h4 h5 m0 m1 hf hf0 hv
        · exact scaled_bad h hN htab hl h2 h3 h4 h5 m0 m1 hf hf0 hK hv hb
    · exact scaled_fac h hN htab hl h2 h3 h4 h5 m0 m1 hf

end Go.Proofs.YtgnmhijffppkoaaGreatDoor
