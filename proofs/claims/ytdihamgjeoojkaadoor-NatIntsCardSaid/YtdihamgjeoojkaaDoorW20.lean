/-
  The contracts of power's closure, and of power.
-/
import Derived.Test.YtdihamgjeoojkaaDoorW14
import Derived.Test.YtdihamgjeoojkaaDoorW19
namespace Go.Proofs.YtdihamgjeoojkaaDoor
open Go.RowKit NV
open Go.Lib (decDigits)

/-- The variable of the closure: block b holds a slice that reads as s. -/
def Sq (w : World) (b s : Nat) : Prop := ∃ v, w.heap[b]? = some (.cells #[v] 49 (0, 0)) ∧ Num w v s

theorem Num.lt_kept {w w' : World} {v : Value} {n b : Nat} (h : Num w v n) (hk : Kept b w.heap.size w w') (hv : ∀ g c, v = .slice (some ⟨g, 0, none⟩) (ln n) c → g ≠ b) : Num w' v n := by
  obtain ⟨g, c, rfl, h1, h2, h3⟩ := h
  exact ⟨g, c, rfl, Nat.lt_of_lt_of_le h1 hk.size, h2, fun j hj => (hk.cell (p := ⟨g, j, none⟩) h1 (hv g c rfl)).trans (h3 j hj)⟩

theorem ok_sq {s : Nat} (h : Ok s) : ln (s * s) ≤ 890 := by
  have h1 := mul_lt_pow (lt_pow_ln s) (lt_pow_ln s)
  have := h.ln
  exact Nat.le_trans (ln_le h1) (by omega)

theorem ok_mul {r s : Nat} (hr : Ok r) (hs : Ok s) : ln (r * s) ≤ 890 := by
  have h1 := mul_lt_pow (lt_pow_ln r) (lt_pow_ln s)
  have := hr.ln
  have := hs.ln
  exact Nat.le_trans (ln_le h1) (by omega)

/-- A slice of limbs lies in a row of uint64, the closure's variable in a cell of another type. -/
theorem Own.ne {w : World} {base n b : Nat} {v u : Value} (h : Own w base v n) (hb : w.heap[b]? = some (.cells #[u] 49 (0, 0))) : ∀ g c, v = .slice (some ⟨g, 0, none⟩) (ln n) c → g ≠ b := by
  intro g c hv e
  subst e
  obtain ⟨_, _, h2⟩ := h
  rcases h2 with ⟨h', _⟩ | ⟨g', cap, cur, h', hbg, hg, _⟩
  · rw [hv] at h'; simp at h'
  · rw [hv] at h'
    simp only [Value.slice.injEq, Option.some.injEq, Addr.mk.injEq, and_true, true_and] at h'
    obtain ⟨rfl, _⟩ := h'
    rw [hb] at hg
    simp at hg

set_option maxHeartbeats 1600000 in
set_option maxRecDepth 100000 in
theorem advance_any {w : World} {b s : Nat} (h : Sq w b s) (hs : Ok s) (htab : ∀ W, Below b w W → Tab W) :
    Calls Tryd.prog 60 #[.pointer (some ⟨b, 0, none⟩)] w fun e w' => e = .returned (.bool (fitB (s * s))) ∧ Sq w' b (s * s) ∧ Kept b w.heap.size w w' := by
  obtain ⟨v, hb, hn⟩ := h
  have hlt : b < w.heap.size := (Array.getElem?_eq_some_iff.1 hb).1
  have c0 : w.cell? ⟨b, 0, none⟩ = some v := by rw [Lib.cell_of_heap hb]; rfl
  have hl := hs.ln
  have HT := Lib.hid (times_any hn hn (by omega) (by omega))
  have HB := Lib.hid hb
  have HTAB := Lib.hid htab
  clear hb hn htab
  go_enter Tryd.func60, Tryd.ntmps60
  go_wp2_with fail
  refine HT.out.mono ?_
  rintro e w1 ⟨z, rfl, hz, hb1⟩
  have hb2 := (hb1.block b hlt).trans HB.out
  have c1 : w1.cell? ⟨b, 0, none⟩ = some v := by rw [Lib.cell_of_heap hb2]; rfl
  have f1 : w1.frozen? ⟨b, 0, none⟩ = false := Lib.frozen_of_heap hb2 0
  have hne := hz.ne hb2
  have hb3 := heap_setCell_same w1 b 0 _ _ z hb2
  have hk3 : Kept b w1.heap.size w1 (w1.setCell ⟨b, 0, none⟩ z) := (Kept.refl b w1.heap.size w1).setCell (p := ⟨b, 0, none⟩) (.inl rfl) z
  have hz3 := hz.num.lt_kept hk3 hne
  have hkw : Kept b w.heap.size w (w1.setCell ⟨b, 0, none⟩ z) := Kept.trans ⟨hb1.os, hb1.tape, hb1.output, hb1.size, fun k h1 _ => hb1.block k h1⟩ ⟨hk3.os, hk3.tape, hk3.output, hk3.size, fun k h1 h2 => hk3.block k (Nat.lt_of_lt_of_le h1 hb1.size) h2⟩
  have htab3 := HTAB.out _ (hkw.below (Nat.le_refl _) (Nat.le_of_lt hlt))
  have hf := fits_any hz3 (by have := ok_sq hs; omega) htab3
  obtain ⟨zg, zc, rfl⟩ := hz.1
  have HF := Lib.hid hf
  have HB3 := Lib.hid (show (w1.setCell ⟨b, 0, none⟩ (.slice (some ⟨zg, 0, none⟩) (ln (s * s)) zc)).heap[b]? = some (.cells #[.slice (some ⟨zg, 0, none⟩) (ln (s * s)) zc] 49 (0, 0)) from hb3)
  have HZ3 := Lib.hid hz3
  have HKW := Lib.hid hkw
  have hltw : b < (w1.setCell ⟨b, 0, none⟩ (.slice (some ⟨zg, 0, none⟩) (ln (s * s)) zc)).heap.size := (Array.getElem?_eq_some_iff.1 HB3.out).1
  have HLT := Lib.hid hltw
  clear hz hb1 hb2 hne hb3 hk3 hz3 hkw htab3 hf HT hltw
  go_wp2_with fail
  refine HF.out.mono ?_
  rintro e w2 ⟨rfl, hb4⟩
  have HFIN := Lib.hid (show Sq w2 b (s * s) ∧ Kept b w.heap.size w w2 from ⟨⟨_, (hb4.block b HLT.out).trans HB3.out, HZ3.out.below hb4⟩, HKW.out.trans ⟨hb4.os, hb4.tape, hb4.output, hb4.size, fun k h1 _ => hb4.block k (Nat.lt_of_lt_of_le h1 HKW.out.size)⟩⟩)
  clear hb4
  go_wp2_with fail
  go_ret
  exact ⟨rfl, HFIN.out⟩

/-- What is known at the head of power's loop. -/
structure Pw (w wr : World) (a n k r s bs : Nat) (v : Value) : Prop where
  num : Num wr v r
  ne : ∀ g c, v = .slice (some ⟨g, 0, none⟩) (ln r) c → g ≠ bs
  sq : Sq wr bs s
  okr : Ok r
  oks : Ok s
  zero : r = 0 → s = 0
  eq : r * s ^ k = a ^ n
  pos : 0 < k ∨ (k = n ∧ r = 1)
  below : Below w.heap.size w wr
  lt : bs < wr.heap.size
  base : w.heap.size ≤ bs

theorem one_ok : Ok 1 := by unfold Ok; rw [dec_one]; simp

theorem fitB_iff {n : Nat} : fitB n = true ↔ Ok n := by unfold fitB Ok; simp

/-- A number that a text can hold bounds those below. -/
theorem not_ok_mono {a b : Nat} (h : ¬ Ok a) (hab : a ≤ b) : ¬ Ok b := fun hb => h (hb.mono hab)

theorem pow_split (s m p : Nat) : s ^ (2 * m + p) = s ^ p * (s * s) ^ m := by
  rw [Nat.pow_add, Nat.pow_mul, Nat.pow_two, Nat.mul_comm]

theorem zero_ok : Ok 0 := by unfold Ok; rw [dec_small (by omega)]; simp

/-- One limb, the number 1. -/
theorem one_num (w : World) : Num (w.alloc (.cells #[.int .u64 1] 72)) (.slice (some ⟨w.heap.size, 0, none⟩) 1 1) 1 := by
  have h := (Arr.one (w := w) 1 (by omega)).own (base := 0) (n := 1) (Nat.zero_le _) (by omega) (ln_le (by rw [Nat.pow_one, B_eq]; omega)) (fun j _ => rfl)
  have hl : ln 1 = 1 := ln_unique (k := 0) (by simp) (by rw [Nat.pow_one, B_eq]; omega)
  have := h.num
  rw [hl] at this
  exact this

set_option maxHeartbeats 3200000 in
set_option maxRecDepth 100000 in
/-- power tells whether the power fits, and returns it if it does. -/
theorem power_any {w : World} {x : Value} {a n : Nat} (hx : Num w x a) (ha : Ok a) (hn : n ≤ 9223372036854775807) (htab : Tab w) :
    Calls Tryd.prog 38 #[x, .int .i64 n] w fun e w' => ∃ v, e = .returned (.tuple #[v, .bool (fitB (a ^ n))]) ∧ (Ok (a ^ n) → Num w' v (a ^ n)) ∧ Below w.heap.size w w' := by
  have hmf : ∀ (fn : Fn) (first cap : Array Value) (w : World), (Instr.makeFunc fn first cap).run Tryd.prog w = .ok (.func fn first cap) w := fun _ _ _ _ => rfl
  obtain ⟨xb, xc, rfl, hxb, _⟩ := slice_form hx
  have HX := Lib.hid hx
  have HA := Lib.hid ha
  have HTAB := Lib.hid htab
  have hal := ha.ln
  clear hx ha htab
  go_enter Tryd.func38, Tryd.ntmps38
  go_wp2_with fail
  obtain ⟨bs, hbs⟩ : ∃ bs, bs = w.heap.size + 1 := ⟨_, rfl⟩
  have hstart : Pw w ((w.alloc (.cells #[.int .u64 1] 72)).alloc (.cells #[.slice (some ⟨xb, 0, none⟩) (ln a) xc] 49)) a n n 1 a bs (.slice (some ⟨w.heap.size, 0, none⟩) 1 1) := by
    have hb1 : Below w.heap.size w ((w.alloc (.cells #[.int .u64 1] 72)).alloc (.cells #[.slice (some ⟨xb, 0, none⟩) (ln a) xc] 49)) := ((Below.refl _ _).alloc (Nat.le_refl _) _).alloc (by simp) _
    refine ⟨(one_num w).below ((Below.refl _ _).alloc (Nat.le_refl _) _), ?_, ⟨_, ?_, HX.out.below hb1⟩, one_ok, HA.out, fun h => by omega, by rw [Nat.one_mul], .inr ⟨rfl, rfl⟩, hb1, by rw [hbs]; simp, by omega⟩
    · intro g c h
      simp only [Value.slice.injEq, Option.some.injEq, Addr.mk.injEq, and_true, true_and] at h
      omega
    · have := heap_alloc_new (w.alloc (.cells #[.int .u64 1] 72)) (.cells #[.slice (some ⟨xb, 0, none⟩) (ln a) xc] 49)
      rw [hbs]; simpa using this
  have HST := Lib.hid hstart
  rw [← hbs]
  have hbase : w.heap.size ≤ bs := by omega
  clear hstart hbs
  go_loopw [1, 6] (fun s1 s6 wr => ∃ (k r s : Nat) (v : Value), s1 = .int .i64 (k : Int) ∧ s6 = v ∧ k ≤ n ∧ Pw w wr a n k r s bs v) (fun s1 _ _ => (intOf s1).toNat)
  case atStart => exact ⟨n, 1, a, _, rfl, rfl, Nat.le_refl _, HST.out⟩
  case round =>
    obtain ⟨k, r, s, v, rfl, rfl, hkn, hp⟩ := hrel
    clear HST
    obtain ⟨m, hm⟩ : ∃ m, m = k / 2 := ⟨_, rfl⟩
    have hdiv : (k : Int) / 2 = (m : Int) := by omega
    have hos := hp.oks.ln
    have hor := hp.okr.ln
    have HOS := Lib.hid hp.oks
    have HOR := Lib.hid hp.okr
    have hLT0 := hp.lt
    have HP := Lib.hid hp
    have hkm : m ≤ k := by omega
    by_cases hodd : k % 2 = 1
    · have hmod : ((k : Int) % 2 == 1) = true := by rw [beq_iff_eq]; omega
      have hk2 : k = 2 * m + 1 := by omega
      obtain ⟨sv, hsb, hsn⟩ := hp.sq
      have c0 : wr.cell? ⟨bs, 0, none⟩ = some sv := by rw [Lib.cell_of_heap hsb]; rfl
      have ht := times_any hp.num hsn (by omega) (by omega)
      have HT := Lib.hid ht
      have HSB := Lib.hid hsb
      have HSN := Lib.hid hsn
      have HK2 := Lib.hid hk2
      clear hp hsb hsn ht hk2 hm
      go_wp2_with fail
      refine HT.out.mono ?_
      rintro e w1 ⟨V, rfl, hz, hb1⟩
      obtain ⟨R, hR⟩ : ∃ R, R = r * s := ⟨_, rfl⟩
      rw [← hR] at hz
      have hsb1 := (hb1.block bs hLT0).trans HSB.out
      have hN := hz.num
      have hNE := hz.ne hsb1
      have hSQ : Sq w1 bs s := ⟨sv, hsb1, HSN.out.below hb1⟩
      have hEQ : R * (s * s) ^ m = a ^ n := by
        rw [hR, ← HP.out.eq, HK2.out, pow_split, Nat.pow_one, Nat.mul_assoc]
      have hBW := HP.out.below.trans (hb1.mono HP.out.below.size)
      have hLT : bs < w1.heap.size := Nat.lt_of_lt_of_le hLT0 hb1.size
      have hZ : R = 0 → s = 0 := fun h => by
        rw [hR] at h
        rcases Nat.mul_eq_zero.1 h with h | h
        · exact HP.out.zero h
        · exact h
      have hS0 : s = 0 → Ok R := fun h => by rw [hR, h, Nat.mul_zero]; exact zero_ok
      have hRl : ln R ≤ 890 := by rw [hR]; exact ok_mul HOR.out HOS.out
      have hmk : m < k := by have := HK2.out; omega
      clear hz hb1 hsb1 c0 HT HSB HSN hR hkm
      have hnum9 := hN
      have HNUM := Lib.hid hN
      have HNE := Lib.hid hNE
      have HSQ := Lib.hid hSQ
      have HEQ := Lib.hid hEQ
      have HBW := Lib.hid hBW
      have HTW := Lib.hid (HTAB.out.below hBW)
      have HF := Lib.hid (fits_any hN (by omega) (HTAB.out.below hBW))
      clear hnum9 hN hNE hSQ hEQ hBW
      by_cases hm0 : m = 0
      · subst hm0
        have hpw : R = a ^ n := by have := HEQ.out; rw [Nat.pow_zero, Nat.mul_one] at this; exact this
        have HPW := Lib.hid hpw
        clear hpw
        go_wp2_with fail
        refine HF.out.mono ?_
        rintro e w5 ⟨rfl, hb5⟩
        have HFIN := Lib.hid (And.intro (HNUM.out.below hb5) (HBW.out.trans (hb5.mono HBW.out.size)))
        clear hb5
        go_wp2_with fail
        go_ret2
        exact ⟨_, by rw [← HPW.out]; rfl, fun _ => by rw [← HPW.out]; exact HFIN.out.1, HFIN.out.2⟩
      · have hm1 : ((m : Int) == 0) = false := by rw [beq_eq_false_iff_ne]; omega
        have hmpos : 1 ≤ m := by omega
        clear hm0
        by_cases hok : Ok R
        · have hfb := fitB_yes hok
          rw [hfb] at HF
          clear hfb
          go_wp2_with fail
          refine HF.out.mono ?_
          rintro e w5 ⟨rfl, hb5⟩
          have hsq5 : Sq w5 bs s := by
            obtain ⟨sv, h1, h2⟩ := HSQ.out
            exact ⟨sv, (hb5.block bs hLT).trans h1, h2.below hb5⟩
          have hbw5 := HBW.out.trans (hb5.mono HBW.out.size)
          have hnum5 := HNUM.out.below hb5
          have hlt5 : bs < w5.heap.size := Nat.lt_of_lt_of_le hLT hb5.size
          have hadv := advance_any hsq5 HOS.out (fun W' hW' => HTAB.out.below (hbw5.trans (hW'.mono hbase)))
          have HADV := Lib.hid hadv
          have HBW5 := Lib.hid hbw5
          have HNUM5 := Lib.hid hnum5
          clear hb5 hsq5 hbw5 hnum5 hadv HF
          by_cases hok2 : Ok (s * s)
          · have hfb := fitB_yes hok2
            rw [hfb] at HADV
            clear hfb
            go_wp2_with fail
            refine HADV.out.mono ?_
            rintro e w6 ⟨rfl, hsq6, hk6⟩
            have HFIN := Lib.hid (show Pw w w6 a n m R (s * s) bs V from ⟨HNUM5.out.lt_kept hk6 HNE.out, HNE.out, hsq6, hok, hok2, fun h => by rw [hZ h], HEQ.out, .inl hmpos, HBW5.out.trans (hk6.below hbase (Nat.le_of_lt (Nat.lt_of_le_of_lt hbase hlt5))), Nat.lt_of_lt_of_le hlt5 hk6.size, hbase⟩)
            clear hsq6 hk6
            go_wp2_with fail
            go_roundw
            case rel => exact ⟨m, R, s * s, V, rfl, rfl, by omega, HFIN.out⟩
            case measure => simp [intOf]; omega
          · have hfb := fitB_no hok2
            rw [hfb] at HADV
            have hnot : ¬ Ok (a ^ n) := by
              have hR1 : 1 ≤ R := by
                by_cases h : R = 0
                · exact absurd (by rw [hZ h]; exact zero_ok) hok2
                · omega
              refine not_ok_mono hok2 ?_
              rw [← HEQ.out]
              have h1 : (s * s) ^ 1 ≤ (s * s) ^ m := Nat.pow_le_pow_right (by
                by_cases h : s * s = 0
                · exact absurd (by rw [h]; exact zero_ok) hok2
                · omega) hmpos
              rw [Nat.pow_one] at h1
              exact Nat.le_trans h1 (Nat.le_mul_of_pos_left _ hR1)
            have HFB := Lib.hid (fitB_no hnot)
            have HNOT := Lib.hid hnot
            clear hfb hnot
            go_wp2_with fail
            refine HADV.out.mono ?_
            rintro e w6 ⟨rfl, hsq6, hk6⟩
            have HFIN := Lib.hid (HBW5.out.trans (hk6.below hbase (Nat.le_of_lt (Nat.lt_of_le_of_lt hbase hlt5))))
            clear hsq6 hk6
            go_wp2_with fail
            go_ret2
            exact ⟨_, by rw [HFB.out]; rfl, fun h => absurd h HNOT.out, HFIN.out⟩
        · have hfb := fitB_no hok
          rw [hfb] at HF
          have hnot : ¬ Ok (a ^ n) := by
            refine not_ok_mono hok ?_
            rw [← HEQ.out]
            have hs1 : 1 ≤ s * s := by
              by_cases h : s = 0
              · exact absurd (hS0 h) hok
              · exact Nat.mul_pos (by omega) (by omega)
            exact Nat.le_mul_of_pos_right _ (Nat.pow_pos hs1)
          have HFB := Lib.hid (fitB_no hnot)
          have HNOT := Lib.hid hnot
          clear hfb hnot
          go_wp2_with fail
          refine HF.out.mono ?_
          rintro e w5 ⟨rfl, hb5⟩
          have HFIN := Lib.hid (HBW.out.trans (hb5.mono HBW.out.size))
          clear hb5
          go_wp2_with fail
          go_ret2
          exact ⟨_, by rw [HFB.out]; rfl, fun h => absurd h HNOT.out, HFIN.out⟩
    · have hmod : ((k : Int) % 2 == 1) = false := by rw [beq_eq_false_iff_ne]; omega
      have hk2 : k = 2 * m + 0 := by omega
      obtain ⟨w1, hw1⟩ : ∃ w1, w1 = wr := ⟨_, rfl⟩
      obtain ⟨R, hR⟩ : ∃ R, R = r := ⟨_, rfl⟩
      subst hw1
      subst hR
      have hN := hp.num
      have hNE := hp.ne
      have hSQ := hp.sq
      have hEQ : R * (s * s) ^ m = a ^ n := by
        rw [← hp.eq, hk2, pow_split, Nat.pow_zero, Nat.one_mul]
      have hBW := hp.below
      have hLT := hp.lt
      have hZ := hp.zero
      have hS0 : s = 0 → Ok R := fun _ => hp.okr
      have hRl : ln R ≤ 890 := by omega
      have hmk : m < k ∨ m = 0 := by omega
      clear hp hk2 hm
      have hnum9 := hN
      have HNUM := Lib.hid hN
      have HNE := Lib.hid hNE
      have HSQ := Lib.hid hSQ
      have HEQ := Lib.hid hEQ
      have HBW := Lib.hid hBW
      have HTW := Lib.hid (HTAB.out.below hBW)
      have HF := Lib.hid (fits_any hN (by omega) (HTAB.out.below hBW))
      clear hnum9 hN hNE hSQ hEQ hBW
      by_cases hm0 : m = 0
      · subst hm0
        have hpw : R = a ^ n := by have := HEQ.out; rw [Nat.pow_zero, Nat.mul_one] at this; exact this
        have HPW := Lib.hid hpw
        clear hpw
        go_wp2_with fail
        refine HF.out.mono ?_
        rintro e w5 ⟨rfl, hb5⟩
        have HFIN := Lib.hid (And.intro (HNUM.out.below hb5) (HBW.out.trans (hb5.mono HBW.out.size)))
        clear hb5
        go_wp2_with fail
        go_ret2
        exact ⟨_, by rw [← HPW.out]; rfl, fun _ => by rw [← HPW.out]; exact HFIN.out.1, HFIN.out.2⟩
      · have hm1 : ((m : Int) == 0) = false := by rw [beq_eq_false_iff_ne]; omega
        have hmpos : 1 ≤ m := by omega
        clear hm0
        by_cases hok : Ok R
        · have hfb := fitB_yes hok
          rw [hfb] at HF
          clear hfb
          go_wp2_with fail
          refine HF.out.mono ?_
          rintro e w5 ⟨rfl, hb5⟩
          have hsq5 : Sq w5 bs s := by
            obtain ⟨sv, h1, h2⟩ := HSQ.out
            exact ⟨sv, (hb5.block bs hLT).trans h1, h2.below hb5⟩
          have hbw5 := HBW.out.trans (hb5.mono HBW.out.size)
          have hnum5 := HNUM.out.below hb5
          have hlt5 : bs < w5.heap.size := Nat.lt_of_lt_of_le hLT hb5.size
          have hadv := advance_any hsq5 HOS.out (fun W' hW' => HTAB.out.below (hbw5.trans (hW'.mono hbase)))
          have HADV := Lib.hid hadv
          have HBW5 := Lib.hid hbw5
          have HNUM5 := Lib.hid hnum5
          clear hb5 hsq5 hbw5 hnum5 hadv HF
          by_cases hok2 : Ok (s * s)
          · have hfb := fitB_yes hok2
            rw [hfb] at HADV
            clear hfb
            go_wp2_with fail
            refine HADV.out.mono ?_
            rintro e w6 ⟨rfl, hsq6, hk6⟩
            have HFIN := Lib.hid (show Pw w w6 a n m R (s * s) bs _ from ⟨HNUM5.out.lt_kept hk6 HNE.out, HNE.out, hsq6, hok, hok2, fun h => by rw [hZ h], HEQ.out, .inl hmpos, HBW5.out.trans (hk6.below hbase (Nat.le_of_lt (Nat.lt_of_le_of_lt hbase hlt5))), Nat.lt_of_lt_of_le hlt5 hk6.size, hbase⟩)
            clear hsq6 hk6
            go_wp2_with fail
            go_roundw
            case rel => exact ⟨m, R, s * s, _, rfl, rfl, by omega, HFIN.out⟩
            case measure => simp [intOf]; omega
          · have hfb := fitB_no hok2
            rw [hfb] at HADV
            have hnot : ¬ Ok (a ^ n) := by
              have hR1 : 1 ≤ R := by
                by_cases h : R = 0
                · exact absurd (by rw [hZ h]; exact zero_ok) hok2
                · omega
              refine not_ok_mono hok2 ?_
              rw [← HEQ.out]
              have h1 : (s * s) ^ 1 ≤ (s * s) ^ m := Nat.pow_le_pow_right (by
                by_cases h : s * s = 0
                · exact absurd (by rw [h]; exact zero_ok) hok2
                · omega) hmpos
              rw [Nat.pow_one] at h1
              exact Nat.le_trans h1 (Nat.le_mul_of_pos_left _ hR1)
            have HFB := Lib.hid (fitB_no hnot)
            have HNOT := Lib.hid hnot
            clear hfb hnot
            go_wp2_with fail
            refine HADV.out.mono ?_
            rintro e w6 ⟨rfl, hsq6, hk6⟩
            have HFIN := Lib.hid (HBW5.out.trans (hk6.below hbase (Nat.le_of_lt (Nat.lt_of_le_of_lt hbase hlt5))))
            clear hsq6 hk6
            go_wp2_with fail
            go_ret2
            exact ⟨_, by rw [HFB.out]; rfl, fun h => absurd h HNOT.out, HFIN.out⟩
        · have hfb := fitB_no hok
          rw [hfb] at HF
          have hnot : ¬ Ok (a ^ n) := by
            refine not_ok_mono hok ?_
            rw [← HEQ.out]
            have hs1 : 1 ≤ s * s := by
              by_cases h : s = 0
              · exact absurd (hS0 h) hok
              · exact Nat.mul_pos (by omega) (by omega)
            exact Nat.le_mul_of_pos_right _ (Nat.pow_pos hs1)
          have HFB := Lib.hid (fitB_no hnot)
          have HNOT := Lib.hid hnot
          clear hfb hnot
          go_wp2_with fail
          refine HF.out.mono ?_
          rintro e w5 ⟨rfl, hb5⟩
          have HFIN := Lib.hid (HBW.out.trans (hb5.mono HBW.out.size))
          clear hb5
          go_wp2_with fail
          go_ret2
          exact ⟨_, by rw [HFB.out]; rfl, fun h => absurd h HNOT.out, HFIN.out⟩

end Go.Proofs.YtdihamgjeoojkaaDoor
