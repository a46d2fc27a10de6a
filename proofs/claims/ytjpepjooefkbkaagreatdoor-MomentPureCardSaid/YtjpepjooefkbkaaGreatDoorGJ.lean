/-
  The contracts of Power's closure, and of Power.
-/
import Derived.Test.YtjpepjooefkbkaaGreatDoorGC
import Derived.Test.YtjpepjooefkbkaaGreatDoorGD
import Derived.Deep.RegionWith
namespace Go.Proofs.YtjpepjooefkbkaaGreatDoor
open Go.RowKit NV
open Go.Lib (decDigits)
def Sq (w : World) (b s : Nat) : Prop := ∃ v, w.heap[b]? = some (.cells #[v] 108 (0, 0)) ∧ Num w v s
def Dm (w : World) (b : Nat) : Prop := w.heap[b]? = some (.cells #[.int .i64 4000] 3 (0, 0))
theorem Sq.below {w w' : World} {b s : Nat} (h : Sq w b s) (hb : Below w.heap.size w w') : Sq w' b s := by
 obtain ⟨v, h1, h2⟩ := h
 exact ⟨v, (hb.block b (Array.getElem?_eq_some_iff.1 h1).1).trans h1, h2.below hb⟩
theorem Dm.below {w w' : World} {b : Nat} (h : Dm w b) (hb : Below w.heap.size w w') : Dm w' b := (hb.block b (Array.getElem?_eq_some_iff.1 h).1).trans h
theorem Num.lt_kept {w w' : World} {v u : Value} {n b s : Nat} {t : TypeId} (h : Num w v n) (hk : Kept b w.heap.size w w') (hb : w.heap[b]? = some (.cells #[u] t (0, 0))) (hu : Num w u s) : Num w' v n := by
 obtain ⟨a, c, rfl, h | ⟨g, rfl, h1, h2, h3⟩⟩ := h
 ·exact ⟨a, c, rfl, .inl h⟩
 ·refine ⟨_, c, rfl, .inr ⟨g, rfl, Nat.lt_of_lt_of_le h1 hk.size, h2, fun j hj => ?_⟩⟩
  have hne : g ≠ b := by
   intro e
   subst e
   have h0 := h3 0 (by omega)
   rw [Lib.cell_of_heap hb] at h0
   obtain ⟨a', c', rfl, _⟩ := hu
   simp at h0
  exact (hk.cell (p := ⟨g, j, none⟩) h1 hne).trans (h3 j hj)
theorem ok_sq {s : Nat} (h : Ok s) : ln (s * s) ≤ 890 := by
 have h1 := mul_lt_pow (lt_pow_ln s) (lt_pow_ln s)
 have := h.ln
 exact Nat.le_trans (ln_le h1) (by omega)
theorem ok_mul {r s : Nat} (hr : Ok r) (hs : Ok s) : ln (r * s) ≤ 890 := by
 have h1 := mul_lt_pow (lt_pow_ln r) (lt_pow_ln s)
 have := hr.ln
 have := hs.ln
 exact Nat.le_trans (ln_le h1) (by omega)
theorem fit_dec (n : Nat) : decide (((decDigits n).length : Int) ≤ 4000) = fitB n := by
 unfold fitB; apply decide_eq_decide.2; omega
set_option maxHeartbeats 1600000 in
set_option maxRecDepth 100000 in
theorem advance_any {w : World} {b d s : Nat} (h : Sq w b s) (hs : Ok s) (hd : Dm w d) (hdb : d ≠ b) :
  Calls Tryz.prog 138 #[.pointer (some ⟨b, 0, none⟩), .pointer (some ⟨d, 0, none⟩)] w fun e w' => e = .returned (.bool (fitB (s * s))) ∧ Sq w' b (s * s) ∧ Kept b w.heap.size w w' := by
 obtain ⟨v, hb, hn⟩ := h
 have hlt : b < w.heap.size := (Array.getElem?_eq_some_iff.1 hb).1
 have hltd : d < w.heap.size := (Array.getElem?_eq_some_iff.1 hd).1
 have c0 : w.cell? ⟨b, 0, none⟩ = some v := by rw [Lib.cell_of_heap hb]; rfl
 have hl := hs.ln
 have HT := Lib.hid (times_any hn hn (by omega) (by omega))
 have HB := Lib.hid hb
 have HN := Lib.hid hn
 have HD := Lib.hid hd
 clear hb hn hd
 go_enter Tryz.func138, Tryz.ntmps138
 go_wp2_with fail
 refine HT.out.mono ?_
 rintro e w1 ⟨z, rfl, hz, hb1⟩
 have hb2 := (hb1.block b hlt).trans HB.out
 have hd2 := (hb1.block d hltd).trans HD.out
 have c1 : w1.cell? ⟨b, 0, none⟩ = some v := by rw [Lib.cell_of_heap hb2]; rfl
 have f1 : w1.frozen? ⟨b, 0, none⟩ = false := Lib.frozen_of_heap hb2 0
 have hb3 := heap_setCell_same w1 b 0 _ _ z hb2
 have hk3 : Kept b w1.heap.size w1 (w1.setCell ⟨b, 0, none⟩ z) := (Kept.refl b w1.heap.size w1).setCell (p := ⟨b, 0, none⟩) (.inl rfl) z
 have hz3 := hz.lt_kept hk3 hb2 (HN.out.below hb1)
 have hkw : Kept b w.heap.size w (w1.setCell ⟨b, 0, none⟩ z) := Kept.trans ⟨hb1.os, hb1.tape, hb1.output, hb1.size, fun k h1 _ => hb1.block k h1⟩ ⟨hk3.os, hk3.tape, hk3.output, hk3.size, fun k h1 h2 => hk3.block k (Nat.lt_of_lt_of_le h1 hb1.size) h2⟩
 have hd3 := (hk3.block d (Nat.lt_of_lt_of_le hltd hb1.size) hdb).trans hd2
 have hlz : ln (s * s) ≤ 1073741824 := by have := ok_sq hs; omega
 have c3 : (w1.setCell ⟨b, 0, none⟩ z).cell? ⟨b, 0, none⟩ = some z := by rw [Lib.cell_of_heap hb3]; rfl
 have c4 : (w1.setCell ⟨b, 0, none⟩ z).cell? ⟨d, 0, none⟩ = some (.int .i64 4000) := by rw [Lib.cell_of_heap hd3]; rfl
 have HZ3 := Lib.hid hz3
 have HFIN := Lib.hid (show ∀ k, Sq ((w1.setCell ⟨b, 0, none⟩ z).drewN k) b (s * s) ∧ Kept b w.heap.size w ((w1.setCell ⟨b, 0, none⟩ z).drewN k) from fun k => ⟨⟨_, hb3, hz3.below (below_drewN (Below.refl _ _) k)⟩, hkw.drewN k⟩)
 obtain ⟨za, zc, rfl⟩ := slice_any hz
 clear hz hb1 hb2 hd2 hb3 hk3 hz3 hkw hd3 HT
 go_wp2_with fail
 go_quiet (exact digits_quiet HZ3.out hlz _)
 go_wp2_with fail
 go_ret
 exact ⟨ret_bool (fit_dec _), HFIN.out nq⟩
structure Pw (w wr : World) (a n k r s bs bd : Nat) (v : Value) : Prop where
 num : Num wr v r
 sq : Sq wr bs s
 dm : Dm wr bd
 okr : Ok r
 oks : Ok s
 zero : r = 0 → s = 0
 eq : r * s ^ k = a ^ n
 below : Below w.heap.size w wr
theorem one_ok : Ok 1 := by unfold Ok; rw [dec_one]; simp
theorem fitB_iff {n : Nat} : fitB n = true ↔ Ok n := by unfold fitB Ok; simp
theorem not_ok_mono {a b : Nat} (h : ¬ Ok a) (hab : a ≤ b) : ¬ Ok b := fun hb => h (hb.mono hab)
theorem pow_split (s m p : Nat) : s ^ (2 * m + p) = s ^ p * (s * s) ^ m := by
 rw [Nat.pow_add, Nat.pow_mul, Nat.pow_two, Nat.mul_comm]
theorem zero_ok : Ok 0 := by unfold Ok; rw [dec_small (by omega)]; simp
theorem one_num (w : World) : Num (w.alloc (.cells #[.int .u64 1] 118)) (.slice (some ⟨w.heap.size, 0, none⟩) 1 1) 1 := by
 have h := (Arr.one (w := w) 1 (by omega)).own (base := 0) (n := 1) (Nat.zero_le _) (by omega) (ln_le (by rw [Nat.pow_one, B_eq]; omega)) (fun j _ => rfl)
 have hl : ln 1 = 1 := ln_unique (k := 0) (by simp) (by rw [Nat.pow_one, B_eq]; omega)
 have := h.num
 rw [hl] at this
 exact this
set_option maxHeartbeats 3200000 in
set_option maxRecDepth 100000 in
theorem One_any (w : World) :
  Calls Tryz.prog 137 #[] w fun e w' => e = .returned (.slice (some ⟨w.heap.size, 0, none⟩) 1 1) ∧ Num w' (.slice (some ⟨w.heap.size, 0, none⟩) 1 1) 1 ∧ Below w.heap.size w w' := by
 have HN := Lib.hid (one_num w)
 have HB := Lib.hid (show Below w.heap.size w (w.alloc (.cells #[.int .u64 1] 118)) from (Below.refl _ _).alloc (Nat.le_refl _) _)
 go_enter Tryz.func137, Tryz.ntmps137
 go_wp2_with fail
 go_ret
 exact ⟨rfl, HN.out, HB.out⟩
set_option maxHeartbeats 3200000 in
set_option maxRecDepth 100000 in
theorem power_any {w : World} {x : Value} {a n : Nat} (hx : Num w x a) (ha : Ok a) (hn : n < 18446744073709551616) :
  Calls Tryz.prog 107 #[x, .int .u64 n, .int .i64 4000] w fun e w' => ∃ v, e = .returned (.tuple #[v, .bool (fitB (a ^ n))]) ∧ (Ok (a ^ n) → Num w' v (a ^ n)) ∧ Below w.heap.size w w' := by
 have hmf : ∀ (fn : Fn) (first cap : Array Value) (w : World), (Instr.makeFunc fn first cap).run Tryz.prog w = .ok (.func fn first cap) w := fun _ _ _ _ => rfl
 obtain ⟨xa, xc, rfl⟩ := slice_any hx
 have HX := Lib.hid hx
 have HA := Lib.hid ha
 have hal := ha.ln
 clear hx ha
 go_enter Tryz.func107, Tryz.ntmps107
 go_wp2_with fail
 have hw0 : Below w.heap.size w (w.alloc (.cells #[.int .i64 4000] 3)) := (Below.refl _ _).alloc (Nat.le_refl _) _
 have hd0 : Dm (w.alloc (.cells #[.int .i64 4000] 3)) w.heap.size := heap_alloc_new w _
 have hs0 : (w.alloc (.cells #[.int .i64 4000] 3)).heap.size = w.heap.size + 1 := by simp
 generalize w.alloc (.cells #[.int .i64 4000] 3) = w0 at hw0 hd0 hs0 ⊢
 refine (One_any w0).mono ?_
 rintro e w1 ⟨rfl, hone, hb1⟩
 have hsz1 := hb1.size
 obtain ⟨bs, hbs⟩ : ∃ bs, bs = w1.heap.size := ⟨_, rfl⟩
 have hb2 : Below w1.heap.size w1 (w1.alloc (.cells #[.slice xa (ln a) xc] 108)) := (Below.refl _ _).alloc (Nat.le_refl _) _
 have hb3 := hw0.trans (hb1.mono (by omega))
 have hb4 := hb3.trans (hb2.mono (by omega))
 have hst : Pw w (w1.alloc (.cells #[.slice xa (ln a) xc] 108)) a n n 1 a bs w.heap.size (.slice (some ⟨w0.heap.size, 0, none⟩) 1 1) := by
  refine ⟨hone.below hb2, ⟨_, by rw [hbs]; exact heap_alloc_new w1 _, HX.out.below hb4⟩, ?_, one_ok, HA.out, fun h => by omega, by rw [Nat.one_mul], hb4⟩
  exact (hb2.block w.heap.size (by omega)).trans ((hb1.block w.heap.size (by omega)).trans hd0)
 have HST := Lib.hid hst
 have hbase : w.heap.size < bs := by omega
 have HBS := Lib.hid hbs
 have HS0 := Lib.hid hs0
 clear hs0 hbs hst hone hb1 hb2 hb3 hb4 hw0 hd0
 go_wp2_with fail
 rw [← HBS.out]
 go_loopw [1, 8] (fun s1 s5 wr => ∃ (k r s : Nat) (v : Value), s1 = .int .u64 (k : Int) ∧ s5 = v ∧ k ≤ n ∧ Pw w wr a n k r s bs w.heap.size v) (fun s1 _ _ => (intOf s1).toNat)
 case atStart => exact ⟨n, 1, a, _, rfl, rfl, Nat.le_refl _, HST.out⟩
 case round =>
  obtain ⟨k, r, s, v, rfl, hv, hkn, hp⟩ := hrel
  replace hv := hv.symm
  subst hv
  clear HST
  obtain ⟨m, hm⟩ : ∃ m, m = k / 2 := ⟨_, rfl⟩
  have hdiv : (k : Int) / 2 = (m : Int) := by omega
  have hos := hp.oks.ln
  have hor := hp.okr.ln
  have HOS := Lib.hid hp.oks
  have HP := Lib.hid hp
  have hkm : m ≤ k := by omega
  obtain ⟨sv, hsb, hsn⟩ := hp.sq
  obtain ⟨sa, sc, rfl⟩ := slice_any hsn
  have hlt : bs < wr.heap.size := (Array.getElem?_eq_some_iff.1 hsb).1
  have c0 : wr.cell? ⟨bs, 0, none⟩ = some (.slice sa (ln s) sc) := by rw [Lib.cell_of_heap hsb]; rfl
  have d0 : wr.cell? ⟨w.heap.size, 0, none⟩ = some (.int .i64 4000) := by rw [Lib.cell_of_heap hp.dm]; rfl
  have HSN := Lib.hid hsn
  have HSB := Lib.hid hsb
  refine Or.elim (Nat.mod_two_eq_zero_or_one k) (fun hpar => ?even) (fun hpar => ?odd)
  case' even =>
   have hmod : ((k : Int) % 2 == 1) = false := by rw [beq_eq_false_iff_ne]; omega
   have hk2 : k = 2 * m + 0 := by omega
   obtain ⟨w1, hw1⟩ : ∃ w1, w1 = wr := ⟨_, rfl⟩
   subst hw1
   obtain ⟨V, hV⟩ : ∃ V, V = v := ⟨_, rfl⟩
   obtain ⟨R, hR⟩ : ∃ R, R = r := ⟨_, rfl⟩
   have hN : Num w1 V R := by rw [hV, hR]; exact hp.num
   have HEQ := Lib.hid (show R * (s * s) ^ m = a ^ n by
    rw [hR, ← HP.out.eq, hk2, pow_split, Nat.pow_zero, Nat.one_mul])
   have HZ := Lib.hid (show R = 0 → s = 0 by rw [hR]; exact HP.out.zero)
   have HS0 := Lib.hid (show s = 0 → Ok R from fun _ => by rw [hR]; exact HP.out.okr)
   have hRl : ln R ≤ 890 := by rw [hR]; omega
   have hmk : m < k ∨ m = 0 := by omega
   have HBW' := Lib.hid HP.out.below
   have HD1 := Lib.hid hp.dm
   have HSQ1 := Lib.hid hp.sq
   have hlt1 := hlt
   rw [← hV]
   clear hp hsb hsn hm hk2 hpar hV hR HSN HSB hlt HP
   go_wp2_with fail
  case' odd =>
   have hmod : ((k : Int) % 2 == 1) = true := by rw [beq_iff_eq]; omega
   have hk2 : k = 2 * m + 1 := by omega
   have HT := Lib.hid (times_any hp.num hsn (by omega) (by omega))
   have HK2 := Lib.hid hk2
   have hmk : m < k ∨ m = 0 := by omega
   have HD := Lib.hid hp.dm
   clear hp hsb hsn hm hk2 hpar
   go_wp2_with fail
   refine HT.out.mono ?_
   rintro e w1 ⟨V, rfl, hN, hb1⟩
   obtain ⟨R, hR⟩ : ∃ R, R = r * s := ⟨_, rfl⟩
   rw [← hR] at hN
   have HEQ := Lib.hid (show R * (s * s) ^ m = a ^ n by
    rw [hR, ← HP.out.eq, HK2.out, pow_split, Nat.pow_one, Nat.mul_assoc])
   have HZ := Lib.hid (show R = 0 → s = 0 from fun h => by
    rw [hR] at h
    rcases Nat.mul_eq_zero.1 h with h | h
    ·exact HP.out.zero h
    ·exact h)
   have HS0 := Lib.hid (show s = 0 → Ok R from fun h => by rw [hR, h, Nat.mul_zero]; exact zero_ok)
   have hRl : ln R ≤ 890 := by rw [hR]; exact ok_mul HP.out.okr HOS.out
   have HBW' := Lib.hid (HP.out.below.trans (hb1.mono HP.out.below.size))
   have hsb1 := (hb1.block bs hlt).trans HSB.out
   have hd1 := (hb1.block w.heap.size (by omega)).trans HD.out
   have c1 : w1.cell? ⟨bs, 0, none⟩ = some (.slice sa (ln s) sc) := by rw [Lib.cell_of_heap hsb1]; rfl
   have d1 : w1.cell? ⟨w.heap.size, 0, none⟩ = some (.int .i64 4000) := by rw [Lib.cell_of_heap hd1]; rfl
   have hlt1 : bs < w1.heap.size := Nat.lt_of_lt_of_le hlt hb1.size
   have HSQ1 := Lib.hid (show Sq w1 bs s from ⟨_, hsb1, HSN.out.below hb1⟩)
   have HD1 := Lib.hid hd1
   clear HK2 hR hb1 hsb1 hd1 c0 d0 HT HSN HSB hlt HP HD
   go_wp2_with fail
  all_goals
   have HN := Lib.hid hN
   have hRl2 : ln R ≤ 1073741824 := by omega
   clear hN
   have tell : ∀ q, Num (w1.drewN q) V R ∧ Sq (w1.drewN q) bs s ∧ Dm (w1.drewN q) w.heap.size ∧ Below w.heap.size w (w1.drewN q) := fun q =>
    have hq := below_drewN (Below.refl w1.heap.size w1) q
    ⟨HN.out.below hq, HSQ1.out.below hq, Dm.below HD1.out hq, below_drewN HBW'.out q⟩
   have TELL := Lib.hid tell
   clear tell
   by_cases hok : Ok R
   ·have hle : ((decDigits R).length : Int) ≤ 4000 := by unfold Ok at hok; omega
    have HOK := Lib.hid hok
    clear hok
    go_quiet (exact digits_quiet HN.out hRl2 _)
    obtain ⟨t1, t2, t3, t4⟩ := TELL.out nq
    clear TELL HN HSQ1 HD1 HBW'
    generalize w1.drewN nq = w2 at t1 t2 t3 t4 ⊢
    have T1 := Lib.hid t1
    have T2 := Lib.hid t2
    have T3 := Lib.hid t3
    have T4 := Lib.hid t4
    clear t1 t2 t3 t4
    by_cases hm0 : m = 0
    ·have HPW := Lib.hid (show R = a ^ n by have := HEQ.out; rw [hm0, Nat.pow_zero, Nat.mul_one] at this; exact this)
     have HFB := Lib.hid (show true = fitB (a ^ n) by rw [← HPW.out, fitB_yes HOK.out])
     have hdiv0 : (k : Int) / 2 = 0 := by omega
     clear hdiv hm0 hmk hkm
     go_wp2_with fail
     go_ret2
     exact ⟨V, by rw [← HFB.out]; rfl, fun _ => by rw [← HPW.out]; exact T1.out, T4.out⟩
    ·have hm1 : ((m : Int) == 0) = false := by rw [beq_eq_false_iff_ne]; omega
     have hmpos : 1 ≤ m := by omega
     have hmk2 : m < k := by omega
     have HADV := Lib.hid (advance_any T2.out HOS.out T3.out (show w.heap.size ≠ bs by omega))
     clear hm0 hmk
     by_cases hok2 : Ok (s * s)
     ·have hfb := fitB_yes hok2
      rw [hfb] at HADV
      have HOK2 := Lib.hid hok2
      clear hfb hok2
      go_wp2_with fail
      refine HADV.out.mono ?_
      rintro e w6 ⟨rfl, hsq6, hk6⟩
      obtain ⟨sv2, hsb2, hsn2⟩ := T2.out
      have hdlt := (Array.getElem?_eq_some_iff.1 T3.out).1
      have HFIN := Lib.hid (show Pw w w6 a n m R (s * s) bs w.heap.size V from ⟨T1.out.lt_kept hk6 hsb2 hsn2, hsq6, (hk6.block _ hdlt (Nat.ne_of_lt hbase)).trans T3.out, HOK.out, HOK2.out, fun h => by rw [HZ.out h], HEQ.out, T4.out.trans (hk6.below (Nat.le_of_lt hbase) T4.out.size)⟩)
      clear hsq6 hk6 hsb2 hsn2
      go_wp2_with fail
      go_roundw
      case rel => exact ⟨m, R, s * s, V, rfl, rfl, by omega, HFIN.out⟩
      case measure => simp [intOf]; omega
     ·have hfb := fitB_no hok2
      rw [hfb] at HADV
      have hnot : ¬ Ok (a ^ n) := by
       have hR1 : 1 ≤ R := by
        by_cases h : R = 0
        ·exact absurd (by rw [HZ.out h]; exact zero_ok) hok2
        ·omega
       refine not_ok_mono hok2 ?_
       rw [← HEQ.out]
       have h1 : (s * s) ^ 1 ≤ (s * s) ^ m := Nat.pow_le_pow_right (by
        by_cases h : s * s = 0
        ·exact absurd (by rw [h]; exact zero_ok) hok2
        ·omega) hmpos
       rw [Nat.pow_one] at h1
       exact Nat.le_trans h1 (Nat.le_mul_of_pos_left _ hR1)
      have HFB := Lib.hid (fitB_no hnot)
      have HNOT := Lib.hid hnot
      clear hfb hnot
      go_wp2_with fail
      refine HADV.out.mono ?_
      rintro e w6 ⟨rfl, hsq6, hk6⟩
      have HFIN := Lib.hid (T4.out.trans (hk6.below (Nat.le_of_lt hbase) T4.out.size))
      clear hsq6 hk6
      go_wp2_with fail
      go_ret2
      exact ⟨.slice none 0 0, by rw [HFB.out]; rfl, fun h => absurd h HNOT.out, HFIN.out⟩
   ·have hgt : (4000 : Int) < ((decDigits R).length : Int) := by unfold Ok at hok; omega
    have hnot : ¬ Ok (a ^ n) := by
     refine not_ok_mono hok ?_
     rw [← HEQ.out]
     have hs1 : 1 ≤ s * s := by
      by_cases h : s = 0
      ·exact absurd (HS0.out h) hok
      ·exact Nat.mul_pos (by omega) (by omega)
     exact Nat.le_mul_of_pos_right _ (Nat.pow_pos hs1)
    have HFB := Lib.hid (fitB_no hnot)
    have HNOT := Lib.hid hnot
    clear hnot hok
    go_quiet (exact digits_quiet HN.out hRl2 _)
    go_wp2_with fail
    go_ret2
    exact ⟨.slice none 0 0, by rw [HFB.out]; rfl, fun h => absurd h HNOT.out, (TELL.out nq).2.2.2⟩
end Go.Proofs.YtjpepjooefkbkaaGreatDoor
