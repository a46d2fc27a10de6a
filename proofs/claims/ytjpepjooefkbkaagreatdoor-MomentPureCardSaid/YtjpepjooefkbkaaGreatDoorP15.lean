/-
  exact.Fraction's Inverse, Magnitude, Power; Reduced.
-/
import Derived.Test.YtjpepjooefkbkaaGreatDoorHA
import Derived.Test.YtjpepjooefkbkaaGreatDoorGJ
namespace Go.Proofs.YtjpepjooefkbkaaGreatDoor
open Go.RowKit NV
open Go.Lib (decDigits)
theorem two_frac (w : World) (m1 m2 : Bool) (x1 y1 x2 y2 : Value) :
  Below w.heap.size w ((w.alloc (.cells #[.bool m1, x1, y1] 110)).alloc (.cells #[.bool m2, x2, y2] 110)) ∧
  FR ((w.alloc (.cells #[.bool m1, x1, y1] 110)).alloc (.cells #[.bool m2, x2, y2] 110)) w.heap.size m1 x1 y1 ∧
  FR ((w.alloc (.cells #[.bool m1, x1, y1] 110)).alloc (.cells #[.bool m2, x2, y2] 110)) (w.heap.size + 1) m2 x2 y2 := by
 have h1 := FR.new w m1 x1 y1
 have s1 : (w.alloc (.cells #[.bool m1, x1, y1] 110)).heap.size = w.heap.size + 1 := by simp
 have b1 : Below w.heap.size w (w.alloc (.cells #[.bool m1, x1, y1] 110)) := (Below.refl _ _).alloc (Nat.le_refl _) _
 generalize w.alloc (.cells #[.bool m1, x1, y1] 110) = w1 at *
 have h2 := FR.new w1 m2 x2 y2
 have b2 : Below w1.heap.size w1 (w1.alloc (.cells #[.bool m2, x2, y2] 110)) := (Below.refl _ _).alloc (Nat.le_refl _) _
 exact ⟨b1.trans (b2.mono (by omega)), h1.keep b2, by rw [← s1]; exact h2⟩
theorem FR.resultI {w : World} {b : Nat} {m : Bool} {n d : Value} {tmps : Array Value} (h : FR w b m n d) (ht : tmps.getD 2 undef = .pointer (some ⟨b, 0, none⟩)) : (results Tryz.f73 tmps).run Tryz.prog w = .ok (.agg #[.bool m, n, d]) w := by
 have hl := h.load
 have ht' : tmps[2]?.getD undef = .pointer (some ⟨b, 0, none⟩) := by rw [← ht]; simp
 simp [results, ht', asAddr, hl]
set_option maxHeartbeats 3200000 in
set_option maxRecDepth 100000 in
theorem inverse_any {w : World} {m : Bool} {x y : Value} {n d : Nat} (hx : Num w x n) (hy : Num w y d) :
  Calls Tryz.prog 73 #[.agg #[.bool m, x, y]] w fun e w' => e = .returned (.agg #[.bool m, y, x]) ∧ Below w.heap.size w w' := by
 obtain ⟨a1, k1, rfl⟩ := slice_any hx
 obtain ⟨a2, k2, rfl⟩ := slice_any hy
 clear hx hy
 go_enter Tryz.func73, Tryz.ntmps73
 go_wp2_with fail
 exact bodyPost_ret ((two_frac w m m (.slice a2 (ln d) k2) (.slice a1 (ln n) k1) (.slice a2 (ln d) k2) (.slice a1 (ln n) k1)).2.2.resultI rfl) rfl ⟨rfl, (two_frac w m m (.slice a2 (ln d) k2) (.slice a1 (ln n) k1) (.slice a2 (ln d) k2) (.slice a1 (ln n) k1)).1⟩
theorem FR.result2P {w : World} {b : Nat} {m c : Bool} {n d : Value} {tmps : Array Value} (h : FR w b m n d) (ht : tmps.getD 6 undef = .pointer (some ⟨b, 0, none⟩)) (hv : tmps.getD 7 undef = .bool c) : (results Tryz.f74 tmps).run Tryz.prog w = .ok (.tuple #[.agg #[.bool m, n, d], .bool c]) w := by
 have hl := h.load
 have ht' : tmps[6]?.getD undef = .pointer (some ⟨b, 0, none⟩) := by rw [← ht]; simp
 have hv' : tmps[7]?.getD undef = .bool c := by rw [← hv]; simp
 simp [results, ht', hv', asAddr, hl]
def PRet (m : Bool) (n d k : Nat) (w : World) (e : Ending) : Prop := ∃ m' a1 L1 k1 a2 L2 k2, e = .returned (.tuple #[.agg #[.bool m', .slice a1 L1 k1, .slice a2 L2 k2], .bool (fitB (n ^ k) && fitB (d ^ k))]) ∧
 (Ok (n ^ k) → Ok (d ^ k) → m' = (m && decide (k % 2 = 1)) ∧ Num w (.slice a1 L1 k1) (n ^ k) ∧ Num w (.slice a2 L2 k2) (d ^ k))
set_option maxHeartbeats 6400000 in
set_option maxRecDepth 100000 in
theorem fpower_any {w : World} {m : Bool} {x y : Value} {n d k : Nat} (hx : Num w x n) (hy : Num w y d) (hn : Ok n) (hd : Ok d) (hk : k < 18446744073709551616) :
  Calls Tryz.prog 74 #[.agg #[.bool m, x, y], .int .u64 k, .int .i64 4000] w fun e w' => PRet m n d k w' e ∧ Below w.heap.size w w' := by
 obtain ⟨a1, k1, rfl⟩ := slice_any hx
 obtain ⟨a2, k2, rfl⟩ := slice_any hy
 obtain ⟨hb0, hq1, hq2⟩ := two_frac w m false (.slice a1 (ln n) k1) (.slice a2 (ln d) k2) (.slice none 0 0) (.slice none 0 0)
 have HN := Lib.hid hn
 have HD := Lib.hid hd
 have HK := Lib.hid hk
 clear hn hd hk
 go_enter Tryz.func74, Tryz.ntmps74
 go_wp2_with fail
 generalize (w.alloc (.cells #[.bool m, .slice a1 (ln n) k1, .slice a2 (ln d) k2] 110)).alloc (.cells #[.bool false, .slice none 0 0, .slice none 0 0] 110) = w0 at hb0 hq1 hq2 ⊢
 have HX := Lib.hid (hx.below hb0)
 have HY := Lib.hid (hy.below hb0)
 have HB := Lib.hid hb0
 have HQ1 := Lib.hid hq1
 have HQ2 := Lib.hid hq2
 clear hx hy hb0 hq1 hq2
 have c1 := HQ1.out.c1
 go_wp2_with fail
 refine (power_any HX.out HN.out HK.out).mono ?_
 rintro e w1 ⟨v1, rfl, hv1, hb1⟩
 clear c1
 replace HX := Lib.hid (HX.out.below hb1)
 replace HY := Lib.hid (HY.out.below hb1)
 replace HQ1 := Lib.hid (HQ1.out.keep hb1)
 replace HQ2 := Lib.hid (HQ2.out.keep hb1)
 replace HB := Lib.hid (HB.out.trans (hb1.mono HB.out.size))
 clear hb1
 by_cases o1 : Ok (n ^ k)
 ·have hn1 := hv1 o1
  obtain ⟨b1, l1, rfl⟩ := slice_any hn1
  have HN1 := Lib.hid hn1
  have HO1 := Lib.hid o1
  have hf1 : fitB (n ^ k) = true := fitB_iff.2 o1
  rw [hf1]
  have c2 := HQ1.out.c2
  clear hv1 hn1 o1 hf1
  go_wp2_with fail
  refine (power_any HY.out HD.out HK.out).mono ?_
  rintro e w2 ⟨v2, rfl, hv2, hb2⟩
  replace HQ1 := Lib.hid (HQ1.out.keep hb2)
  replace HQ2 := Lib.hid (HQ2.out.keep hb2)
  replace HN1 := Lib.hid (HN1.out.below hb2)
  replace HB := Lib.hid (HB.out.trans (hb2.mono HB.out.size))
  clear hb2 c2
  have i0 := HQ2.out.c0
  have i1 := HQ2.out.c1
  have i2 := HQ2.out.c2
  have j0 := HQ2.out.z0
  have j1 := HQ2.out.z1
  have j2 := HQ2.out.z2
  by_cases o2 : Ok (d ^ k)
  ·have hn2 := hv2 o2
   obtain ⟨b2, l2, rfl⟩ := slice_any hn2
   have HN2 := Lib.hid hn2
   have HO2 := Lib.hid o2
   have hf2 : fitB (d ^ k) = true := fitB_iff.2 o2
   rw [hf2]
   have c0 := HQ1.out.c0
   clear hv2 hn2 o2 hf2
   cases m with
   | false =>
    have hq := HQ2.out.st false (.slice b1 (ln (n ^ k)) l1) (.slice b2 (ln (d ^ k)) l2)
    have hn1 := HN1.out.st3 i0 false (.slice b1 (ln (n ^ k)) l1) (.slice b2 (ln (d ^ k)) l2)
    have hn2 := HN2.out.st3 i0 false (.slice b1 (ln (n ^ k)) l1) (.slice b2 (ln (d ^ k)) l2)
    have hbf := below_st3 HB.out (show w.heap.size ≤ w.heap.size + 1 by omega) false (.slice b1 (ln (n ^ k)) l1) (.slice b2 (ln (d ^ k)) l2)
    have HF := Lib.hid (And.intro hq (And.intro hn1 (And.intro hn2 hbf)))
    clear hq hn1 hn2 hbf
    go_wp2_with fail
    exact bodyPost_ret (HF.out.1.result2P rfl rfl) rfl ⟨⟨_, _, _, _, _, _, _, by rw [fitB_iff.2 HO1.out, fitB_iff.2 HO2.out]; rfl, fun _ _ => ⟨by rw [Bool.false_and], HF.out.2.1, HF.out.2.2.1⟩⟩, HF.out.2.2.2⟩
   | true =>
    refine Or.elim (Nat.mod_two_eq_zero_or_one k) (fun hpar => ?even) (fun hpar => ?odd)
    case even =>
     have hmod : ((k : Int) % 2 == 1) = false := by rw [beq_eq_false_iff_ne]; omega
     have hq := HQ2.out.st false (.slice b1 (ln (n ^ k)) l1) (.slice b2 (ln (d ^ k)) l2)
     have hn1 := HN1.out.st3 i0 false (.slice b1 (ln (n ^ k)) l1) (.slice b2 (ln (d ^ k)) l2)
     have hn2 := HN2.out.st3 i0 false (.slice b1 (ln (n ^ k)) l1) (.slice b2 (ln (d ^ k)) l2)
     have hbf := below_st3 HB.out (show w.heap.size ≤ w.heap.size + 1 by omega) false (.slice b1 (ln (n ^ k)) l1) (.slice b2 (ln (d ^ k)) l2)
     have HF := Lib.hid (And.intro hq (And.intro hn1 (And.intro hn2 hbf)))
     have HS := Lib.hid (show false = (true && decide (k % 2 = 1)) by rw [hpar]; rfl)
     clear hq hn1 hn2 hbf hpar
     go_wp2_with fail
     exact bodyPost_ret (HF.out.1.result2P rfl rfl) rfl ⟨⟨_, _, _, _, _, _, _, by rw [fitB_iff.2 HO1.out, fitB_iff.2 HO2.out]; rfl, fun _ _ => ⟨HS.out, HF.out.2.1, HF.out.2.2.1⟩⟩, HF.out.2.2.2⟩
    case odd =>
     have hmod : ((k : Int) % 2 == 1) = true := by rw [beq_iff_eq]; omega
     have hq := HQ2.out.st true (.slice b1 (ln (n ^ k)) l1) (.slice b2 (ln (d ^ k)) l2)
     have hn1 := HN1.out.st3 i0 true (.slice b1 (ln (n ^ k)) l1) (.slice b2 (ln (d ^ k)) l2)
     have hn2 := HN2.out.st3 i0 true (.slice b1 (ln (n ^ k)) l1) (.slice b2 (ln (d ^ k)) l2)
     have hbf := below_st3 HB.out (show w.heap.size ≤ w.heap.size + 1 by omega) true (.slice b1 (ln (n ^ k)) l1) (.slice b2 (ln (d ^ k)) l2)
     have HF := Lib.hid (And.intro hq (And.intro hn1 (And.intro hn2 hbf)))
     have HS := Lib.hid (show true = (true && decide (k % 2 = 1)) by rw [hpar]; rfl)
     clear hq hn1 hn2 hbf hpar
     go_wp2_with fail
     exact bodyPost_ret (HF.out.1.result2P rfl rfl) rfl ⟨⟨_, _, _, _, _, _, _, by rw [fitB_iff.2 HO1.out, fitB_iff.2 HO2.out]; rfl, fun _ _ => ⟨HS.out, HF.out.2.1, HF.out.2.2.1⟩⟩, HF.out.2.2.2⟩
  ·have hf2 : fitB (d ^ k) = false := by
    cases h : fitB (d ^ k) with
    | false => rfl
    | true => exact absurd (fitB_iff.1 h) o2
   have HF2 := Lib.hid hf2
   have HO2 := Lib.hid o2
   rw [hf2]
   clear hv2 o2 hf2
   go_wp2_with fail
   exact bodyPost_ret ((HQ2.out.st false (.slice none 0 0) (.slice none 0 0)).result2P rfl rfl) rfl ⟨⟨_, _, _, _, _, _, _, by rw [HF2.out, Bool.and_false], fun _ h => absurd h HO2.out⟩, below_st3 HB.out (show w.heap.size ≤ w.heap.size + 1 by omega) _ _ _⟩
 ·have hf1 : fitB (n ^ k) = false := by
   cases h : fitB (n ^ k) with
   | false => rfl
   | true => exact absurd (fitB_iff.1 h) o1
  have HF1 := Lib.hid hf1
  have HO1 := Lib.hid o1
  rw [hf1]
  have i0 := HQ2.out.c0
  have i1 := HQ2.out.c1
  have i2 := HQ2.out.c2
  have j0 := HQ2.out.z0
  have j1 := HQ2.out.z1
  have j2 := HQ2.out.z2
  clear hv1 o1 hf1
  go_wp2_with fail
  exact bodyPost_ret ((HQ2.out.st false (.slice none 0 0) (.slice none 0 0)).result2P rfl rfl) rfl ⟨⟨_, _, _, _, _, _, _, by rw [HF1.out, Bool.false_and], fun h => absurd h HO1.out⟩, below_st3 HB.out (show w.heap.size ≤ w.heap.size + 1 by omega) _ _ _⟩
end Go.Proofs.YtjpepjooefkbkaaGreatDoor
