/-
  The reference's Plus and Minus.
-/
import Derived.Test.YtjpepjooefkbkaaGreatDoorGF
import Derived.Deep.Cut
import Derived.Deep.CutRange
namespace Go.Proofs.YtjpepjooefkbkaaGreatDoor
open Go.RowKit NV
theorem ln_add_left (a b : Nat) : ln a ≤ ln (a + b) ∧ ln b ≤ ln (a + b) := ⟨ln_mono (by omega), ln_mono (by omega)⟩
theorem ca_end {a b k : Nat} (ha : ln a ≤ k) (hb : ln b ≤ k) : (0 < ca a b k ↔ k < ln (a + b)) := by
 have h1 := Nat.lt_of_lt_of_le (lt_pow_ln a) (Nat.pow_le_pow_right B_pos ha)
 have h2 := Nat.lt_of_lt_of_le (lt_pow_ln b) (Nat.pow_le_pow_right B_pos hb)
 rw [ca, Nat.mod_eq_of_lt h1, Nat.mod_eq_of_lt h2]
 constructor
 ·intro h
  by_cases hk : k < ln (a + b)
  ·exact hk
  ·have h3 := Nat.lt_of_lt_of_le (lt_pow_ln (a + b)) (Nat.pow_le_pow_right B_pos (show ln (a + b) ≤ k by omega))
   rw [Nat.div_eq_of_lt h3] at h
   omega
 ·intro h
  by_cases h3 : a + b < B ^ k
  ·have := ln_le h3; omega
  ·exact Nat.div_pos (by omega) (pow_pos k)
set_option maxHeartbeats 3200000 in
set_option maxRecDepth 100000 in
theorem iplus_any {w : World} {x y : Value} {a b : Nat} (hx : INum w x a) (hy : INum w y b) (ha : ln a ≤ 1000000) (hb : ln b ≤ 1000000) (hs : ln (a + b) ≤ 1000001) :
  Calls Tryz.prog 52 #[x, y] w fun e w' => ∃ v, e = .returned v ∧ INum w' v (a + b) ∧ Below w.heap.size w w' := by
 obtain ⟨i0, hi, hz0, hz1, hz2⟩ := info_parts infoI
 obtain ⟨n, hn⟩ : ∃ n, n = a + b := ⟨_, rfl⟩
 have HL := Lib.hid (ln_add_left a b)
 have HCE := Lib.hid (fun k (h1 : ln a ≤ k) (h2 : ln b ≤ k) => ca_end (a := a) (b := b) h1 h2)
 have HDG := Lib.hid (fun k => dg_add a b k)
 rw [← hn] at HL HCE HDG hs ⊢
 have hown0 : w.ownsRow w.heap.size 3 1 (.slice none 0 0) 0 (ilvs n 0) := World.ownsRow_nil w _ _ _
 have hla := HL.out.1
 have hlb := HL.out.2
 obtain ⟨xa, xc, rfl⟩ := islice_any hx
 obtain ⟨ya, yc, rfl⟩ := islice_any hy
 have HX := Lib.hid hx
 have HY := Lib.hid hy
 clear hn hx hy
 go_enter Tryz.func52, Tryz.ntmps52
 go_wp2_with fail
 go_loopw [5, 6, 7] (fun v c i wr => ∃ k : Nat, k ≤ ln n ∧ i = .int .i64 k ∧ c = .int .i64 ((ca a b k : Nat) : Int) ∧ wr.ownsRow w.heap.size 3 1 v k (ilvs n k) ∧ Hid (v = .slice none 0 0 ↔ k = 0) ∧ Below w.heap.size w wr) (fun _ _ i _ => ln n - (intOf i).toNat)
 case atStart => exact ⟨0, Nat.zero_le _, rfl, by rw [ca_zero]; rfl, hown0, Lib.hid (by simp), Below.refl _ _⟩
 case round =>
  obtain ⟨k, hk, rfl, rfl, hown, hnil, hbr⟩ := hrel
  clear hown0
  have b3 := ca_le a b k
  by_cases hlt : k < ln n
  ·have hcase : k < ln a ∨ ((¬ k < ln a) ∧ k < ln b) ∨ ((¬ k < ln a) ∧ (¬ k < ln b) ∧ 0 < ca a b k) := by
    by_cases h1 : k < ln a
    ·exact .inl h1
    ·by_cases h2 : k < ln b
     ·exact .inr (.inl ⟨h1, h2⟩)
     ·exact .inr (.inr ⟨h1, h2, (HCE.out k (by omega) (by omega)).2 hlt⟩)
   have hxr := HX.out.below hbr
   have hyr := HY.out.below hbr
   have b1 := dg_lt a k
   have b2 := dg_lt b k
   have HXR := Lib.hid hxr
   have HYR := Lib.hid hyr
   obtain ⟨C, hC⟩ : ∃ C, C = ca a b k := ⟨_, rfl⟩
   have HC := Lib.hid hC
   rw [← hC] at b3 hcase ⊢
   clear hxr hyr hC
   refine Or.elim hcase (fun h => ?c1) (fun h => Or.elim h (fun h => ?c2) (fun h => ?c3))
   case' c1 => clear hcase
   case' c2 => obtain ⟨h1, h2⟩ := h; clear hcase
   case' c3 => obtain ⟨h1, h2, h3⟩ := h; have h4 : (0 : Int) < (C : Int) := by omega
               clear hcase
   all_goals
    go_upto_if 27 with fail
    go_cut [6] from 8 to 50 (fun s6 wx => s6 = .int .i64 ((C + dg a k : Nat) : Int) ∧ wx = wr)
    case first =>
     by_cases hka : k < ln a
     ·obtain ⟨xb, rfl⟩ := HXR.out.addr (by omega)
      have c1 := HXR.out.cell hka
      go_wp2_with fail
      go_meet
      exact ⟨congrArg (Value.int .i64) (by omega), rfl⟩
     ·first
       | exact absurd ‹k < ln a› hka
       | (have HZ := Lib.hid (dg_past (n := a) (k := k) (by omega))
          go_wp2_with fail
          go_meet
          exact ⟨congrArg (Value.int .i64) (by rw [HZ.out]; omega), rfl⟩)
    case rest =>
    obtain ⟨rfl, rfl⟩ := hcut
    go_upto_if 37 with fail
    go_cut [6] from 8 to 50 (fun s6 wx => s6 = .int .i64 ((dg a k + dg b k + C : Nat) : Int) ∧ wx = wc)
    case first =>
     by_cases hkb : k < ln b
     ·obtain ⟨yb, rfl⟩ := HYR.out.addr (by omega)
      have c1 := HYR.out.cell hkb
      go_wp2_with fail
      go_meet
      exact ⟨congrArg (Value.int .i64) (by omega), rfl⟩
     ·first
       | exact absurd ‹k < ln b› hkb
       | (have HZ := Lib.hid (dg_past (n := b) (k := k) (by omega))
          go_wp2_with fail
          go_meet
          exact ⟨congrArg (Value.int .i64) (by rw [HZ.out]; omega), rfl⟩)
    case rest =>
    obtain ⟨rfl, rfl⟩ := hcut
    have hv : ((dg a k + dg b k + C : Nat) : Int) % 1000000000 = ((dg n k : Nat) : Int) := by have := HDG.out k; rw [← HC.out] at this; omega
    have HV := Lib.hid hv
    have HW := Lib.hid (show ((dg a k + dg b k + C : Nat) : Int) / 1000000000 = ((ca a b (k + 1) : Nat) : Int) by rw [ca_succ, ← HC.out]; omega)
    obtain ⟨S, hS⟩ : ∃ S : Nat, S = dg a k + dg b k + C := ⟨_, rfl⟩
    rw [← hS] at HV HW ⊢
    have hSb : S ≤ 2000000000 := by omega
    clear hv hS
    have HNEWS := Lib.hid (cell_one_new wc (.int .i64 ((S : Int) % 1000000000)) 3 0 (.int .i64 ((S : Int) % 1000000000)) rfl)
    have hbe : Below wc.heap.size wc (wc.alloc (.cells #[.int .i64 ((S : Int) % 1000000000)] 3)) := (Below.refl _ _).alloc (Nat.le_refl _) _
    have hsr := hbr.size
    have hownA := owns_below hown hbe
    have hbA := hbr.trans (hbe.mono hsr)
    have hbase : w.heap.size ≤ (wc.alloc (.cells #[.int .i64 ((S : Int) % 1000000000)] 3)).heap.size := by simp; omega
    clear hown hbr hbe
    go_wp2_with (at_builtin; refine wpList_append_own _ rfl _ _ 59 rfl w.heap.size 3 i0 (.int .i64 0) 1 8 Tryz.underlying59 hi hz0 hz1 hz2 rfl (by decide) _ k _ rfl hownA ⟨wc.heap.size, 0, none⟩ 1 1 [.int .i64 ((S : Int) % 1000000000)] rfl rfl (by
     intro j u hj
     obtain rfl : j = 0 := by
      have := (List.getElem?_eq_some_iff.1 hj).1
      simpa using this
     simp at hj
     subst hj
     exact HNEWS.out) (by intro u hu; simp at hu; subst hu; rfl) (by unfold maxLen; omega) (by omega) hbase ?_)
    intro v' w3 hown3 hgrow3 hnil3
    rw [HV.out, ← ilvs_succ] at hown3
    have hb3 : Below w.heap.size w w3 := hbA.grown hgrow3 hbase (fun b hb => (World.ownsRow.lt hownA b hb).1)
    have HF := Lib.hid (And.intro hown3 hb3)
    have HNIL := Lib.hid hnil3
    clear hown3 hgrow3 hb3 hnil3 hownA hbA
    go_wp2_with fail
    go_roundw
    case rel => exact ⟨k + 1, by omega, by go_num, by rw [HW.out], HF.out.1, Lib.hid ⟨fun h => absurd h HNIL.out, fun h => by omega⟩, HF.out.2⟩
    case measure => simp [intOf]; omega
  ·obtain rfl : k = ln n := by omega
   have h1 : ¬ ln n < ln a := by omega
   have h2 : ¬ ln n < ln b := by omega
   have h3 : ca a b (ln n) = 0 := by
    by_cases h : ca a b (ln n) = 0
    ·exact h
    ·have := (HCE.out (ln n) (by omega) (by omega)).1 (by omega); omega
   have HR := Lib.hid (show INum wr u5 n by
    by_cases h0 : ln n = 0
    ·rw [hnil.out.2 h0, ln_eq_zero h0]; exact INum.nil _
    ·obtain ⟨g, c, rfl, hg, hgl, hkc, hcell⟩ := iown_form hown (fun e => h0 (hnil.out.1 e))
     exact inum_of hgl (Nat.le_refl _) hkc hcell)
   rw [h3]
   have HB := Lib.hid hbr
   clear hown hbr hlt h3
   go_wp2_with fail
   go_ret
   exact ⟨_, rfl, HR.out, HB.out⟩
set_option maxHeartbeats 800000 in
theorem itrim_nil (w : World) :
  Calls Tryz.prog 87 #[.slice none 0 0] w fun e w' => e = .returned (.slice none 0 0) ∧ w = w' := by
 go_enter Tryz.func87, Tryz.ntmps87
 go_wp2
 go_loop [0] (fun s => s = .slice none 0 0) (fun _ => 0)
 case atStart => rfl
 case round =>
  subst hrel
  go_wp2
  go_ret
  exact ⟨rfl, rfl⟩
set_option maxHeartbeats 3200000 in
set_option maxRecDepth 100000 in
theorem iminus_any {w : World} {x y : Value} {a b : Nat} (hx : INum w x a) (hy : INum w y b) (ha : ln a ≤ 1000000) (hba : b ≤ a) :
  Calls Tryz.prog 54 #[x, y] w fun e w' => ∃ v, e = .returned v ∧ INum w' v (a - b) ∧ Below w.heap.size w w' := by
 obtain ⟨i0, hi, hz0, hz1, hz2⟩ := info_parts infoI
 have hlb := ln_mono hba
 have hlt0 : a - b < B ^ ln a := Nat.lt_of_le_of_lt (by omega) (lt_pow_ln a)
 have HSUB := Lib.hid (fun k => dg_sub hba k)
 have HLT := Lib.hid hlt0
 have HN0 := Lib.hid (show ln a = 0 → a - b = 0 from fun h => by rw [ln_eq_zero h]; omega)
 obtain ⟨n, hn⟩ : ∃ n, n = a - b := ⟨_, rfl⟩
 rw [← hn] at HSUB HLT HN0 ⊢
 have hown0 : w.ownsRow w.heap.size 3 1 (.slice none 0 0) 0 (ilvs n 0) := World.ownsRow_nil w _ _ _
 obtain ⟨xa, xc, rfl⟩ := islice_any hx
 obtain ⟨ya, yc, rfl⟩ := islice_any hy
 have HX := Lib.hid hx
 have HY := Lib.hid hy
 clear hn hx hy hba hlt0
 go_enter Tryz.func54, Tryz.ntmps54
 go_wp2_with fail
 go_loopw [5, 6, 7] (fun v c i wr => ∃ k : Nat, k ≤ ln a ∧ i = .int .i64 k ∧ c = .int .i64 ((bo a b k : Nat) : Int) ∧ wr.ownsRow w.heap.size 3 1 v k (ilvs n k) ∧ Hid (v = .slice none 0 0 ↔ k = 0) ∧ Below w.heap.size w wr) (fun _ _ i _ => ln a - (intOf i).toNat)
 case atStart => exact ⟨0, Nat.zero_le _, rfl, by rw [bo_zero]; rfl, hown0, Lib.hid (by simp), Below.refl _ _⟩
 case round =>
  obtain ⟨k, hk, rfl, rfl, hown, hnil, hbr⟩ := hrel
  clear hown0
  have b3 := bo_le a b k
  by_cases hlt : k < ln a
  ·have hxr := HX.out.below hbr
   have hyr := HY.out.below hbr
   have b1 := dg_lt a k
   have b2 := dg_lt b k
   obtain ⟨xb, rfl⟩ := hxr.addr (by omega)
   have c0 := hxr.cell hlt
   have HYR := Lib.hid hyr
   obtain ⟨C, hC⟩ : ∃ C, C = bo a b k := ⟨_, rfl⟩
   have HC := Lib.hid hC
   rw [← hC] at b3 ⊢
   clear hxr hyr hC
   go_upto_if 24 with fail
   go_cut [8] from 9 to 38 (fun s8 wx => s8 = .int .i64 (((dg a k : Nat) : Int) - (C : Int) - ((dg b k : Nat) : Int)) ∧ wx = wr)
   case first =>
    by_cases hkb : k < ln b
    ·obtain ⟨yb, rfl⟩ := HYR.out.addr (by omega)
     have c1 := HYR.out.cell hkb
     go_wp2_with fail
     go_meet
     exact ⟨rfl, rfl⟩
    ·have HZ := Lib.hid (dg_past (n := b) (k := k) (by omega))
     go_wp2_with fail
     go_meet
     exact ⟨congrArg (Value.int .i64) (by rw [HZ.out]; omega), rfl⟩
   case rest =>
   obtain ⟨rfl, rfl⟩ := hcut
   go_upto_if 32 with fail
   go_cut [6, 8] from 9 to 38 (fun s6 s8 wx => s6 = .int .i64 ((bo a b (k + 1) : Nat) : Int) ∧ s8 = .int .i64 ((dg n k : Nat) : Int) ∧ wx = wc)
   case first =>
    have hs := HSUB.out k
    rw [← HC.out] at hs
    obtain ⟨e1, e2⟩ := hs
    have HE1 := Lib.hid e1
    have HE2 := Lib.hid e2
    clear e1 e2
    by_cases hneg : ((dg a k : Nat) : Int) - (C : Int) - ((dg b k : Nat) : Int) < 0
    ·go_wp2_with fail
     go_meet
     exact ⟨congrArg (Value.int .i64) (by have := HE2.out; omega), congrArg (Value.int .i64) (by have := HE1.out; omega), rfl⟩
    ·go_wp2_with fail
     go_meet
     exact ⟨congrArg (Value.int .i64) (by have := HE2.out; omega), congrArg (Value.int .i64) (by have := HE1.out; omega), rfl⟩
   case rest =>
   obtain ⟨rfl, rfl, rfl⟩ := hcut
   have b5 := dg_lt n k
   have HNEWS := Lib.hid (cell_one_new wc (.int .i64 ((dg n k : Nat) : Int)) 3 0 (.int .i64 ((dg n k : Nat) : Int)) rfl)
   have hbe : Below wc.heap.size wc (wc.alloc (.cells #[.int .i64 ((dg n k : Nat) : Int)] 3)) := (Below.refl _ _).alloc (Nat.le_refl _) _
   have hsr := hbr.size
   have hownA := owns_below hown hbe
   have hbA := hbr.trans (hbe.mono hsr)
   have hbase : w.heap.size ≤ (wc.alloc (.cells #[.int .i64 ((dg n k : Nat) : Int)] 3)).heap.size := by simp; omega
   clear hown hbr hbe
   go_wp2_with (at_builtin; refine wpList_append_own _ rfl _ _ 59 rfl w.heap.size 3 i0 (.int .i64 0) 1 8 Tryz.underlying59 hi hz0 hz1 hz2 rfl (by decide) _ k _ rfl hownA ⟨wc.heap.size, 0, none⟩ 1 1 [.int .i64 ((dg n k : Nat) : Int)] rfl rfl (by
    intro j u hj
    obtain rfl : j = 0 := by
     have := (List.getElem?_eq_some_iff.1 hj).1
     simpa using this
    simp at hj
    subst hj
    exact HNEWS.out) (by intro u hu; simp at hu; subst hu; rfl) (by unfold maxLen; omega) (by omega) hbase ?_)
   intro v' w3 hown3 hgrow3 hnil3
   rw [← ilvs_succ] at hown3
   have hb3 : Below w.heap.size w w3 := hbA.grown hgrow3 hbase (fun b hb => (World.ownsRow.lt hownA b hb).1)
   have HF := Lib.hid (And.intro hown3 hb3)
   have HNIL := Lib.hid hnil3
   clear hown3 hgrow3 hb3 hnil3 hownA hbA
   go_wp2_with fail
   go_roundw
   case rel => exact ⟨k + 1, by omega, by go_num, rfl, HF.out.1, Lib.hid ⟨fun h => absurd h HNIL.out, fun h => by omega⟩, HF.out.2⟩
   case measure => simp [intOf]; omega
  ·obtain rfl : k = ln a := by omega
   have HB := Lib.hid hbr
   by_cases h0 : ln a = 0
   ·have hv := hnil.out.2 h0
    subst hv
    have HR := Lib.hid (show INum wr (.slice none 0 0) n by rw [HN0.out h0]; exact INum.nil _)
    clear hown hbr
    go_wp2_with fail
    refine (itrim_nil _).mono ?_
    rintro e w2 ⟨rfl, rfl⟩
    go_wp2_with fail
    go_ret
    exact ⟨_, rfl, HR.out, HB.out⟩
   ·obtain ⟨g, c, rfl, hg, hgl, hkc, hcell⟩ := iown_form hown (fun e => h0 (hnil.out.1 e))
    have HR := Lib.hid (inum_of hgl (ln_le HLT.out) hkc hcell)
    have HTR := Lib.hid (itrim_any (n := n) (by omega) hkc HLT.out hcell)
    clear hown hbr hcell
    go_wp2_with fail
    refine HTR.out.mono ?_
    rintro e w2 ⟨rfl, rfl⟩
    go_wp2_with fail
    go_ret
    exact ⟨_, rfl, HR.out, HB.out⟩
end Go.Proofs.YtjpepjooefkbkaaGreatDoor
