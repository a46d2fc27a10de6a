/-
  The laws of layer 8: their examples, numbers. The laws of layer 8: light, made. DistSets: what it asks of two distributions and a factor. The laws of layer 8: made of given lists; what Delta returns. The laws of layer 9: few, made.
-/
import Derived.Test.YtkponlbpgmnpgaaGreatDoorZC
namespace Go.Proofs.YtkponlbpgmnpgaaGreatDoor
section
open Go.RowKit NV Go.Maps Go.Sort Go.Shelf
open Go.Lib (decDigits)
theorem MR.lit {w : World} {g : Nat} {L : List MI} (h : w.heap[g]? = some (.cells (cellsZ L).toArray 78 (0, 0))) : MR w (some ⟨g, 0, none⟩) L.length L := by
 refine ⟨rfl, ?_⟩
 by_cases h0 : L.length = 0
 ·exact .inl h0
 refine .inr ⟨_, rfl, (Array.getElem?_eq_some_iff.1 h).1, fun j x hx => ?_⟩
 obtain ⟨h1, h2⟩ := cellsZ_get L j x hx
 have hc : ∀ i v, (cellsZ L)[i]? = some v → w.cell? ⟨g, i, none⟩ = some v := fun i v hi => by
  rw [Lib.cell_of_heap h]
  simpa using hi
 have e : (⟨g, 0, none⟩ : Addr).add (j * 2) = ⟨g, j * 2, none⟩ := by rw [Addr.add_lit, Nat.zero_add]
 rw [e]
 exact ⟨hc _ _ h1, hc _ _ h2⟩
theorem Sz.of {q : Rat} {d : Nat} (hd0 : 0 < d) (h : (qstr q).size ≤ d) : Sz d q := by
 obtain ⟨s1, s2⟩ := qstr_sizes q
 exact ⟨(dec_len_le hd0).1 (by omega), (dec_len_le hd0).1 (by omega)⟩
end

section
open Go.RowKit NV Go.Maps Go.Sort Go.Shelf
open Go.Lib (decDigits)
def litX (x : MI) : Bool := decide (x.1.size ≤ 12) && decide (x.2.size ≤ 24)
def litB (L : List MI) : Bool := decide (L.length ≤ 16) && L.all litX
theorem litB_yes {L : List MI} (h : litB L = true) : L.length ≤ 16 ∧ ∀ x, x ∈ L → x.1.size ≤ 12 ∧ x.2.size ≤ 24 := by
 unfold litB at h
 rw [Bool.and_eq_true, decide_eq_true_iff, List.all_eq_true] at h
 refine ⟨h.1, fun x hx => ?_⟩
 have h2 := h.2 x hx
 unfold litX at h2
 rw [Bool.and_eq_true, decide_eq_true_iff, decide_eq_true_iff] at h2
 exact h2
theorem litB_ml {L : List MI} (h : litB L = true) : ML2 L := fun x hx => by
 have := (litB_yes h).2 x hx
 omega
def MX (L : List MI) : Prop := ∀ x, x ∈ L → x.1.size ≤ 9223372036854775807 ∧ x.2.size ≤ 9223372036854775807
theorem MX.of {L : List MI} (h : ML2 L) : MX L := fun x hx => by have := h x hx; omega
def DV (W : World) (v : Value) (D : List QI) : Prop := ∃ ao cap, v = .slice ao D.length cap ∧ MR W ao D.length (tZ D) ∧ GoodQ D ∧ sumD D = 0 ∧ litB (tZ D) = true
theorem DV.below {W W' : World} {v : Value} {D : List QI} (h : DV W v D) (hb : Below W.heap.size W W') : DV W' v D := by
 obtain ⟨ao, cap, h1, h2, h3⟩ := h
 exact ⟨ao, cap, h1, h2.below hb, h3⟩
theorem DV.lt {W : World} {v : Value} {D : List QI} (h : DV W v D) : ∀ b, v.ownBlock = some b → b < W.heap.size := by
 obtain ⟨ao, cap, rfl, h2, _, h4, _⟩ := h
 intro b hb
 have h0 : D.length ≠ 0 := fun e => by
  have e2 : D = [] := List.length_eq_zero_iff.1 e
  subst e2
  revert h4
  decide +kernel
 obtain ⟨a, rfl, h5, _⟩ := h2.form h0
 obtain rfl : a.block = b := by simpa [Value.ownBlock] using hb
 exact h5
theorem DV.ch {S : Nat → Prop} {W W' : World} {v : Value} {D : List QI} (h : DV W v D) (hc : Ch S W W') (hS : ∀ b, v.ownBlock = some b → ¬ S b) : DV W' v D := by
 obtain ⟨ao, cap, rfl, h2, h3⟩ := h
 exact ⟨ao, cap, rfl, h2.ch hc (fun a ha _ => hS _ (by rw [ha]; rfl)), h3⟩
theorem infoD : (Tryz.prog.info? 51).map (fun i => (i.zero, i.size, i.bytes)) = some (some (.slice none 0 0), 1, 24) := by kernel_rfl
end

section
open Go.RowKit NV Go.Maps Go.Sort Go.Shelf
open Go.Lib (decDigits)
theorem Sz.zero : Sz 1 0 := ⟨by decide, by decide⟩
theorem sm_sz {g : Nat → Rat} {c : Nat} : ∀ {n : Nat}, (∀ i, i < n → Sz c (g i)) → Sz (n * (c + 1) + 1) (sm g n)
 | 0, _ => Sz.zero.mono (by omega)
 | n + 1, h => by
  have h1 := sm_sz (n := n) (fun i hi => h i (by omega))
  have h2 := Sz.add h1 (h n (by omega))
  exact h2.mono (by rw [Nat.succ_mul]; omega)
theorem mx0_sz {q : Rat} {k : Nat} (hk : 1 ≤ k) (h : Sz k q) : Sz k (mx0 q) := by
 unfold mx0
 split
 ·exact h
 ·exact Sz.zero.mono hk
theorem lit_sz {L : List MI} (h : litB L = true) (hok : OKM L) : ∀ k, k < L.length → Sz 24 (qZ L k) := fun k hk => by
 have hx : L[k]? = some L[k] := List.getElem?_eq_getElem hk
 obtain ⟨h1, _⟩ := hok.at hx
 have h2 := ((litB_yes h).2 L[k] (List.getElem_mem hk)).2
 rw [h1] at h2
 exact Sz.of (by omega) h2
theorem vQ_sz {L : List MI} (h : litB L = true) (hok : OKM L) (key : List UInt8) : Sz 24 (vQ L key) := by
 unfold vQ
 cases hh : hasZ key L with
 | true =>
  obtain ⟨x, hx, _, e⟩ := val_mem hh
  rw [e]
  have h2 := ((litB_yes h).2 x hx).2
  have h3 := (ratS_ok (hok x hx)).1
  rw [h3] at h2
  exact Sz.of (by omega) h2
 | false => rw [val_no hh, rat0Z]; exact Sz.zero.mono (by omega)
theorem vQ_nonneg {L : List MI} (hpos : ∀ k, k < L.length → 0 < qZ L k) (key : List UInt8) : 0 ≤ vQ L key := by
 unfold vQ
 cases hh : hasZ key L with
 | true =>
  obtain ⟨x, hx, _, e⟩ := val_mem hh
  rw [e]
  obtain ⟨j, hj, rfl⟩ := List.mem_iff_getElem.1 hx
  have := hpos j hj
  unfold qZ at this
  rw [getZ_of (List.getElem?_eq_getElem hj)] at this
  exact Rat.le_of_lt this
 | false => rw [val_no hh, rat0Z]; exact Rat.le_refl
theorem sumE_run {g : Nat → Rat} {n : Nat} (h : sumE g n = 0) : runO (addS g) 0 n = some 1 := by
 unfold sumE at h
 cases hr : runO (addS g) 0 n with
 | none => rw [hr] at h; cases h
 | some s =>
  rw [hr] at h
  have h2 : (if s = 1 then 0 else 15) = 0 := h
  by_cases h3 : s = 1
  ·rw [h3]
  ·rw [if_neg h3] at h2; cases h2
theorem addS_sm {g : Nat → Rat} : ∀ {n : Nat} {s : Rat}, runO (addS g) 0 n = some s → s = sm g n
 | 0, s, h => (Option.some.inj h).symm
 | n + 1, s, h => by
  obtain ⟨t, ht⟩ := runO_some h n (by omega)
  rw [runO_step ht] at h
  obtain ⟨e, _⟩ := okQ_some h
  rw [← e, addS_sm ht]; rfl
theorem sum_one {L : List MI} (h : chkZ L = 0) : sm (qZ L) L.length = 1 := (addS_sm (sumE_run (chk_ok h).2.2.1)).symm
def dD (P Q : List MI) (f : Rat) (i : Nat) : Rat := mx0 (qZ P i - f * vQ Q (kZ (getZ P i)))
end

section
open Go.RowKit NV Go.Maps Go.Sort Go.Shelf
open Go.Lib (decDigits)
theorem eS_q {f : Rat} (ho : QOk f) (h0 : 0 ≤ f) : eS (qstr f) = 0 := by
 unfold eS
 rw [if_neg (by rw [qstr_chk ho]; omega), ratS_q, if_neg]
 have : cmpQ 0 f ≤ 0 := cmpQ_le.2 h0
 rw [cmpQ_neg] at this
 unfold sgnQ; omega
theorem ds_cells {W : World} {base n : Nat} {v : Value} {ds : List Value} (h : W.ownsRow base 51 1 v n ds) (hn : n ≠ 0) : ∃ g cl, v = .slice (some ⟨g, 0, none⟩) n cl ∧ g < W.heap.size ∧ ∀ (j : Nat) (u : Value), ds[j]? = some u → W.cell? ⟨g, j, none⟩ = some u := by
 rcases h.2 with ⟨_, h0⟩ | ⟨g, cl, cur, hv, _, hh, _⟩
 ·exact absurd h0 hn
 ·subst hv
  refine ⟨g, cl, rfl, (Array.getElem?_eq_some_iff.1 hh).1, fun j u hu => ?_⟩
  have := h.cells (g := g) rfl j u hu
  rwa [Addr.add_lit, Nat.zero_add] at this
end

section
open Go.RowKit NV Go.Maps Go.Sort Go.Shelf
open Go.Lib (decDigits)
def fewB (L : List MI) : Bool := decide (L.length ≤ 12) && L.all litX
theorem fewB_yes {L : List MI} (h : fewB L = true) : L.length ≤ 12 ∧ ∀ x, x ∈ L → x.1.size ≤ 12 ∧ x.2.size ≤ 24 := by
 unfold fewB at h
 rw [Bool.and_eq_true, decide_eq_true_iff, List.all_eq_true] at h
 refine ⟨h.1, fun x hx => ?_⟩
 have h2 := h.2 x hx
 unfold litX at h2
 rw [Bool.and_eq_true, decide_eq_true_iff, decide_eq_true_iff] at h2
 exact h2
theorem fewB_ml {L : List MI} (h : fewB L = true) : ML2 L := fun x hx => by
 have := (fewB_yes h).2 x hx
 omega
set_option maxHeartbeats 6400000 in
set_option maxRecDepth 100000 in
theorem few1_any {L : List MI} {N cap g : Nat} {ao : Option Addr} {w : World} (hr : MR w ao N L) (hN : N ≤ 9223372036854775807) (hx : MX L) (hg : w.cell? ⟨g, 0, none⟩ = some (.slice ao N cap)) :
  Calls Tryz.prog 29 #[.slice (some ⟨g, 0, none⟩) 1 1] w fun e w' => e = .returned (.bool (fewB L)) ∧ w = w' := by
 have HR := Lib.hid hr
 have HX := Lib.hid hx
 obtain ⟨r, hrr⟩ : ∃ r, r = fewB L := ⟨_, rfl⟩
 rw [← hrr]
 unfold fewB at hrr
 rw [hr.len] at hrr
 by_cases h16 : N ≤ 12
 ·rw [decide_eq_true h16, Bool.true_and] at hrr
  have HNO := Lib.hid (show ∀ (k : Nat) (x : MI), L[k]? = some x → litX x = false → r = false from fun k x hx h => by
   rw [hrr, List.all_eq_false]
   exact ⟨x, List.mem_of_getElem? hx, by rw [h]; decide⟩)
  have HYES := Lib.hid (show (∀ (k : Nat) (x : MI), k < N → L[k]? = some x → litX x = true) → r = true from fun h => by
   rw [hrr, List.all_eq_true]
   intro x hx
   obtain ⟨k, hk, rfl⟩ := List.mem_iff_getElem.1 hx
   exact h k _ (by rw [← hr.len]; exact hk) (List.getElem?_eq_getElem hk))
  have h16i : ¬ 12 < (N : Int) := by omega
  clear hr hx hrr
  go_enter Tryz.func29, Tryz.ntmps29
  go_wp2_with fail
  go_loop [3] (fun iv => iv = .int .i64 0 ∨ (iv = .int .i64 1 ∧ Hid (r = true))) (fun iv => 2 - (intOf iv).toNat)
  case atStart => exact .inl rfl
  case round =>
   rcases hrel with rfl | ⟨rfl, HT⟩
   ·go_wp2_with fail
    go_loop [4] (fun iv => ∃ k : Nat, k ≤ N ∧ iv = .int .i64 (k : Int) ∧ Hid (∀ j x, j < k → L[j]? = some x → litX x = true)) (fun iv => N - (intOf iv).toNat)
    case atStart => exact ⟨0, Nat.zero_le _, rfl, Lib.hid (fun j x hj => absurd hj (Nat.not_lt_zero _))⟩
    case round =>
     obtain ⟨k, hk, rfl, HALL⟩ := hrel
     by_cases hlt : k < N
     ·obtain ⟨a, x, rfl, hx, _, c0, c1⟩ := HR.out.at hlt
      have HXX := Lib.hid hx
      have hsz := HX.out x (List.mem_of_getElem? hx)
      have HNK := Lib.hid (HNO.out k x hx)
      have hlx : litX x = (decide (x.1.size ≤ 12) && decide (x.2.size ≤ 24)) := rfl
      have HLX := Lib.hid hlx
      obtain ⟨x1, x2⟩ := x
      have hs1 : x1.size ≤ 9223372036854775807 := hsz.1
      have hs2 : x2.size ≤ 9223372036854775807 := hsz.2
      clear hx hlx hsz
      by_cases ha : x1.size ≤ 12
      ·have ha2 : ¬ 12 < (x1.size : Int) := by omega
       by_cases hb : x2.size ≤ 24
       ·have hb2 : ¬ 24 < (x2.size : Int) := by omega
        have HL1 := Lib.hid (show litX (x1, x2) = true by rw [HLX.out, decide_eq_true ha, decide_eq_true hb]; rfl)
        clear HNK HLX
        go_wp2_with fail
        go_round
        case rel => exact ⟨k + 1, by omega, by go_num, Lib.hid (fun j y hj hy => by
         rcases Nat.lt_or_ge j k with h | h
         ·exact HALL.out j y h hy
         ·obtain rfl : k = j := by omega
          rw [HXX.out] at hy
          obtain rfl := Option.some.inj hy
          exact HL1.out)⟩
        case measure => simp [intOf]; omega
       ·have hb2 : 24 < (x2.size : Int) := by omega
        have HL1 := Lib.hid (HNK.out (by rw [HLX.out, decide_eq_false hb, Bool.and_false]))
        clear HNK HLX HALL HXX HNO HYES HR HX
        go_wp2_with fail
        go_ret
        exact ⟨by rw [HL1.out]; rfl, rfl⟩
      ·have ha2 : 12 < (x1.size : Int) := by omega
       have HL1 := Lib.hid (HNK.out (by rw [HLX.out, decide_eq_false ha, Bool.false_and]))
       clear HNK HLX HALL HXX HNO HYES HR HX
       go_wp2_with fail
       go_ret
       exact ⟨by rw [HL1.out]; rfl, rfl⟩
     ·obtain rfl : k = N := by omega
      have HT := Lib.hid (HYES.out HALL.out)
      clear HALL HNO HYES HR HX
      go_wp2_with fail
      go_round
      case rel => exact .inr ⟨rfl, HT⟩
      case measure => simp [intOf]
   ·clear HNO HYES HR HX
    go_wp2_with fail
    go_ret
    exact ⟨by rw [HT.out]; rfl, rfl⟩
 ·rw [decide_eq_false h16, Bool.false_and] at hrr
  obtain rfl := hrr
  have h16i : 12 < (N : Int) := by omega
  clear hr hx HR HX
  go_enter Tryz.func29, Tryz.ntmps29
  go_wp2_with fail
  go_loop [3] (fun iv => iv = .int .i64 0) (fun iv => 2 - (intOf iv).toNat)
  case atStart => rfl
  case round =>
   obtain rfl := hrel
   go_wp2_with fail
   go_ret
   exact ⟨rfl, rfl⟩
def DF (W : World) (v : Value) (D : List QI) : Prop := ∃ ao cap, v = .slice ao D.length cap ∧ MR W ao D.length (tZ D) ∧ GoodQ D ∧ sumD D = 0 ∧ fewB (tZ D) = true
theorem DF.below {W W' : World} {v : Value} {D : List QI} (h : DF W v D) (hb : Below W.heap.size W W') : DF W' v D := by
 obtain ⟨ao, cap, h1, h2, h3⟩ := h
 exact ⟨ao, cap, h1, h2.below hb, h3⟩
theorem DF.lt {W : World} {v : Value} {D : List QI} (h : DF W v D) : ∀ b, v.ownBlock = some b → b < W.heap.size := by
 obtain ⟨ao, cap, rfl, h2, _, h4, _⟩ := h
 intro b hb
 have h0 : D.length ≠ 0 := fun e => by
  have e2 : D = [] := List.length_eq_zero_iff.1 e
  subst e2
  revert h4
  decide +kernel
 obtain ⟨a, rfl, h5, _⟩ := h2.form h0
 obtain rfl : a.block = b := by simpa [Value.ownBlock] using hb
 exact h5
theorem DF.ch {S : Nat → Prop} {W W' : World} {v : Value} {D : List QI} (h : DF W v D) (hc : Ch S W W') (hS : ∀ b, v.ownBlock = some b → ¬ S b) : DF W' v D := by
 obtain ⟨ao, cap, rfl, h2, h3⟩ := h
 exact ⟨ao, cap, rfl, h2.ch hc (fun a ha _ => hS _ (by rw [ha]; rfl)), h3⟩
set_option maxHeartbeats 6400000 in
set_option maxRecDepth 100000 in
theorem made9_any {n g : Nat} {A : Nat → Option Addr} {N C : Nat → Nat} {L : Nat → List MI} {w : World} (hn : n ≤ 10) (hr : ∀ j, j < n → MR w (A j) (N j) (L j) ∧ N j ≤ 9223372036854775807 ∧ MX (L j)) (hg : g < w.heap.size) (hc : ∀ j, j < n → w.cell? ⟨g, j, none⟩ = some (.slice (A j) (N j) (C j))) :
  Calls Tryz.prog 41 #[.slice (some ⟨g, 0, none⟩) n n] w fun e w' => ∃ v r, e = .returned (.tuple #[v, .bool r]) ∧ (r = true → ∃ ds : List Value, ds.length = n ∧ w'.ownsRow w.heap.size 51 1 v n ds ∧ ∀ (j : Nat) (u : Value), ds[j]? = some u → ∃ D, DF w' u D) ∧ Below w.heap.size w w' := by
 obtain ⟨i0, hi, hz0, hz1, hz2⟩ := info_parts infoD
 have HR := Lib.hid (fun W (hb : Below w.heap.size w W) j (hj : j < n) => And.intro ((hr j hj).1.below hb) (And.intro (hr j hj).2 ((hb.cell (p := ⟨g, j, none⟩) hg).trans (hc j hj))))
 clear hr hc
 go_enter Tryz.func41, Tryz.ntmps41
 go_wp2_with fail
 go_loopw [4, 5] (fun dv iv wr => ∃ (k : Nat) (ds : List Value), k ≤ n ∧ iv = .int .i64 (k : Int) ∧ ds.length = k ∧ Hid (wr.ownsRow w.heap.size 51 1 dv k ds ∧ ∀ (j : Nat) (u : Value), ds[j]? = some u → (∃ D, DF wr u D) ∧ ∀ b, dv.ownBlock = some b → u.ownBlock ≠ some b) ∧ Below w.heap.size w wr) (fun _ iv _ => n - (intOf iv).toNat)
 case atStart => exact ⟨0, [], Nat.zero_le _, rfl, rfl, Lib.hid ⟨World.ownsRow_nil _ _ _ _, fun j u h => by simp at h⟩, Below.refl _ _⟩
 case round =>
  obtain ⟨k, ds, hk, rfl, hds, HRW, hb⟩ := hrel
  have HDS := Lib.hid hds
  obtain ⟨xo, xc, rfl, _⟩ := rowM_shape HRW.out.1
  clear hds
  by_cases hlt : k < n
  ·obtain ⟨hmr, ⟨hNj, hXj⟩, c0⟩ := HR.out wr hb k hlt
   have HB := Lib.hid hb
   have hb1 := (Below.refl wr.heap.size wr).alloc (Nat.le_refl _) (.cells #[.slice (A k) (N k) (C k)] 37)
   have HB1 := Lib.hid hb1
   have HLG := Lib.hid (few1_any (cap := C k) (g := wr.heap.size) (hmr.below hb1) hNj hXj (by rw [Lib.cell_of_heap (heap_alloc_new wr _)]; rfl))
   have HMR1 := Lib.hid (hmr.below hb1)
   have c1 := (HR.out _ (hb.trans (hb1.mono hb.size)) k hlt).2.2
   clear hb hb1 hmr hXj
   generalize A k = ak at *
   generalize N k = nk at *
   generalize C k = ck at *
   cases hlit : fewB (L k) with
   | false =>
    rw [hlit] at HLG
    clear hlit HR
    go_wp2_with fail
    refine HLG.out.mono ?_
    rintro e w1 ⟨rfl, rfl⟩
    clear HLG
    go_wp2_with fail
    go_ret2
    exact ⟨_, _, rfl, fun h => (by cases h), HB.out.trans (HB1.out.mono HB.out.size)⟩
   | true =>
    rw [hlit] at HLG
    have hnk : nk ≤ 1000 := by
     have := (fewB_yes hlit).1
     rw [HMR1.out.len] at this
     omega
    have HMK := Lib.hid (rMake_any (cap := ck) HMR1.out hnk (fewB_ml hlit))
    have HML := Lib.hid (fewB_ml hlit)
    have HNL := Lib.hid HMR1.out.len
    have HNE := Lib.hid (fun (h : mkE (L k) ≠ 0) => errneZ h)
    clear hlit HMR1
    go_wp2_with fail
    refine HLG.out.mono ?_
    rintro e w1 ⟨rfl, rfl⟩
    clear HLG
    by_cases hmk : mkE (L k) = 0
    ·have HM2 := Lib.hid (show Calls Tryz.prog 112 #[.slice ak nk ck] (wr.alloc (.cells #[.slice ak nk ck] 37)) fun e w' => ∃ (D : List QI) (ao : Option Addr) (cap : Nat), e = .returned (.tuple #[.slice ao D.length cap, .int .i64 0]) ∧ MR w' ao D.length (tZ D) ∧ GoodQ D ∧ sumD D = 0 ∧ MX (tZ D) ∧ D.length ≤ 1000 ∧ (∀ b, (Value.slice ao D.length cap).ownBlock = some b → wr.heap.size ≤ b) ∧ Below (wr.alloc (.cells #[.slice ak nk ck] 37)).heap.size (wr.alloc (.cells #[.slice ak nk ck] 37)) w' from HMK.out.mono (by
      rintro e w' ⟨_, h2, hb⟩
      obtain ⟨S, v, h3, h4, h5, rfl, hrow⟩ := h2 hmk
      obtain ⟨ao, cap, rfl, hmr⟩ := MR.own hrow (tZ_len _)
      have hci := ColI.run (Nat.le_refl _) h3
      have hlt := hrow.lt
      refine ⟨outQ S, ao, cap, rfl, hmr, h4, h5, fun x hx => ?_, ?_, fun b hb2 => Nat.le_trans (by simp) (hlt b hb2).1, hb⟩
      ·obtain ⟨z, hz, rfl⟩ := List.mem_map.1 hx
       obtain ⟨y, hy, e⟩ := hci.key z (List.mem_filter.1 hz).1
       have h6 := (HML.out y hy).1
       have h7 := qstr_size (h4.ok z hz)
       exact ⟨by show z.1.size ≤ _; rw [e]; omega, by show (qstr z.2).size ≤ _; omega⟩
      ·have h8 := hci.len
       have h9 : (outQ S).length ≤ S.length := List.length_filter_le _ _
       rw [HNL.out] at h8
       omega))
     clear HMK HNE hmk
     go_wp2_with fail
     refine HM2.out.mono ?_
     rintro e w1 ⟨D, ao, cap, rfl, hmr, hg1, hg2, hmx, hdl, hnb, hb⟩
     have HNB := Lib.hid hnb
     have HLT := Lib.hid (fun b (h : (Value.slice xo k xc).ownBlock = some b) => (HRW.out.1.lt b h).2)
     have HB2 := Lib.hid (HB.out.trans ((HB1.out.trans (hb.mono HB1.out.size)).mono HB.out.size))
     have hb3 := (Below.refl w1.heap.size w1).alloc (Nat.le_refl _) (.cells #[.slice ao D.length cap] 37)
     have HB3 := Lib.hid hb3
     have HL2 := Lib.hid (few1_any (cap := cap) (g := w1.heap.size) (hmr.below hb3) (by omega) hmx (by rw [Lib.cell_of_heap (heap_alloc_new w1 _)]; rfl))
     have HG := Lib.hid (And.intro (hmr.below hb3) (And.intro hg1 hg2))
     have HRW1 := Lib.hid (show (w1.alloc (.cells #[.slice ao D.length cap] 37)).ownsRow w.heap.size 51 1 (.slice xo k xc) k ds ∧ ∀ (j : Nat) (u : Value), ds[j]? = some u → (∃ D2, DF (w1.alloc (.cells #[.slice ao D.length cap] 37)) u D2) ∧ ∀ b, (Value.slice xo k xc).ownBlock = some b → u.ownBlock ≠ some b from by
      have hbb : Below wr.heap.size wr (w1.alloc (.cells #[.slice ao D.length cap] 37)) := (HB1.out.trans (hb.mono HB1.out.size)).trans (hb3.mono (Nat.le_trans HB1.out.size hb.size))
      exact ⟨rowM_below HRW.out.1 hbb, fun j u hu => by
       obtain ⟨⟨D', h⟩, h2⟩ := HRW.out.2 j u hu
       exact ⟨⟨D', h.below hbb⟩, h2⟩⟩)
     clear hmr hg1 hg2 hmx hb hb3 HM2 HRW HB HB1 hnb
     cases hld : fewB (tZ D) with
     | false =>
      rw [hld] at HL2
      clear hld HR HG HRW1
      go_wp2_with fail
      refine HL2.out.mono ?_
      rintro e w2 ⟨rfl, rfl⟩
      clear HL2
      go_wp2_with fail
      go_ret2
      exact ⟨_, _, rfl, fun h => (by cases h), HB2.out.trans (HB3.out.mono HB2.out.size)⟩
     | true =>
      rw [hld] at HL2
      have HLD := Lib.hid hld
      have HB4 := Lib.hid (HB2.out.trans (HB3.out.mono HB2.out.size))
      obtain ⟨nd, hnd⟩ : ∃ nd, nd = D.length := ⟨_, rfl⟩
      have HND := Lib.hid hnd
      rw [← hnd] at HL2 HRW1 HG HB3 HB4 HNB
      clear hld hnd HB2 HB3
      rw [← HND.out]
      go_wp2_with fail
      refine HL2.out.mono ?_
      rintro e w2 ⟨rfl, rfl⟩
      clear HL2
      generalize w1.alloc (.cells #[.slice ao nd cap] 37) = w2 at *
      go_wp2_with (at_builtin; refine wpList_append_own_at _ rfl _ _ 46 rfl w.heap.size 51 i0 (.slice none 0 0) 1 24 Tryz.underlying46 hi hz0 hz1 hz2 rfl (by decide) _ _ _ rfl (HRW1.out.1.alloc _) ⟨w2.heap.size, 0, none⟩ 1 1 [.slice ao nd cap] rfl rfl (World.news_of_block (heap_alloc_new _ _)) (fun u hu => by simp at hu; subst hu; rfl) ?c3 ?c4 ?c5 ?_)
      case c3 => unfold maxLen; omega
      case c4 => omega
      case c5 => have := HB4.out.size; simp; omega
      intro v' w6 hown' hgrow _ hob
      have hlt5 := HRW1.out.1.lt
      have hbf := (HB4.out.alloc HB4.out.size (.cells #[.slice ao nd cap] 51)).grown hgrow (by have := HB4.out.size; simp; omega) (fun q hq => (hlt5 q hq).1)
      have hal := (Below.refl w2.heap.size w2).alloc (Nat.le_refl _) (.cells #[.slice ao nd cap] 51)
      have hnew : ∀ (j : Nat) (u : Value), (ds ++ [.slice ao nd cap])[j]? = some u → (∃ D, DF w2 u D) ∧ ∀ b, (Value.slice xo k xc).ownBlock = some b → u.ownBlock ≠ some b := fun j u hu => by
       rcases Nat.lt_or_ge j ds.length with h | h
       ·rw [List.getElem?_append_left h] at hu
        exact HRW1.out.2 j u hu
       ·rw [List.getElem?_append_right h] at hu
        have hju : u = .slice ao nd cap := by
         cases hjj : j - ds.length with
         | zero => rw [hjj] at hu; exact (by simpa using hu.symm)
         | succ q => rw [hjj] at hu; simp at hu
        subst hju
        refine ⟨⟨D, ao, cap, by rw [HND.out], by rw [← HND.out]; exact HG.out.1, HG.out.2.1, HG.out.2.2, HLD.out⟩, fun b hb he => ?_⟩
        have h1 := HLT.out b hb
        have h2 := HNB.out b he
        omega
      have HF := Lib.hid (show w6.ownsRow w.heap.size 51 1 v' (k + 1) (ds ++ [.slice ao nd cap]) ∧ (∀ (j : Nat) (u : Value), (ds ++ [.slice ao nd cap])[j]? = some u → (∃ D, DF w6 u D) ∧ ∀ b, v'.ownBlock = some b → u.ownBlock ≠ some b) ∧ Below w.heap.size w w6 from
       ⟨hown', fun j u hu => by
        obtain ⟨⟨D', h1⟩, h2⟩ := hnew j u hu
        refine ⟨⟨D', DF.ch (h1.below hal) (Ch.grownZ (S := fun q => some q = (Value.slice xo k xc).ownBlock) hgrow (fun r hr => hr.symm)) (fun b hb he => h2 b he.symm hb)⟩, fun b hb he => ?_⟩
        rcases hob with ho | ho
        ·exact h2 b (by rw [← ho]; exact hb) he
        ·rw [ho] at hb
         obtain rfl : (w2.alloc (.cells #[.slice ao nd cap] 51)).heap.size = b := by simpa using hb
         have h3 := DF.lt h1 _ he
         simp at h3
         omega, hbf⟩)
      obtain ⟨ao', c', rfl, _⟩ := rowM_shape hown'
      clear hown' hgrow hlt5 hbf hal hnew hob HRW1 HG HNB HLT HB4
      go_wp2_with fail
      go_roundw
      case rel => exact ⟨k + 1, ds ++ [.slice ao nd cap], by omega, by go_num, by rw [List.length_append, HDS.out]; rfl, Lib.hid ⟨HF.out.1, HF.out.2.1⟩, HF.out.2.2⟩
      case measure => simp [intOf]; omega
    ·have hz := HNE.out hmk
     have HM2 := Lib.hid (show Calls Tryz.prog 112 #[.slice ak nk ck] (wr.alloc (.cells #[.slice ak nk ck] 37)) fun e w' => e = .returned (.tuple #[.slice none 0 0, .int .i64 ((mkE (L k) : Nat) : Int)]) ∧ Below (wr.alloc (.cells #[.slice ak nk ck] 37)).heap.size (wr.alloc (.cells #[.slice ak nk ck] 37)) w' from HMK.out.mono (fun e w' ⟨h1, _, hb⟩ => ⟨h1 hmk, hb⟩))
     generalize mkE (L k) = c at *
     clear HMK HNE hmk HR HRW HML HNL
     go_wp2_with fail
     refine HM2.out.mono ?_
     rintro e w1 ⟨rfl, hb⟩
     have HB2 := Lib.hid (HB.out.trans ((HB1.out.trans (hb.mono HB1.out.size)).mono HB.out.size))
     clear hb HM2 HB HB1
     go_wp2_with fail
     go_ret2
     exact ⟨_, _, rfl, fun h => (by cases h), HB2.out⟩
  ·obtain rfl : k = n := by omega
   have HB := Lib.hid hb
   clear hb HR
   go_wp2_with fail
   go_ret2
   exact ⟨_, _, rfl, fun _ => ⟨ds, HDS.out, HRW.out.1, fun j u hu => (HRW.out.2 j u hu).1⟩, HB.out⟩
theorem chk_df {W : World} {v : Value} {D : List QI} (h : DF W v D) : chkZ (tZ D) = 0 ∧ fewB (tZ D) = true := by
 obtain ⟨_, _, _, _, h3, h4, h5⟩ := h
 exact ⟨(chk_good h3).trans h4, h5⟩
theorem made94_any {A0 : Option Addr} {n0 c0 : Nat} {L0 : List MI} {A1 : Option Addr} {n1 c1 : Nat} {L1 : List MI} {A2 : Option Addr} {n2 c2 : Nat} {L2 : List MI} {A3 : Option Addr} {n3 c3 : Nat} {L3 : List MI} {w : World} (h0 : MR w A0 n0 L0 ∧ n0 ≤ 9223372036854775807 ∧ MX L0) (h1 : MR w A1 n1 L1 ∧ n1 ≤ 9223372036854775807 ∧ MX L1) (h2 : MR w A2 n2 L2 ∧ n2 ≤ 9223372036854775807 ∧ MX L2) (h3 : MR w A3 n3 L3 ∧ n3 ≤ 9223372036854775807 ∧ MX L3) : Calls Tryz.prog 41 #[.slice (some ⟨w.heap.size, 0, none⟩) 4 4] (w.alloc (.cells #[.slice A0 n0 c0, .slice A1 n1 c1, .slice A2 n2 c2, .slice A3 n3 c3] 37)) fun e w' => ∃ v r, e = .returned (.tuple #[v, .bool r]) ∧ (r = true → ∃ (g cl : Nat) (u0 u1 u2 u3 : Value) (D0 D1 D2 D3 : List QI), v = .slice (some ⟨g, 0, none⟩) 4 cl ∧ g < w'.heap.size ∧ w'.cell? ⟨g, 0, none⟩ = some u0 ∧ w'.cell? ⟨g, 1, none⟩ = some u1 ∧ w'.cell? ⟨g, 2, none⟩ = some u2 ∧ w'.cell? ⟨g, 3, none⟩ = some u3 ∧ DF w' u0 D0 ∧ DF w' u1 D1 ∧ DF w' u2 D2 ∧ DF w' u3 D3) ∧ Below w.heap.size w w' := by
 have hb := (Below.refl w.heap.size w).alloc (Nat.le_refl _) (.cells #[.slice A0 n0 c0, .slice A1 n1 c1, .slice A2 n2 c2, .slice A3 n3 c3] 37)
 have hc : ∀ (j : Nat) (v : Value), (#[.slice A0 n0 c0, .slice A1 n1 c1, .slice A2 n2 c2, .slice A3 n3 c3] : Array Value)[j]? = some v → (w.alloc (.cells #[.slice A0 n0 c0, .slice A1 n1 c1, .slice A2 n2 c2, .slice A3 n3 c3] 37)).cell? ⟨w.heap.size, j, none⟩ = some v := fun j v hv => by
  rw [Lib.cell_of_heap (heap_alloc_new w _)]; exact hv
 refine (made9_any (n := 4) (g := w.heap.size) (A := (fun j : Nat => if j = 0 then A0 else (if j = 1 then A1 else (if j = 2 then A2 else (A3))))) (N := (fun j : Nat => if j = 0 then n0 else (if j = 1 then n1 else (if j = 2 then n2 else (n3))))) (C := (fun j : Nat => if j = 0 then c0 else (if j = 1 then c1 else (if j = 2 then c2 else (c3))))) (L := (fun j : Nat => if j = 0 then L0 else (if j = 1 then L1 else (if j = 2 then L2 else (L3))))) (by omega) (fun j hj => ?_) (by simp) (fun j hj => ?_)).mono ?_
 ·rcases (show j = 0 ∨ j = 1 ∨ j = 2 ∨ j = 3 by omega) with rfl | rfl | rfl | rfl
  ·exact ⟨h0.1.below hb, h0.2⟩
  ·exact ⟨h1.1.below hb, h1.2⟩
  ·exact ⟨h2.1.below hb, h2.2⟩
  ·exact ⟨h3.1.below hb, h3.2⟩
 ·rcases (show j = 0 ∨ j = 1 ∨ j = 2 ∨ j = 3 by omega) with rfl | rfl | rfl | rfl
  ·exact hc 0 _ rfl
  ·exact hc 1 _ rfl
  ·exact hc 2 _ rfl
  ·exact hc 3 _ rfl
 ·rintro e w' ⟨v, r, rfl, hr, hbb⟩
  refine ⟨v, r, rfl, fun h => ?_, hb.trans (hbb.mono hb.size)⟩
  obtain ⟨ds, hl, hrow, hds⟩ := hr h
  obtain ⟨g, cl, hv, hg, hcell⟩ := ds_cells hrow (by omega)
  have hx : ∀ j, j < 4 → ∃ u D, ds[j]? = some u ∧ DF w' u D := fun j hj => by
   have h1 : ds[j]? = some (ds[j]'(by omega)) := List.getElem?_eq_getElem _
   obtain ⟨D, hD⟩ := hds j _ h1
   exact ⟨_, D, h1, hD⟩
  obtain ⟨u0, D0, e0, d0⟩ := hx 0 (by omega)
  obtain ⟨u1, D1, e1, d1⟩ := hx 1 (by omega)
  obtain ⟨u2, D2, e2, d2⟩ := hx 2 (by omega)
  obtain ⟨u3, D3, e3, d3⟩ := hx 3 (by omega)
  exact ⟨g, cl, u0, u1, u2, u3, D0, D1, D2, D3, hv, hg, hcell 0 _ e0, hcell 1 _ e1, hcell 2 _ e2, hcell 3 _ e3, d0, d1, d2, d3⟩
theorem few_lit {L : List MI} (h : fewB L = true) : litB L = true := by
 obtain ⟨h1, h2⟩ := fewB_yes h
 unfold litB
 rw [Bool.and_eq_true, decide_eq_true_iff, List.all_eq_true]
 refine ⟨by omega, fun x hx => ?_⟩
 have := h2 x hx
 unfold litX
 rw [Bool.and_eq_true, decide_eq_true_iff, decide_eq_true_iff]
 exact this
end

end Go.Proofs.YtkponlbpgmnpgaaGreatDoor
