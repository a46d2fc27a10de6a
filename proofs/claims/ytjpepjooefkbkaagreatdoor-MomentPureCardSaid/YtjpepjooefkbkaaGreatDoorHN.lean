/-
  The laws of layer 10: lives, few, factor. The laws of layer 10: made. The mathematics of moments: Bernoulli; what To makes of the moments of two distributions. The laws of layer 10: curve.
-/
import Derived.Test.YtjpepjooefkbkaaGreatDoorHM
import Derived.Test.YtjpepjooefkbkaaGreatDoorZE
import Derived.Test.YtjpepjooefkbkaaGreatDoorDB
import Derived.WalkSmall
namespace Go.Proofs.YtjpepjooefkbkaaGreatDoor
section
open Go.RowKit NV Go.Maps Go.Sort Go.Shelf
open Go.Lib (decDigits)
theorem of2_ok : OfOk 2 := ⟨by decide +kernel, by decide +kernel, by decide +kernel, by decide +kernel, by decide +kernel, by decide +kernel, by decide +kernel⟩
theorem of2_cq : CQ (ofM 2) 0 := ⟨by decide +kernel, by decide +kernel, by decide +kernel, by decide +kernel, by decide +kernel⟩
theorem to2_ok : ToOk (ofM 2) 0 3 0 := ⟨by decide +kernel, by decide +kernel, by decide +kernel, by decide +kernel, by decide +kernel, by decide +kernel, by decide +kernel, by decide +kernel⟩
set_option maxHeartbeats 6400000 in
set_option maxRecDepth 100000 in
theorem lives10_any (w : World) (htab : Tab w) (hm : ML w) : Calls Tryz.prog 4 #[] w fun e w' => e = .returned (.bool true) ∧ Below w.heap.size w w' := by
 have HTM := Lib.hid (fun W (hb : Below w.heap.size w W) => And.intro (htab.below hb) (ml_keep hm (ml_pos hm) hb))
 have q2 : qstr 2 = ⟨#[50]⟩ := by decide +kernel
 have q3 : qstr 3 = ⟨#[51]⟩ := by decide +kernel
 have d8 : qstr (toD (ofM 2) 0 3 0) = ⟨#[49, 47, 56]⟩ := by decide +kernel
 have e0 : cvQ (ofM 2) 0 0 = ⟨#[51, 47, 50]⟩ := by decide +kernel
 have e1 : cvQ (ofM 2) 0 1 = ⟨#[49, 49, 47, 52]⟩ := by decide +kernel
 have e7 : cvQ (ofM 2) 0 7 = ⟨#[48]⟩ := by decide +kernel
 have HO := Lib.hid (show ∀ W, Below w.heap.size w W → Calls Tryz.prog 10 #[.string ⟨#[50]⟩, .string ⟨#[48]⟩] W (fun e w' => e = .returned (.tuple #[.agg #[.string (cvQ (ofM 2) 0 0), .string (cvQ (ofM 2) 0 1), .string (cvQ (ofM 2) 0 2), .string (cvQ (ofM 2) 0 3), .string (cvQ (ofM 2) 0 4), .string (cvQ (ofM 2) 0 5), .string (cvQ (ofM 2) 0 6), .string (cvQ (ofM 2) 0 7)], .int .i64 0]) ∧ Below W.heap.size W w') from fun W hb => by
  have h := mOf_q of2_ok o0Q Rat.le_refl (by decide) (w := W) (fun W2 hb2 => HTM.out W2 (hb.trans (hb2.mono hb.size)))
  rw [q2, q0Z] at h
  exact h)
 have HT := Lib.hid (show ∀ W, Below w.heap.size w W → Calls Tryz.prog 15 #[.agg #[.string (cvQ (ofM 2) 0 0), .string (cvQ (ofM 2) 0 1), .string (cvQ (ofM 2) 0 2), .string (cvQ (ofM 2) 0 3), .string (cvQ (ofM 2) 0 4), .string (cvQ (ofM 2) 0 5), .string (cvQ (ofM 2) 0 6), .string (cvQ (ofM 2) 0 7)], .int .i64 2, .string ⟨#[51]⟩] W (Rl ⟨#[51]⟩ ⟨#[49, 47, 56]⟩ W) from fun W hb => by
  have h := mTo_q of2_cq to2_ok (by omega) (w := W) (fun W2 hb2 => HTM.out W2 (hb.trans (hb2.mono hb.size)))
  rw [q3, d8] at h
  exact h)
 rw [e0, e1, e7] at HO HT
 generalize cvQ (ofM 2) 0 2 = x2 at HO HT
 generalize cvQ (ofM 2) 0 3 = x3 at HO HT
 generalize cvQ (ofM 2) 0 4 = x4 at HO HT
 generalize cvQ (ofM 2) 0 5 = x5 at HO HT
 generalize cvQ (ofM 2) 0 6 = x6 at HO HT
 have heq := eql_same ⟨#[51]⟩ ⟨#[49, 47, 56]⟩
 clear htab hm HTM q2 q3 d8 e0 e1 e7
 go_enter Tryz.func4, Tryz.ntmps4
 go_wp2_with fail
 refine (HO.out _ (Below.refl _ _)).mono ?_
 rintro e w1 ⟨rfl, hb⟩
 have HB1 := Lib.hid (hb.alloc hb.size (.cells #[.string ⟨#[51, 47, 50]⟩, .string ⟨#[49, 49, 47, 52]⟩, .string x2, .string x3, .string x4, .string x5, .string x6, .string ⟨#[48]⟩] 35))
 have hcell : ∀ W, Below (w1.alloc (.cells #[.string ⟨#[51, 47, 50]⟩, .string ⟨#[49, 49, 47, 52]⟩, .string x2, .string x3, .string x4, .string x5, .string x6, .string ⟨#[48]⟩] 35)).heap.size (w1.alloc (.cells #[.string ⟨#[51, 47, 50]⟩, .string ⟨#[49, 49, 47, 52]⟩, .string x2, .string x3, .string x4, .string x5, .string x6, .string ⟨#[48]⟩] 35)) W → ∀ (j : Nat) v, (#[.string ⟨#[51, 47, 50]⟩, .string ⟨#[49, 49, 47, 52]⟩, .string x2, .string x3, .string x4, .string x5, .string x6, .string ⟨#[48]⟩] : Array Value)[j]? = some v → W.cell? ⟨w1.heap.size, j, none⟩ = some v := fun W hW j v hv => by
  rw [hW.cell (p := ⟨w1.heap.size, j, none⟩) (by simp), Lib.cell_of_heap (heap_alloc_new w1 _)]
  exact hv
 have HC := Lib.hid hcell
 clear hb HO hcell
 have c0 := HC.out _ (Below.refl _ _) 0 _ rfl
 have c1 := HC.out _ (Below.refl _ _) 1 _ rfl
 have c2 := HC.out _ (Below.refl _ _) 2 _ rfl
 have c3 := HC.out _ (Below.refl _ _) 3 _ rfl
 have c4 := HC.out _ (Below.refl _ _) 4 _ rfl
 have c5 := HC.out _ (Below.refl _ _) 5 _ rfl
 have c6 := HC.out _ (Below.refl _ _) 6 _ rfl
 have c7 := HC.out _ (Below.refl _ _) 7 _ rfl
 go_wp2_with fail
 refine (HT.out _ HB1.out).mono ?_
 rintro e w2 ⟨rfl, hb⟩
 have hb3 := (Below.refl w2.heap.size w2).alloc (Nat.le_refl _) (.cells #[.string ⟨#[51]⟩, .string ⟨#[49, 47, 56]⟩] 49)
 have HB2 := Lib.hid (HB1.out.trans ((hb.trans (hb3.mono hb.size)).mono HB1.out.size))
 have f0 := HC.out _ (hb.trans (hb3.mono hb.size)) 0 _ rfl
 have f1 := HC.out _ (hb.trans (hb3.mono hb.size)) 1 _ rfl
 have f7 := HC.out _ (hb.trans (hb3.mono hb.size)) 7 _ rfl
 clear hb hb3 HT HB1 HC c0 c1 c2 c3 c4 c5 c6 c7
 go_wp2_with fail
 go_ret
 exact ⟨rfl, HB2.out⟩
def sixX (x : MI) : Bool := decide (x.1.size ≤ 12) && decide (x.2.size ≤ 12)
def sixB (L : List MI) : Bool := decide (L.length ≤ 6) && L.all sixX
theorem sixB_yes {L : List MI} (h : sixB L = true) : L.length ≤ 6 ∧ ∀ x, x ∈ L → x.1.size ≤ 12 ∧ x.2.size ≤ 12 := by
 unfold sixB at h
 rw [Bool.and_eq_true, decide_eq_true_iff, List.all_eq_true] at h
 refine ⟨h.1, fun x hx => ?_⟩
 have h2 := h.2 x hx
 unfold sixX at h2
 rw [Bool.and_eq_true, decide_eq_true_iff, decide_eq_true_iff] at h2
 exact h2
set_option maxHeartbeats 6400000 in
set_option maxRecDepth 100000 in
theorem six1_any {L : List MI} {N cap : Nat} {ao : Option Addr} {w : World} (hr : MR w ao N L) (hN : N ≤ 9223372036854775807) (hx : MX L) :
  Calls Tryz.prog 16 #[.slice ao N cap] w fun e w' => e = .returned (.bool (sixB L)) ∧ w = w' := by
 have hlen := hr.len
 have HMR := Lib.hid hr
 have HX := Lib.hid hx
 obtain ⟨r, hrr⟩ : ∃ r, r = sixB L := ⟨_, rfl⟩
 have HNO := Lib.hid (show ∀ k x, L[k]? = some x → sixX x = false → r = false from fun k x h1 h2 => by
  rw [hrr]
  unfold sixB
  rw [Bool.and_eq_false_iff]
  right
  rw [List.all_eq_false]
  exact ⟨x, List.mem_of_getElem? h1, by rw [h2]; simp⟩)
 have HYES := Lib.hid (show (∀ k x, k < N → L[k]? = some x → sixX x = true) → r = decide (N ≤ 6) from fun h => by
  rw [hrr]
  unfold sixB
  rw [hlen, List.all_eq_true.2 fun x hx => by
   obtain ⟨k, hk, rfl⟩ := List.mem_iff_getElem.1 hx
   exact h k _ (by omega) (List.getElem?_eq_getElem hk), Bool.and_true])
 rw [← hrr]
 clear hrr hlen hr hx
 go_enter Tryz.func16, Tryz.ntmps16
 go_wp2_with fail
 go_loop [3] (fun iv => ∃ k : Nat, k ≤ N ∧ iv = .int .i64 (k : Int) ∧ Hid (∀ j x, j < k → L[j]? = some x → sixX x = true)) (fun iv => N - (intOf iv).toNat)
 case atStart => exact ⟨0, Nat.zero_le _, rfl, Lib.hid fun j x h => absurd h (Nat.not_lt_zero _)⟩
 case round =>
  obtain ⟨k, hk, rfl, HP⟩ := hrel
  by_cases hlt : k < N
  ·obtain ⟨a, x, rfl, hx, _, c0, c1⟩ := HMR.out.at hlt
   have hsz := HX.out x (List.mem_of_getElem? hx)
   have HNOx := Lib.hid (HNO.out k x hx)
   have HPx := Lib.hid (show sixX x = true → ∀ j y, j < k + 1 → L[j]? = some y → sixX y = true from fun h j y hj hy => by
    by_cases e : j < k
    ·exact HP.out j y e hy
    ·obtain rfl : j = k := by omega
     rw [hx] at hy
     obtain rfl := Option.some.inj hy
     exact h)
   obtain ⟨x1, x2⟩ := x
   obtain ⟨z1, z2⟩ := hsz
   clear HP HNO HYES hx HX HMR
   by_cases h1 : x1.size ≤ 12
   ·by_cases h2 : x2.size ≤ 12
    ·have HP2 := Lib.hid (HPx.out (by unfold sixX; rw [decide_eq_true h1, decide_eq_true h2]; rfl))
     have h1i : ¬ (12 : Int) < (x1.size : Int) := by omega
     have h2i : ¬ (12 : Int) < (x2.size : Int) := by omega
     clear HPx HNOx h1 h2
     go_wp2_with fail
     go_round
     case rel => exact ⟨k + 1, by omega, by go_num, HP2⟩
     case measure => simp [intOf]; omega
    ·have HR := Lib.hid (HNOx.out (by unfold sixX; rw [decide_eq_false h2, Bool.and_false]))
     have h1i : ¬ (12 : Int) < (x1.size : Int) := by omega
     have h2i : (12 : Int) < (x2.size : Int) := by omega
     clear HPx HNOx h1 h2
     go_wp2_with fail
     go_ret
     exact ⟨by rw [HR.out]; rfl, rfl⟩
   ·have HR := Lib.hid (HNOx.out (by unfold sixX; rw [decide_eq_false h1, Bool.false_and]))
    have h1i : (12 : Int) < (x1.size : Int) := by omega
    clear HPx HNOx h1
    go_wp2_with fail
    go_ret
    exact ⟨by rw [HR.out]; rfl, rfl⟩
  ·obtain rfl : k = N := by omega
   have HR := Lib.hid (HYES.out fun j x h1 h2 => HP.out j x h1 h2)
   clear HP HNO HYES HX HMR
   by_cases h6 : k ≤ 6
   ·have h6i : (k : Int) ≤ 6 := by omega
    go_wp2_with fail
    go_ret
    exact ⟨by rw [HR.out, decide_eq_true h6]; rfl, rfl⟩
   ·have h6i : ¬ (k : Int) ≤ 6 := by omega
    go_wp2_with fail
    go_ret
    exact ⟨by rw [HR.out, decide_eq_false h6]; rfl, rfl⟩
set_option maxHeartbeats 1600000 in
set_option maxRecDepth 100000 in
theorem fac10_any (s : ByteArray) (hs : s.size ≤ 140737488351232) (w : World) : Calls Tryz.prog 6 #[.string s] w fun e w' => e = .returned (.bool (facB s)) ∧ Below w.heap.size w w' := by
 have HS := Lib.hid (rCmpT_any ⟨#[49]⟩ s (by decide) hs w)
 unfold facB
 unfold Cm at HS
 generalize (cmpT ⟨#[49]⟩ s).1 = x at *
 generalize (cmpT ⟨#[49]⟩ s).2 = c at *
 by_cases h1 : s.size ≤ 12
 ·rw [decide_eq_true h1]
  have h1i : (s.size : Int) ≤ 12 := by omega
  by_cases h2 : c = 0
  ·subst h2
   rw [decide_eq_true rfl]
   by_cases h3 : x ≤ 0
   ·rw [decide_eq_true h3]
    clear hs
    go_enter Tryz.func6, Tryz.ntmps6
    go_wp2_with fail
    refine HS.out.mono ?_
    rintro e w1 ⟨rfl, hb⟩
    have HB := Lib.hid hb
    clear hb HS
    go_wp2_with fail
    go_ret
    exact ⟨ret_bool (by simp), HB.out⟩
   ·rw [decide_eq_false h3]
    clear hs
    go_enter Tryz.func6, Tryz.ntmps6
    go_wp2_with fail
    refine HS.out.mono ?_
    rintro e w1 ⟨rfl, hb⟩
    have HB := Lib.hid hb
    clear hb HS
    go_wp2_with fail
    go_ret
    exact ⟨ret_bool (by simp [h3]), HB.out⟩
  ·rw [decide_eq_false h2]
   have hz2 : (c == 0) = false := by rw [beq_eq_false_iff_ne]; exact h2
   clear hs h2
   go_enter Tryz.func6, Tryz.ntmps6
   go_wp2_with fail
   refine HS.out.mono ?_
   rintro e w1 ⟨rfl, hb⟩
   have HB := Lib.hid hb
   clear hb HS
   go_wp2_with fail
   go_ret
   exact ⟨rfl, HB.out⟩
 ·rw [decide_eq_false h1]
  have h1i : ¬ (s.size : Int) ≤ 12 := by omega
  clear hs
  go_enter Tryz.func6, Tryz.ntmps6
  go_wp2_with fail
  refine HS.out.mono ?_
  rintro e w1 ⟨rfl, hb⟩
  have HB := Lib.hid hb
  clear hb HS
  go_wp2_with fail
  go_ret
  exact ⟨rfl, HB.out⟩
end

section
open Go.RowKit NV Go.Maps Go.Sort Go.Shelf
open Go.Lib (decDigits)
theorem six_few {L : List MI} (h : sixB L = true) : fewB L = true := by
 obtain ⟨h1, h2⟩ := sixB_yes h
 unfold fewB
 rw [Bool.and_eq_true, decide_eq_true_iff, List.all_eq_true]
 refine ⟨by omega, fun x hx => ?_⟩
 have := h2 x hx
 unfold litX
 rw [Bool.and_eq_true, decide_eq_true_iff, decide_eq_true_iff]
 omega
def DS (W : World) (v : Value) (D : List QI) : Prop := DF W v D ∧ sixB (tZ D) = true
theorem DS.below {W W' : World} {v : Value} {D : List QI} (h : DS W v D) (hb : Below W.heap.size W W') : DS W' v D := ⟨h.1.below hb, h.2⟩
theorem DS.ch {S : Nat → Prop} {W W' : World} {v : Value} {D : List QI} (h : DS W v D) (hc : Ch S W W') (hS : ∀ b, v.ownBlock = some b → ¬ S b) : DS W' v D := ⟨h.1.ch hc hS, h.2⟩
set_option maxHeartbeats 6400000 in
set_option maxRecDepth 100000 in
theorem made10_any {n g : Nat} {A : Nat → Option Addr} {N C : Nat → Nat} {L : Nat → List MI} {w : World} (hn : n ≤ 10) (hr : ∀ j, j < n → MR w (A j) (N j) (L j) ∧ N j ≤ 9223372036854775807 ∧ MX (L j)) (hg : g < w.heap.size) (hc : ∀ j, j < n → w.cell? ⟨g, j, none⟩ = some (.slice (A j) (N j) (C j))) :
  Calls Tryz.prog 5 #[.slice (some ⟨g, 0, none⟩) n n] w fun e w' => ∃ v r, e = .returned (.tuple #[v, .bool r]) ∧ (r = true → ∃ ds : List Value, ds.length = n ∧ w'.ownsRow w.heap.size 42 1 v n ds ∧ ∀ (j : Nat) (u : Value), ds[j]? = some u → ∃ D, DS w' u D) ∧ Below w.heap.size w w' := by
 obtain ⟨i0, hi, hz0, hz1, hz2⟩ := info_parts infoD
 have HR := Lib.hid (fun W (hb : Below w.heap.size w W) j (hj : j < n) => And.intro ((hr j hj).1.below hb) (And.intro (hr j hj).2 ((hb.cell (p := ⟨g, j, none⟩) hg).trans (hc j hj))))
 clear hr hc
 go_enter Tryz.func5, Tryz.ntmps5
 go_wp2_with fail
 go_loopw [4, 5] (fun dv iv wr => ∃ (k : Nat) (ds : List Value), k ≤ n ∧ iv = .int .i64 (k : Int) ∧ ds.length = k ∧ Hid (wr.ownsRow w.heap.size 42 1 dv k ds ∧ ∀ (j : Nat) (u : Value), ds[j]? = some u → (∃ D, DS wr u D) ∧ ∀ b, dv.ownBlock = some b → u.ownBlock ≠ some b) ∧ Below w.heap.size w wr) (fun _ iv _ => n - (intOf iv).toNat)
 case atStart => exact ⟨0, [], Nat.zero_le _, rfl, rfl, Lib.hid ⟨World.ownsRow_nil _ _ _ _, fun j u h => by simp at h⟩, Below.refl _ _⟩
 case round =>
  obtain ⟨k, ds, hk, rfl, hds, HRW, hb⟩ := hrel
  have HDS := Lib.hid hds
  obtain ⟨xo, xc, rfl, _⟩ := rowM_shape HRW.out.1
  clear hds
  by_cases hlt : k < n
  ·obtain ⟨hmr, ⟨hNj, hXj⟩, c0⟩ := HR.out wr hb k hlt
   have HB := Lib.hid hb
   have hb1 := Below.refl wr.heap.size wr
   have HB1 := Lib.hid hb1
   have HLG := Lib.hid (six1_any (cap := C k) hmr hNj hXj)
   have HMR1 := Lib.hid hmr
   clear hb hb1 hmr hXj
   generalize A k = ak at *
   generalize N k = nk at *
   generalize C k = ck at *
   cases hlit : sixB (L k) with
   | false =>
    rw [hlit] at HLG
    clear hlit HR
    go_wp2_with fail
    refine HLG.out.mono ?_
    rintro e w1 ⟨rfl, rfl⟩
    clear HLG
    go_wp2_with fail
    go_ret2
    exact ⟨_, _, rfl, fun h => (by cases h), HB.out.trans (HB1.out.mono HB.out.size)⟩
   | true =>
    rw [hlit] at HLG
    have hnk : nk ≤ 1000 := by
     have := (sixB_yes hlit).1
     rw [HMR1.out.len] at this
     omega
    have HMK := Lib.hid (rMake_any (cap := ck) HMR1.out hnk (fewB_ml (six_few hlit)))
    have HML := Lib.hid (fewB_ml (six_few hlit))
    have HNL := Lib.hid HMR1.out.len
    have HNE := Lib.hid (fun (h : mkE (L k) ≠ 0) => errneZ h)
    clear hlit HMR1
    go_wp2_with fail
    refine HLG.out.mono ?_
    rintro e w1 ⟨rfl, rfl⟩
    clear HLG
    by_cases hmk : mkE (L k) = 0
    ·have HM2 := Lib.hid (show Calls Tryz.prog 17 #[.slice ak nk ck] wr fun e w' => ∃ (D : List QI) (ao : Option Addr) (cap : Nat), e = .returned (.tuple #[.slice ao D.length cap, .int .i64 0]) ∧ MR w' ao D.length (tZ D) ∧ GoodQ D ∧ sumD D = 0 ∧ MX (tZ D) ∧ D.length ≤ 1000 ∧ (∀ b, (Value.slice ao D.length cap).ownBlock = some b → wr.heap.size ≤ b) ∧ Below wr.heap.size wr w' from HMK.out.mono (by
      rintro e w' ⟨_, h2, hb⟩
      obtain ⟨S, v, h3, h4, h5, rfl, hrow⟩ := h2 hmk
      obtain ⟨ao, cap, rfl, hmr⟩ := MR.own hrow (tZ_len _)
      have hci := ColI.run (Nat.le_refl _) h3
      have hlt := hrow.lt
      refine ⟨outQ S, ao, cap, rfl, hmr, h4, h5, fun x hx => ?_, ?_, fun b hb2 => (hlt b hb2).1, hb⟩
      ·obtain ⟨z, hz, rfl⟩ := List.mem_map.1 hx
       obtain ⟨y, hy, e⟩ := hci.key z (List.mem_filter.1 hz).1
       have h6 := (HML.out y hy).1
       have h7 := qstr_size (h4.ok z hz)
       exact ⟨by show z.1.size ≤ _; rw [e]; omega, by show (qstr z.2).size ≤ _; omega⟩
      ·have h8 := hci.len
       have h9 : (outQ S).length ≤ S.length := List.length_filter_le _ _
       rw [HNL.out] at h8
       omega))
     clear HMK HNE hmk
     go_wp2_with fail
     refine HM2.out.mono ?_
     rintro e w1 ⟨D, ao, cap, rfl, hmr, hg1, hg2, hmx, hdl, hnb, hb⟩
     have HNB := Lib.hid hnb
     have HLT := Lib.hid (fun b (h : (Value.slice xo k xc).ownBlock = some b) => (HRW.out.1.lt b h).2)
     have HB2 := Lib.hid (HB.out.trans ((HB1.out.trans (hb.mono HB1.out.size)).mono HB.out.size))
     have hb3 := Below.refl w1.heap.size w1
     have HB3 := Lib.hid hb3
     have HL2 := Lib.hid (six1_any (cap := cap) (hmr.below hb3) (by omega) hmx)
     have HG := Lib.hid (And.intro (hmr.below hb3) (And.intro hg1 hg2))
     have HRW1 := Lib.hid (show w1.ownsRow w.heap.size 42 1 (.slice xo k xc) k ds ∧ ∀ (j : Nat) (u : Value), ds[j]? = some u → (∃ D2, DS w1 u D2) ∧ ∀ b, (Value.slice xo k xc).ownBlock = some b → u.ownBlock ≠ some b from by
      have hbb : Below wr.heap.size wr w1 := (HB1.out.trans (hb.mono HB1.out.size)).trans (hb3.mono (Nat.le_trans HB1.out.size hb.size))
      exact ⟨rowM_below HRW.out.1 hbb, fun j u hu => by
       obtain ⟨⟨D', h⟩, h2⟩ := HRW.out.2 j u hu
       exact ⟨⟨D', h.below hbb⟩, h2⟩⟩)
     clear hmr hg1 hg2 hmx hb hb3 HM2 HRW HB HB1 hnb
     cases hld : sixB (tZ D) with
     | false =>
      rw [hld] at HL2
      clear hld HR HG HRW1
      go_wp2_with fail
      refine HL2.out.mono ?_
      rintro e w2 ⟨rfl, rfl⟩
      clear HL2
      go_wp2_with fail
      go_ret2
      exact ⟨_, _, rfl, fun h => (by cases h), HB2.out.trans (HB3.out.mono HB2.out.size)⟩
     | true =>
      rw [hld] at HL2
      have HLD := Lib.hid hld
      have HB4 := Lib.hid (HB2.out.trans (HB3.out.mono HB2.out.size))
      obtain ⟨nd, hnd⟩ : ∃ nd, nd = D.length := ⟨_, rfl⟩
      have HND := Lib.hid hnd
      rw [← hnd] at HL2 HNB HG
      clear hld hnd HB2 HB3
      rw [← HND.out]
      go_wp2_with fail
      refine HL2.out.mono ?_
      rintro e w2 ⟨rfl, rfl⟩
      clear HL2
      go_wp2_with (at_builtin; refine wpList_append_own_at _ rfl _ _ 25 rfl w.heap.size 42 i0 (.slice none 0 0) 1 24 Tryz.underlying25 hi hz0 hz1 hz2 rfl (by decide) _ _ _ rfl (HRW1.out.1.alloc _) ⟨w1.heap.size, 0, none⟩ 1 1 [.slice ao nd cap] rfl rfl (World.news_of_block (heap_alloc_new _ _)) (fun u hu => by simp at hu; subst hu; rfl) ?c3 ?c4 ?c5 ?_)
      case c3 => unfold maxLen; omega
      case c4 => omega
      case c5 => have := HB4.out.size; simp; omega
      intro v' w6 hown' hgrow _ hob
      have hlt5 := HRW1.out.1.lt
      have hbf := (HB4.out.alloc HB4.out.size (.cells #[.slice ao nd cap] 42)).grown hgrow (by have := HB4.out.size; simp; omega) (fun q hq => (hlt5 q hq).1)
      have hal := (Below.refl w1.heap.size w1).alloc (Nat.le_refl _) (.cells #[.slice ao nd cap] 42)
      have hnew : ∀ (j : Nat) (u : Value), (ds ++ [.slice ao nd cap])[j]? = some u → (∃ D, DS w1 u D) ∧ ∀ b, (Value.slice xo k xc).ownBlock = some b → u.ownBlock ≠ some b := fun j u hu => by
       rcases Nat.lt_or_ge j ds.length with h | h
       ·rw [List.getElem?_append_left h] at hu
        exact HRW1.out.2 j u hu
       ·rw [List.getElem?_append_right h] at hu
        have hju : u = .slice ao nd cap := by
         cases hjj : j - ds.length with
         | zero => rw [hjj] at hu; exact (by simpa using hu.symm)
         | succ q => rw [hjj] at hu; simp at hu
        subst hju
        refine ⟨⟨D, ⟨ao, cap, by rw [HND.out], by rw [← HND.out]; exact HG.out.1, HG.out.2.1, HG.out.2.2, six_few HLD.out⟩, HLD.out⟩, fun b hb he => ?_⟩
        have h1 := HLT.out b hb
        have h2 := HNB.out b he
        omega
      have HF := Lib.hid (show w6.ownsRow w.heap.size 42 1 v' (k + 1) (ds ++ [.slice ao nd cap]) ∧ (∀ (j : Nat) (u : Value), (ds ++ [.slice ao nd cap])[j]? = some u → (∃ D, DS w6 u D) ∧ ∀ b, v'.ownBlock = some b → u.ownBlock ≠ some b) ∧ Below w.heap.size w w6 from
       ⟨hown', fun j u hu => by
        obtain ⟨⟨D', h1⟩, h2⟩ := hnew j u hu
        refine ⟨⟨D', DS.ch (h1.below hal) (Ch.grownZ (S := fun q => some q = (Value.slice xo k xc).ownBlock) hgrow (fun r hr => hr.symm)) (fun b hb he => h2 b he.symm hb)⟩, fun b hb he => ?_⟩
        rcases hob with ho | ho
        ·exact h2 b (by rw [← ho]; exact hb) he
        ·rw [ho] at hb
         obtain rfl : (w1.alloc (.cells #[.slice ao nd cap] 42)).heap.size = b := by simpa using hb
         have h3 := DF.lt h1.1 _ he
         simp at h3
         omega, hbf⟩)
      obtain ⟨ao', c', rfl, _⟩ := rowM_shape hown'
      clear hown' hgrow hlt5 hbf hal hnew hob HRW1 HG HNB HLT HB4
      go_wp2_with fail
      go_roundw
      case rel => exact ⟨k + 1, ds ++ [.slice ao nd cap], by omega, by go_num, by rw [List.length_append, HDS.out]; rfl, Lib.hid ⟨HF.out.1, HF.out.2.1⟩, HF.out.2.2⟩
      case measure => simp [intOf]; omega
    ·have hz := HNE.out hmk
     have HM2 := Lib.hid (show Calls Tryz.prog 17 #[.slice ak nk ck] wr fun e w' => e = .returned (.tuple #[.slice none 0 0, .int .i64 ((mkE (L k) : Nat) : Int)]) ∧ Below wr.heap.size wr w' from HMK.out.mono (fun e w' ⟨h1, _, hb⟩ => ⟨h1 hmk, hb⟩))
     generalize mkE (L k) = c at *
     clear HMK HNE hmk HR HRW HML HNL
     go_wp2_with fail
     refine HM2.out.mono ?_
     rintro e w1 ⟨rfl, hb⟩
     have HB2 := Lib.hid (HB.out.trans ((HB1.out.trans (hb.mono HB1.out.size)).mono HB.out.size))
     clear hb HM2 HB HB1
     go_wp2_with fail
     go_ret2
     exact ⟨_, _, rfl, fun h => (by cases h), HB2.out⟩
  ·obtain rfl : k = n := by omega
   have HB := Lib.hid hb
   clear hb HR
   go_wp2_with fail
   go_ret2
   exact ⟨_, _, rfl, fun _ => ⟨ds, HDS.out, HRW.out.1, fun j u hu => (HRW.out.2 j u hu).1⟩, HB.out⟩
theorem made102_any {A0 : Option Addr} {n0 c0 : Nat} {L0 : List MI} {A1 : Option Addr} {n1 c1 : Nat} {L1 : List MI} {w : World} (h0 : MR w A0 n0 L0 ∧ n0 ≤ 9223372036854775807 ∧ MX L0) (h1 : MR w A1 n1 L1 ∧ n1 ≤ 9223372036854775807 ∧ MX L1) : Calls Tryz.prog 5 #[.slice (some ⟨w.heap.size, 0, none⟩) 2 2] (w.alloc (.cells #[.slice A0 n0 c0, .slice A1 n1 c1] 22)) fun e w' => ∃ v r, e = .returned (.tuple #[v, .bool r]) ∧ (r = true → ∃ (g cl : Nat) (u0 u1 : Value) (D0 D1 : List QI), v = .slice (some ⟨g, 0, none⟩) 2 cl ∧ g < w'.heap.size ∧ w'.cell? ⟨g, 0, none⟩ = some u0 ∧ w'.cell? ⟨g, 1, none⟩ = some u1 ∧ DS w' u0 D0 ∧ DS w' u1 D1) ∧ Below w.heap.size w w' := by
 have hb := (Below.refl w.heap.size w).alloc (Nat.le_refl _) (.cells #[.slice A0 n0 c0, .slice A1 n1 c1] 22)
 have hc : ∀ (j : Nat) (v : Value), (#[.slice A0 n0 c0, .slice A1 n1 c1] : Array Value)[j]? = some v → (w.alloc (.cells #[.slice A0 n0 c0, .slice A1 n1 c1] 22)).cell? ⟨w.heap.size, j, none⟩ = some v := fun j v hv => by
  rw [Lib.cell_of_heap (heap_alloc_new w _)]; exact hv
 refine (made10_any (n := 2) (g := w.heap.size) (A := (fun j : Nat => if j = 0 then A0 else (A1))) (N := (fun j : Nat => if j = 0 then n0 else (n1))) (C := (fun j : Nat => if j = 0 then c0 else (c1))) (L := (fun j : Nat => if j = 0 then L0 else (L1))) (by omega) (fun j hj => ?_) (by simp) (fun j hj => ?_)).mono ?_
 ·rcases (show j = 0 ∨ j = 1 by omega) with rfl | rfl
  ·exact ⟨h0.1.below hb, h0.2⟩
  ·exact ⟨h1.1.below hb, h1.2⟩
 ·rcases (show j = 0 ∨ j = 1 by omega) with rfl | rfl
  ·exact hc 0 _ rfl
  ·exact hc 1 _ rfl
 ·rintro e w' ⟨v, r, rfl, hr, hbb⟩
  refine ⟨v, r, rfl, fun h => ?_, hb.trans (hbb.mono hb.size)⟩
  obtain ⟨ds, hl, hrow, hds⟩ := hr h
  obtain ⟨g, cl, hv, hg, hcell⟩ := ds_cells hrow (by omega)
  have hx : ∀ j, j < 2 → ∃ u D, ds[j]? = some u ∧ DS w' u D := fun j hj => by
   have h1 : ds[j]? = some (ds[j]'(by omega)) := List.getElem?_eq_getElem _
   obtain ⟨D, hD⟩ := hds j _ h1
   exact ⟨_, D, h1, hD⟩
  obtain ⟨u0, D0, e0, d0⟩ := hx 0 (by omega)
  obtain ⟨u1, D1, e1, d1⟩ := hx 1 (by omega)
  exact ⟨g, cl, u0, u1, D0, D1, hv, hg, hcell 0 _ e0, hcell 1 _ e1, d0, d1⟩
end

section
open Go.RowKit NV Go.Maps Go.Sort Go.Shelf
open Go.Lib (decDigits)
theorem bern {s : Rat} (h : 0 ≤ s) : ∀ n : Nat, 1 + (n : Rat) * (s - 1) ≤ s ^ n
 | 0 => by rw [Rat.pow_zero]; show 1 + ((0 : Nat) : Rat) * (s - 1) ≤ 1; rw [show ((0 : Nat) : Rat) = 0 from rfl]; grind
 | n + 1 => by
  have ih := bern h n
  have h1 := Rat.mul_nonneg h (show 0 ≤ s ^ n - (1 + (n : Rat) * (s - 1)) by grind)
  have hn : (0 : Rat) ≤ (n : Rat) := by exact_mod_cast Nat.zero_le n
  have h2 := Rat.mul_nonneg hn (show 0 ≤ (s - 1) * (s - 1) from by
   by_cases e : 1 ≤ s
   ·exact Rat.mul_nonneg (by grind) (by grind)
   ·have := Rat.mul_nonneg (show 0 ≤ 1 - s by grind) (show 0 ≤ 1 - s by grind)
    grind)
  have hc : ((n + 1 : Nat) : Rat) = (n : Rat) + 1 := by push_cast; rfl
  rw [Rat.pow_succ, hc]
  generalize s ^ n = y at *
  grind
def qpV (m : Nat) (p q : Rat) : Rat := p ^ (m + 1) * (q ^ m)⁻¹
theorem qpV_eq {p q : Rat} (hq : q ≠ 0) : ∀ m : Nat, qpV m p q = q * (p * q⁻¹) ^ (m + 1)
 | 0 => by
  unfold qpV
  rw [Rat.pow_zero, Rat.pow_succ, Rat.pow_succ, Rat.pow_zero, Rat.pow_zero]
  have h := Rat.mul_inv_cancel q hq
  rw [show (1 : Rat)⁻¹ = 1 by decide +kernel]
  generalize q⁻¹ = z at *
  grind
 | m + 1 => by
  have ih := qpV_eq (p := p) hq m
  unfold qpV at *
  rw [Rat.pow_succ q m, Rat.inv_mul_rev, Rat.pow_succ p (m + 1), Rat.pow_succ (p * q⁻¹) (m + 1)]
  generalize (q ^ m)⁻¹ = z at *
  generalize q⁻¹ = y at *
  generalize p ^ (m + 1) = x at *
  generalize (p * y) ^ (m + 1) = u at *
  grind
theorem qpV_ge {p q : Rat} (hp : 0 ≤ p) (hq : 0 < q) (m : Nat) : q + ((m + 1 : Nat) : Rat) * (p - q) ≤ qpV m p q := by
 have hq0 : q ≠ 0 := Ne.symm (Rat.ne_of_lt hq)
 rw [qpV_eq hq0]
 have hi : 0 < q⁻¹ := Rat.inv_pos.2 hq
 have h := Rat.mul_nonneg (Rat.le_of_lt hq) (show 0 ≤ (p * q⁻¹) ^ (m + 1) - (1 + ((m + 1 : Nat) : Rat) * (p * q⁻¹ - 1)) by
  have := bern (Rat.mul_nonneg hp (Rat.le_of_lt hi)) (m + 1)
  grind)
 have hc := Rat.mul_inv_cancel q hq0
 generalize (p * q⁻¹) ^ (m + 1) = y at *
 generalize ((m + 1 : Nat) : Rat) = a at *
 generalize q⁻¹ = z at *
 have e : q * (a * (p * z - 1)) = a * p * (q * z) - a * q := by grind
 have e2 : q * (y - (1 + a * (p * z - 1))) = q * y - q - q * (a * (p * z - 1)) := by grind
 rw [e2, e, hc] at h
 grind
def momQ (P Q : List MI) (m : Nat) : Rat := sm (fun i => qpV m (qZ P i) (vQ Q (kZ (getZ P i)))) P.length
theorem momF_val {m : Nat} {s x y t : Rat} (h : momF m s x y = some t) : t = s + qpV m x y := by
 unfold momF at h
 cases h1 : qpO m x y with
 | none => rw [h1] at h; cases h
 | some d =>
  rw [h1] at h
  obtain ⟨e, _⟩ := okQ_some (show okQ (s + d) = some t from h)
  unfold qpO at h1
  cases h2 : okQ (x ^ (m + 1)) with
  | none => rw [h2] at h1; cases h1
  | some a =>
   rw [h2] at h1
   have h3 : ((okQ (y ^ m)).bind fun b => okQ (a * b⁻¹)) = some d := h1
   cases h4 : okQ (y ^ m) with
   | none => rw [h4] at h3; cases h3
   | some b =>
    rw [h4] at h3
    obtain ⟨e5, _⟩ := okQ_some (show okQ (a * b⁻¹) = some d from h3)
    rw [← e, ← e5, ← (okQ_some h2).1, ← (okQ_some h4).1]
    rfl
theorem run_val {m : Nat} {P Q : List MI} : ∀ {n : Nat} {t : Rat}, runO (fun k s => momF m s (qZ P k) (vQ Q (kZ (getZ P k)))) 0 n = some t → t = sm (fun i => qpV m (qZ P i) (vQ Q (kZ (getZ P i)))) n
 | 0, t, h => (Option.some.inj h).symm
 | n + 1, t, h => by
  obtain ⟨s, hs⟩ := runO_some h n (by omega)
  rw [runO_step hs] at h
  rw [momF_val h, run_val hs]
  rfl
theorem momE_val {P Q : List MI} {m : Nat} (hm : m ≤ 7) {s : ByteArray} (h : momE P Q ((m : Int) + 1) = (s, true, 0)) : s = qstr (momQ P Q m) ∧ allZ P Q = true := by
 unfold momE at h
 by_cases h1 : bE P Q ≠ 0
 ·rw [if_pos h1] at h
  cases (Prod.mk.inj (Prod.mk.inj h).2).1
 ·rw [if_neg h1, if_neg (by omega), show ((m : Int) + 1 - 1).toNat = m by omega] at h
  unfold cmpR at h
  by_cases h2 : allZ P Q = true
  ·rw [if_pos h2] at h
   cases h3 : cmpO (momF m) P Q with
   | none => rw [h3] at h; cases (Prod.mk.inj (Prod.mk.inj h).2).1
   | some t =>
    rw [h3] at h
    unfold cmpO at h3
    refine ⟨?_, h2⟩
    have h4 := run_val h3
    rw [← (Prod.mk.inj h).1]
    show qstr t = _
    rw [h4]
    rfl
  ·rw [if_neg h2] at h
   cases (Prod.mk.inj (Prod.mk.inj h).2).1
theorem all_pos {P Q : List MI} (hq : DiL Q) (h : allZ P Q = true) {i : Nat} (hi : i < P.length) : 0 < vQ Q (kZ (getZ P i)) := by
 unfold allZ at h
 rw [List.all_eq_true] at h
 have hm : getZ P i ∈ P := by
  unfold getZ
  rw [List.getD_eq_getElem?_getD, List.getElem?_eq_getElem hi]
  exact List.getElem_mem hi
 obtain ⟨j, hj, e⟩ := has_get (h _ hm)
 rw [← e, vQ_get hq.srt hj]
 exact hq.pos j hj
theorem mom_ge1 {P Q : List MI} {m : Nat} (hp : DiL P) (hq : DiL Q) (h : allZ P Q = true) : 1 ≤ momQ P Q m := by
 have h1 : sm (fun i => vQ Q (kZ (getZ P i)) + ((m + 1 : Nat) : Rat) * (qZ P i - vQ Q (kZ (getZ P i)))) P.length ≤ momQ P Q m := sm_le fun i hi => qpV_ge (Rat.le_of_lt (hp.pos i hi)) (all_pos hq h hi) m
 have h2 : ks P (vQ Q) P.length ≤ 1 := by
  rw [← hq.kone]
  exact inject hp.srt (Nat.le_refl _) (fun k => hq.nn k) (fun k hk => vQ_out hk)
 have h3 : sm (qZ P) P.length = 1 := hp.one
 have e : sm (fun i => vQ Q (kZ (getZ P i)) + ((m + 1 : Nat) : Rat) * (qZ P i - vQ Q (kZ (getZ P i)))) P.length = ks P (vQ Q) P.length + ((m + 1 : Nat) : Rat) * (sm (qZ P) P.length - ks P (vQ Q) P.length) := by
  rw [sm_add, sm_mul]
  have e2 : sm (fun i => qZ P i - vQ Q (kZ (getZ P i))) P.length = sm (qZ P) P.length - ks P (vQ Q) P.length := by
   have h5 : sm (fun i => (qZ P i - vQ Q (kZ (getZ P i))) + vQ Q (kZ (getZ P i))) P.length = sm (fun i => qZ P i - vQ Q (kZ (getZ P i))) P.length + sm (fun i => vQ Q (kZ (getZ P i))) P.length := sm_add
   have h6 : sm (fun i => (qZ P i - vQ Q (kZ (getZ P i))) + vQ Q (kZ (getZ P i))) P.length = sm (qZ P) P.length := sm_eq fun i _ => by grind
   rw [h6] at h5
   show _ = sm (qZ P) P.length - sm (fun i => vQ Q (kZ (getZ P i))) P.length
   grind
  rw [e2]
  rfl
 rw [e, h3] at h1
 have hm0 : (0 : Rat) ≤ (m : Rat) := by exact_mod_cast Nat.zero_le m
 have hc : ((m + 1 : Nat) : Rat) = (m : Rat) + 1 := by push_cast; rfl
 rw [hc] at h1
 generalize ks P (vQ Q) P.length = y at *
 have h7 := Rat.mul_nonneg hm0 (show 0 ≤ 1 - y by grind)
 grind
theorem pow_szM {f : Rat} {c : Nat} (h : Sz c f) (hc : 1 ≤ c) : ∀ k : Nat, Sz (k * c + 1) (f ^ k)
 | 0 => by rw [Rat.pow_zero, Nat.zero_mul]; exact ⟨by decide, by decide⟩
 | k + 1 => by
  rw [Rat.pow_succ]
  exact (Sz.mul (pow_szM h hc k) h).mono (by rw [Nat.succ_mul]; omega)
theorem six_sz {P : List MI} (hp : DiL P) (h : sixB P = true) {i : Nat} (hi : i < P.length) : Sz 12 (qZ P i) := by
 refine Sz.ofA (by omega) ?_
 have hx : P[i]? = some (P[i]'hi) := List.getElem?_eq_getElem hi
 obtain ⟨e, _⟩ := hp.ok.at hx
 have h1 := ((sixB_yes h).2 _ (List.getElem_mem hi)).2
 rw [e] at h1
 exact h1
theorem mom_sz {P Q : List MI} {m : Nat} (hm : m ≤ 7) (hp : DiL P) (hq : DiL Q) (h6 : sixB P = true) (h7 : sixB Q = true) (h : allZ P Q = true) : Sz 1130 (momQ P Q m) := by
 have hl := (sixB_yes h6).1
 have h1 : ∀ i, i < P.length → Sz 186 (qpV m (qZ P i) (vQ Q (kZ (getZ P i)))) := fun i hi => by
  have a := pow_szM (six_sz hp h6 hi) (by omega) (m + 1)
  have hv : Sz 12 (vQ Q (kZ (getZ P i))) := by
   unfold allZ at h
   rw [List.all_eq_true] at h
   have hmm : getZ P i ∈ P := by
    unfold getZ
    rw [List.getD_eq_getElem?_getD, List.getElem?_eq_getElem hi]
    exact List.getElem_mem hi
   obtain ⟨j, hj, e⟩ := has_get (h _ hmm)
   rw [← e, vQ_get hq.srt hj]
   exact six_sz hq h7 hj
  have b := (pow_szM hv (by omega) m).inv
  exact (a.mul b).mono (by omega)
 have h2 : P.length * (186 + 1) + 1 ≤ 1130 := by
  have := Nat.mul_le_mul_right 187 hl
  omega
 exact (sm_sz (c := 186) h1).mono h2
def curM (P Q : List MI) (k : Nat) : Rat := mxQ (momQ P Q (k + 1)) (momQ Q P (k + 1))
theorem curM_sz {P Q : List MI} {k : Nat} (hk : k < 7) (hp : DiL P) (hq : DiL Q) (h6 : sixB P = true) (h7 : sixB Q = true) (h : allZ P Q = true) (h' : allZ Q P = true) : Sz 1130 (curM P Q k) :=
 mxQ_sz (mom_sz (by omega) hp hq h6 h7 h) (mom_sz (by omega) hq hp h7 h6 h')
theorem cur_cq {P Q : List MI} (hp : DiL P) (hq : DiL Q) (h6 : sixB P = true) (h7 : sixB Q = true) (h : allZ P Q = true) (h' : allZ Q P = true) : CQ (curM P Q) 0 :=
 ⟨fun k hk => (curM_sz hk hp hq h6 h7 h h').qok (by omega) (by omega), fun k _ => Rat.le_trans (mom_ge1 hp hq h) mxQ_ge1, o0Q, Rat.le_refl, by decide⟩
end

section
open Go.RowKit NV Go.Maps Go.Sort Go.Shelf
open Go.Lib (decDigits)
theorem mrun_ok {m : Nat} {P Q : List MI} : ∀ {n : Nat} {t : Rat}, runO (fun k s => momF m s (qZ P k) (vQ Q (kZ (getZ P k)))) 0 n = some t → QOk t
 | 0, t, h => by rw [← Option.some.inj h]; exact o0Q
 | n + 1, t, h => by
  obtain ⟨s, hs⟩ := runO_some h n (by omega)
  rw [runO_step hs] at h
  exact momF_ok h
theorem momE_ok {P Q : List MI} {m : Nat} (hm : m ≤ 7) (h : ((momE P Q ((m : Int) + 1)).2.1 && decide ((momE P Q ((m : Int) + 1)).2.2 = 0)) = true) : momE P Q ((m : Int) + 1) = (qstr (momQ P Q m), true, 0) ∧ QOk (momQ P Q m) ∧ allZ P Q = true := by
 rw [Bool.and_eq_true, decide_eq_true_iff] at h
 have h0 : momE P Q ((m : Int) + 1) = ((momE P Q ((m : Int) + 1)).1, true, 0) := by rw [← h.1, ← h.2]
 obtain ⟨e1, e2⟩ := momE_val hm h0
 refine ⟨by rw [h0, e1], ?_, e2⟩
 unfold momE at h0
 by_cases h1 : bE P Q ≠ 0
 ·rw [if_pos h1] at h0
  cases (Prod.mk.inj (Prod.mk.inj h0).2).1
 ·rw [if_neg h1, if_neg (by omega), show ((m : Int) + 1 - 1).toNat = m by omega] at h0
  unfold cmpR at h0
  rw [if_pos e2] at h0
  cases h3 : cmpO (momF m) P Q with
  | none => rw [h3] at h0; cases (Prod.mk.inj (Prod.mk.inj h0).2).1
  | some t =>
   unfold cmpO at h3
   have h4 := run_val h3
   have h5 := mrun_ok h3
   rw [h4] at h5
   exact h5
structure CurI (P Q : List MI) (w : World) (k : Nat) (c : Nat → ByteArray) (W : World) : Prop where
 arr : ARR W (w.heap.size + 1) 8 35 c
 res : ARR W w.heap.size 8 35 (fun _ => ⟨#[]⟩)
 late : c 7 = ⟨#[48]⟩
 val : ∀ j, j < k → c j = qstr (curM P Q j)
 all : k ≠ 0 → allZ P Q = true ∧ allZ Q P = true
 bel : Below w.heap.size w W
theorem CurI.keep {P Q : List MI} {w W W' : World} {k : Nat} {c : Nat → ByteArray} (h : CurI P Q w k c W) (hb : Below W.heap.size W W') : CurI P Q w k c W' :=
 ⟨h.arr.below hb, h.res.below hb, h.late, h.val, h.all, h.bel.trans (hb.mono h.bel.size)⟩
set_option maxHeartbeats 12800000 in
set_option maxRecDepth 100000 in
theorem curve_any {P Q : List MI} {N M c1 c2 : Nat} {a1 a2 : Option Addr} {w : World} (hp : MR w a1 N P) (hq : MR w a2 M Q) (hN : N ≤ 1000) (hM : M ≤ 1000) (hlp : ML2 P) (hlq : ML2 Q) :
  Calls Tryz.prog 11 #[.slice a1 N c1, .slice a2 M c2] w fun e w' => ∃ (c : Nat → ByteArray) (r : Bool), e = .returned (.tuple #[.agg #[.string (c 0), .string (c 1), .string (c 2), .string (c 3), .string (c 4), .string (c 5), .string (c 6), .string (c 7)], .bool r]) ∧ (r = true → c 7 = ⟨#[48]⟩ ∧ (∀ j, j < 7 → c j = qstr (curM P Q j)) ∧ allZ P Q = true ∧ allZ Q P = true) ∧ Below w.heap.size w w' := by
 have HM1 := Lib.hid (fun W (hb : Below w.heap.size w W) (k : Nat) => rMoment_any (c1 := c1) (c2 := c2) (n := (k : Int) + 2) (hp.below hb) (hq.below hb) hN hM hlp hlq)
 have HM2 := Lib.hid (fun W (hb : Below w.heap.size w W) (k : Nat) => rMoment_any (c1 := c2) (c2 := c1) (n := (k : Int) + 2) (hq.below hb) (hp.below hb) hM hN hlq hlp)
 have HOK := Lib.hid (show ∀ k : Nat, k < 7 → ((momE P Q ((k : Int) + 2)).2.1 && decide ((momE P Q ((k : Int) + 2)).2.2 = 0)) = true → momE P Q ((k : Int) + 2) = (qstr (momQ P Q (k + 1)), true, 0) ∧ QOk (momQ P Q (k + 1)) ∧ allZ P Q = true from fun k hk h => momE_ok (m := k + 1) (by omega) h)
 have HOK2 := Lib.hid (show ∀ k : Nat, k < 7 → ((momE Q P ((k : Int) + 2)).2.1 && decide ((momE Q P ((k : Int) + 2)).2.2 = 0)) = true → momE Q P ((k : Int) + 2) = (qstr (momQ Q P (k + 1)), true, 0) ∧ QOk (momQ Q P (k + 1)) ∧ allZ Q P = true from fun k hk h => momE_ok (m := k + 1) (by omega) h)
 obtain ⟨V1, hV1⟩ : ∃ V1, V1 = w.alloc (.cells #[.string ⟨#[]⟩, .string ⟨#[]⟩, .string ⟨#[]⟩, .string ⟨#[]⟩, .string ⟨#[]⟩, .string ⟨#[]⟩, .string ⟨#[]⟩, .string ⟨#[]⟩] 35) := ⟨_, rfl⟩
 obtain ⟨V2, hV2⟩ : ∃ V2, V2 = V1.alloc (.cells #[.string ⟨#[]⟩, .string ⟨#[]⟩, .string ⟨#[]⟩, .string ⟨#[]⟩, .string ⟨#[]⟩, .string ⟨#[]⟩, .string ⟨#[]⟩, .string ⟨#[]⟩] 35) := ⟨_, rfl⟩
 obtain ⟨V3, hV3⟩ : ∃ V3, V3 = V1.alloc (.cells #[.string ⟨#[]⟩, .string ⟨#[]⟩, .string ⟨#[]⟩, .string ⟨#[]⟩, .string ⟨#[]⟩, .string ⟨#[]⟩, .string ⟨#[]⟩, .string ⟨#[48]⟩] 35) := ⟨_, rfl⟩
 have s1 : V1.heap.size = w.heap.size + 1 := by rw [hV1]; simp
 have i1 : Below w.heap.size w V1 := by rw [hV1]; exact (Below.refl w.heap.size w).alloc (Nat.le_refl _) _
 have i2 : Below V1.heap.size V1 V2 := by rw [hV2]; exact (Below.refl _ V1).alloc (Nat.le_refl _) _
 have i3 : Below V1.heap.size V1 V3 := by rw [hV3]; exact (Below.refl _ V1).alloc (Nat.le_refl _) _
 have a1' : ARR V1 w.heap.size 8 35 (fun _ => ⟨#[]⟩) := by rw [hV1]; exact ARR.new8 (c := fun _ => ⟨#[]⟩)
 have a2' : ARR V2 (w.heap.size + 1) 8 35 (fun _ => ⟨#[]⟩) := by rw [hV2, ← s1]; exact ARR.new8 (c := fun _ => ⟨#[]⟩)
 have a3' : ARR V3 (w.heap.size + 1) 8 35 (fun j => if j = 7 then ⟨#[48]⟩ else ⟨#[]⟩) := by rw [hV3, ← s1]; exact ARR.new8 (c := fun j => if j = 7 then ⟨#[48]⟩ else ⟨#[]⟩)
 have HI := Lib.hid (show CurI P Q w 0 (fun j => if j = 7 then ⟨#[48]⟩ else ⟨#[]⟩) V3 from ⟨a3', a1'.below i3, rfl, fun j h => absurd h (Nat.not_lt_zero _), fun h => absurd rfl h, i1.trans (i3.mono i1.size)⟩)
 have e0 := a2'.cell (j := 0) (by omega)
 have e1 := a2'.cell (j := 1) (by omega)
 have e2 := a2'.cell (j := 2) (by omega)
 have e3 := a2'.cell (j := 3) (by omega)
 have e4 := a2'.cell (j := 4) (by omega)
 have e5 := a2'.cell (j := 5) (by omega)
 have e6 := a2'.cell (j := 6) (by omega)
 have e7 := a2'.cell (j := 7) (by omega)
 have z0 := a2'.free 0
 have z1 := a2'.free 1
 have z2 := a2'.free 2
 have z3 := a2'.free 3
 have z4 := a2'.free 4
 have z5 := a2'.free 5
 have z6 := a2'.free 6
 have z7 := a2'.free 7
 clear i1 i2 i3 a1' a2' a3' s1 hp hq hN hM hlp hlq
 subst hV3
 subst hV2
 subst hV1
 go_enter Tryz.func11, Tryz.ntmps11
 go_wp2_with fail
 clear e0 z0 e1 z1 e2 z2 e3 z3 e4 z4 e5 z5 e6 z6 e7 z7
 go_loopw [7] (fun iv wr => ∃ (k : Nat) (c : Nat → ByteArray), k ≤ 7 ∧ iv = .int .i64 (k : Int) ∧ Hid (CurI P Q w k c wr)) (fun iv _ => 7 - (intOf iv).toNat)
 case atStart => exact ⟨0, _, by omega, rfl, HI⟩
 case round =>
  obtain ⟨k, c, hk, rfl, HC⟩ := hrel
  clear HI
  by_cases hlt : k < 7
  ·have hki : (k : Int) < 7 := by omega
   have H1 := Lib.hid (HM1.out wr HC.out.bel k)
   have K1 := Lib.hid (HOK.out k hlt)
   have K2 := Lib.hid (HOK2.out k hlt)
   have H2 := Lib.hid (fun W hb => HM2.out W hb k)
   generalize momE P Q ((k : Int) + 2) = T1 at H1 K1
   generalize momE Q P ((k : Int) + 2) = T2 at H2 K2
   obtain ⟨x1, b1, n1⟩ := T1
   obtain ⟨x2, b2, n2⟩ := T2
   clear HM1 HM2 HOK HOK2
   go_wp2_with fail
   refine H1.out.mono ?_
   rintro e w1 ⟨rfl, hb⟩
   have HC1 := Lib.hid (HC.out.keep hb)
   clear H1 hb HC
   go_wp2_with fail
   refine (H2.out _ HC1.out.bel).mono ?_
   rintro e w2 ⟨rfl, hb⟩
   have HC2 := Lib.hid (HC1.out.keep hb)
   clear H2 hb HC1
   by_cases hall : b1 = true ∧ b2 = true ∧ n1 = 0 ∧ n2 = 0
   ·obtain ⟨rfl, rfl, rfl, rfl⟩ := hall
    obtain ⟨f1, o1, l1⟩ := K1.out rfl
    obtain ⟨f2, o2, l2⟩ := K2.out rfl
    obtain rfl : x1 = _ := (Prod.mk.inj f1).1
    obtain rfl : x2 = _ := (Prod.mk.inj f2).1
    have HM := Lib.hid (fun W => rMax_oQ (momQ P Q (k + 1)) (momQ Q P (k + 1)) o1 o2 W)
    have HL := Lib.hid (And.intro l1 l2)
    have hcu : mxQ (momQ P Q (k + 1)) (momQ Q P (k + 1)) = curM P Q k := rfl
    rw [hcu] at HM
    generalize hs : qstr (curM P Q k) = s at *
    have HS := Lib.hid hs
    generalize qstr (momQ P Q (k + 1)) = y1 at *
    generalize qstr (momQ Q P (k + 1)) = y2 at *
    clear K1 K2 f1 f2 o1 o2 l1 l2 hcu hs
    go_wp2_with fail
    refine (HM.out _).mono ?_
    rintro e w3 ⟨rfl, hb⟩
    have hA := HC2.out.arr.below hb
    have hi := hA.cell (j := k) (by omega)
    have hf := hA.free k
    have HC3 := Lib.hid (HC2.out.keep hb)
    clear hb HM hA HC2
    go_wp2_with fail
    go_roundw
    case rel =>
     have hC := HC3.out
     have st : Ch (fun j => j = w.heap.size + 1) w3 (w3.setCell ⟨w.heap.size + 1, k, none⟩ (.string s)) := Ch.setCell _ _ _ rfl
     refine ⟨k + 1, fun j => if j = k then s else c j, by omega, by go_num, Lib.hid ⟨hC.arr.store k s, hC.res.ch st (by omega), ?_, fun j hj => ?_, fun _ => HL.out, hC.bel.setCell (by show w.heap.size ≤ w.heap.size + 1; omega) _⟩⟩
     ·show (if 7 = k then s else c 7) = _
      rw [if_neg (by omega)]
      exact hC.late
     ·show (if j = k then s else c j) = _
      by_cases e : j = k
      ·rw [if_pos e, e]; exact HS.out.symm
      ·rw [if_neg e]; exact hC.val j (by omega)
    case measure => simp [intOf]; omega
   ·have hA := HC2.out.arr
    have hR := HC2.out.res
    have d0 := hA.cell (j := 0) (by omega)
    have d1 := hA.cell (j := 1) (by omega)
    have d2 := hA.cell (j := 2) (by omega)
    have d3 := hA.cell (j := 3) (by omega)
    have d4 := hA.cell (j := 4) (by omega)
    have d5 := hA.cell (j := 5) (by omega)
    have d6 := hA.cell (j := 6) (by omega)
    have d7 := hA.cell (j := 7) (by omega)
    have e0 := hR.cell (j := 0) (by omega)
    have e1 := hR.cell (j := 1) (by omega)
    have e2 := hR.cell (j := 2) (by omega)
    have e3 := hR.cell (j := 3) (by omega)
    have e4 := hR.cell (j := 4) (by omega)
    have e5 := hR.cell (j := 5) (by omega)
    have e6 := hR.cell (j := 6) (by omega)
    have e7 := hR.cell (j := 7) (by omega)
    have z0 := hR.free 0
    have z1 := hR.free 1
    have z2 := hR.free 2
    have z3 := hR.free 3
    have z4 := hR.free 4
    have z5 := hR.free 5
    have z6 := hR.free 6
    have z7 := hR.free 7
    have HX := Lib.hid (And.intro (hR.put8 c).load8 (HC2.out.bel.trans ((Ch.st8 (S := fun j => j = w.heap.size) w2 c rfl).to_below HC2.out.bel.size (fun j hj => by omega))))
    clear hA hR HC2 K1 K2
    rcases Bool.eq_false_or_eq_true b1 with rfl | rfl
    ·rcases Bool.eq_false_or_eq_true b2 with rfl | rfl
     ·by_cases h1 : n1 = 0
      ·have h2 : n2 ≠ 0 := fun e => hall ⟨rfl, rfl, h1, e⟩
       subst h1
       have h2i : (n2 : Int) ≠ 0 := by omega
       clear hall
       go_wp2_with fail
       refine bodyPost_ret (v := .tuple #[.agg #[.string (c 0), .string (c 1), .string (c 2), .string (c 3), .string (c 4), .string (c 5), .string (c 6), .string (c 7)], .bool false]) (by have h := HX.out.1; unfold st8 at h; simp [results, Tryz.results11, asAddr, h]) rfl ?_
       exact ⟨c, false, rfl, fun h => (by cases h), HX.out.2⟩
      ·have h1i : (n1 : Int) ≠ 0 := by omega
       clear hall
       go_wp2_with fail
       refine bodyPost_ret (v := .tuple #[.agg #[.string (c 0), .string (c 1), .string (c 2), .string (c 3), .string (c 4), .string (c 5), .string (c 6), .string (c 7)], .bool false]) (by have h := HX.out.1; unfold st8 at h; simp [results, Tryz.results11, asAddr, h]) rfl ?_
       exact ⟨c, false, rfl, fun h => (by cases h), HX.out.2⟩
     ·clear hall
      go_wp2_with fail
      refine bodyPost_ret (v := .tuple #[.agg #[.string (c 0), .string (c 1), .string (c 2), .string (c 3), .string (c 4), .string (c 5), .string (c 6), .string (c 7)], .bool false]) (by have h := HX.out.1; unfold st8 at h; simp [results, Tryz.results11, asAddr, h]) rfl ?_
      exact ⟨c, false, rfl, fun h => (by cases h), HX.out.2⟩
    ·clear hall
     go_wp2_with fail
     refine bodyPost_ret (v := .tuple #[.agg #[.string (c 0), .string (c 1), .string (c 2), .string (c 3), .string (c 4), .string (c 5), .string (c 6), .string (c 7)], .bool false]) (by have h := HX.out.1; unfold st8 at h; simp [results, Tryz.results11, asAddr, h]) rfl ?_
     exact ⟨c, false, rfl, fun h => (by cases h), HX.out.2⟩
  ·obtain rfl : k = 7 := by omega
   have hA := HC.out.arr
   have hR := HC.out.res
   have d0 := hA.cell (j := 0) (by omega)
   have d1 := hA.cell (j := 1) (by omega)
   have d2 := hA.cell (j := 2) (by omega)
   have d3 := hA.cell (j := 3) (by omega)
   have d4 := hA.cell (j := 4) (by omega)
   have d5 := hA.cell (j := 5) (by omega)
   have d6 := hA.cell (j := 6) (by omega)
   have d7 := hA.cell (j := 7) (by omega)
   have e0 := hR.cell (j := 0) (by omega)
   have e1 := hR.cell (j := 1) (by omega)
   have e2 := hR.cell (j := 2) (by omega)
   have e3 := hR.cell (j := 3) (by omega)
   have e4 := hR.cell (j := 4) (by omega)
   have e5 := hR.cell (j := 5) (by omega)
   have e6 := hR.cell (j := 6) (by omega)
   have e7 := hR.cell (j := 7) (by omega)
   have z0 := hR.free 0
   have z1 := hR.free 1
   have z2 := hR.free 2
   have z3 := hR.free 3
   have z4 := hR.free 4
   have z5 := hR.free 5
   have z6 := hR.free 6
   have z7 := hR.free 7
   have HV := Lib.hid (And.intro HC.out.late (And.intro HC.out.val (HC.out.all (by omega))))
   have HX := Lib.hid (And.intro (hR.put8 c).load8 (HC.out.bel.trans ((Ch.st8 (S := fun j => j = w.heap.size) wr c rfl).to_below HC.out.bel.size (fun j hj => by omega))))
   clear hA hR HC HM1 HM2 HOK HOK2
   go_wp2_with fail
   refine bodyPost_ret (v := .tuple #[.agg #[.string (c 0), .string (c 1), .string (c 2), .string (c 3), .string (c 4), .string (c 5), .string (c 6), .string (c 7)], .bool true]) (by have h := HX.out.1; unfold st8 at h; simp [results, Tryz.results11, asAddr, h]) rfl ?_
   exact ⟨c, true, rfl, fun _ => ⟨HV.out.1, HV.out.2.1, HV.out.2.2.1, HV.out.2.2.2⟩, HX.out.2⟩
end

end Go.Proofs.YtjpepjooefkbkaaGreatDoor
