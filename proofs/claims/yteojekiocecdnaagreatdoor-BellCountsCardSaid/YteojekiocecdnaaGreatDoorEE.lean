/-
  Distributions: share, add, indices, distribution. indices and distribution. Counting on a scale. pick's count, Late, Law and Exact. What the laws of layer 5 draw besides: Same of distributions, long, Pick; every draw has a result. PickScaled: mathematics; weights that are given again, multiplied.
-/
import Derived.Test.YteojekiocecdnaaGreatDoorEC
import Derived.Test.YteojekiocecdnaaGreatDoorIter
import Derived.Maps.StringElems
import Derived.Sort.OwnSorted
import Derived.Deep.QuietTactic
import Derived.BigQuiet
import Derived.Test.YteojekiocecdnaaGreatDoorT1
namespace Go.Proofs.YteojekiocecdnaaGreatDoor
open Go.RowKit NV Go.Maps Go.Sort Go.Shelf
open Go.Lib (decDigits)

/-- A share of all cases. -/
def shQ (k d : Nat) : Rat := mkQ false k d
theorem make_sh {k d : Nat} (ok : Ok k) (od : Ok d) (h0 : d ≠ 0) (w : World) (htab : Tab w) :
    Calls Tryz.prog 97 #[.string (dstr k), .string (dstr d)] w fun e w' => e = .returned (.tuple #[.string (qstr (mkQ false k d)), .int .i64 0]) ∧ Below w.heap.size w w' :=
  rq_done (r := mkQ false k d) (Make_q (m := false) ok od h0 (by simp) w htab) rfl (qok_mk ok od h0)

set_option maxHeartbeats 1600000 in
theorem pshare_any {k d : Nat} (ok : Ok k) (od : Ok d) (h0 : d ≠ 0) (w : World) (htab : Tab w) :
    Calls Tryz.prog 85 #[.string (dstr k), .string (dstr d)] w fun e w' => e = .returned (.string (qstr (mkQ false k d))) ∧ Below w.heap.size w w' := by
  have HM := Lib.hid (make_sh ok od h0 w htab)
  generalize qstr (mkQ false k d) = s at *
  generalize dstr k = s1 at *
  generalize dstr d = s2 at *
  clear ok od h0 htab
  go_enter Tryz.func85, Tryz.ntmps85
  go_wp2_with fail
  refine HM.out.mono ?_
  rintro e w1 ⟨rfl, hb⟩
  have HB := Lib.hid hb
  clear hb HM
  go_wp2_with fail
  go_ret
  exact ⟨rfl, HB.out⟩

/-- Block b is a map that holds the items L. -/
def MapI (w : World) (b n : Nat) (L : List Item) : Prop := w.ownsMap Tryz.prog 9 (plainElem (H := Unit) Tryz.prog 22) b n (mapD L)
theorem keyedS : Keyed Tryz.prog 9 := string_keyed Tryz.underlying9
theorem MapI.keep {w w' : World} {b n : Nat} {L : List Item} (h : MapI w b n L) (hb : w'.heap[b]? = w.heap[b]?) : MapI w' b n L := by
  obtain ⟨es, clock, h1, h2, h3, h4⟩ := h
  exact ⟨es, clock, hb.trans h1, h2, h3, h4⟩
theorem MapI.lt {w : World} {b n : Nat} {L : List Item} (h : MapI w b n L) : b < w.heap.size := World.ownsMap.lt h
theorem MapI.below {w w' : World} {b n : Nat} {L : List Item} (h : MapI w b n L) (hb : Below w.heap.size w w') : MapI w' b n L := h.keep (hb.block b h.lt)
theorem MapI.mono {w : World} {b n n' : Nat} {L : List Item} (h : MapI w b n L) (hn : n ≤ n') : MapI w b n' L := World.ownsMap.mono h hn

set_option maxHeartbeats 1600000 in
theorem add_no {b : Nat} {key all : ByteArray} (w : World) :
    Calls Tryz.prog 89 #[.map (some b), .string key, .string (dstr 0), .string all] w fun e w' => e = .returned (.tuple #[]) ∧ w = w' := by
  have hz := zero_isP 0
  rw [decide_eq_true rfl] at hz
  generalize dstr 0 = s at *
  go_enter Tryz.func89, Tryz.ntmps89
  go_wp2_with fail
  go_end0
  exact ⟨rfl, rfl⟩

set_option maxHeartbeats 3200000 in
theorem add_yes {b n k d : Nat} {key : ByteArray} {L : List Item} {w : World} (h : MapI w b n L) (hn : n ≤ 1000000) (hk : key.size ≤ 1000000) (hk0 : k ≠ 0) (ok : Ok k) (od : Ok d) (h0 : d ≠ 0) (htab : Tab w) :
    Calls Tryz.prog 89 #[.map (some b), .string key, .string (dstr k), .string (dstr d)] w fun e w' => e = .returned (.tuple #[]) ∧ MapI w' b (n + 1) (L ++ [(key, qstr (mkQ false k d))]) ∧ Ch (fun j => j = b) w w' := by
  have HM := Lib.hid (pshare_any ok od h0 w htab)
  have hz := zero_isP k
  rw [decide_eq_false hk0] at hz
  have HV := Lib.hid (show (qstr (mkQ false k d)).size ≤ maxLen from Nat.le_trans (qstr_size (qok_mk ok od h0)) (by unfold maxLen; omega))
  have HKY := Lib.hid (Go.WideMaps.keyOf_string_mk Tryz.underlying9 (s := key) (by unfold maxLen; omega))
  have HSN := Lib.hid (mapD_snoc (H := Unit) L (key, qstr (mkQ false k d)))
  have HO := Lib.hid h
  generalize qstr (mkQ false k d) = s at *
  generalize dstr k = s1 at *
  generalize dstr d = s2 at *
  clear ok od h0 htab h hk0 hk
  go_enter Tryz.func89, Tryz.ntmps89
  go_wp2_with fail
  refine HM.out.mono ?_
  rintro e w1 ⟨rfl, hb⟩
  have hown := HO.out.below hb
  have HB := Lib.hid hb
  have HW := Lib.hid hown
  clear hb HM HO hown
  go_wp2_with (at_mapUpdate; refine wpList_mapUpdate_own _ rfl _ _ _ 115 rfl 9 22 keyedS Tryz.underlying115 _ b n _ rfl HW.out (by unfold maxLen; omega) _ _ _ rfl rfl HKY.out _ [] (plainElem_string Tryz.underlying22 HV.out) ?_)
  intro w6 hown6 hgrow6
  have HF := Lib.hid (And.intro hown6 ((Ch.below (S := fun j => j = b) HB.out).trans (Ch.grown hgrow6 (fun r hr => by cases hr; rfl))))
  clear hown6 hgrow6
  go_wp2_with fail
  go_end0
  exact ⟨rfl, by have := HF.out.1; unfold MapI; rw [HSN.out]; exact this, HF.out.2⟩

open Go.RowKit NV Go.Maps Go.Sort Go.Shelf
open Go.Lib (decDigits)

theorem itoaP (k : Nat) (hk : k ≤ 1000000) (w : World) (htab : Tab w) : Calls Tryz.prog 150 #[.int .i64 (k : Int)] w fun e w' => e = .returned (.string (dstr k)) ∧ Below w.heap.size w w' := by
  have H := Tryz.strconv_Itoa (k : Int) (by omega) (by omega) w htab
  rw [itoa_nat] at H
  exact H.mono fun e w' ⟨h1, q, os, h2⟩ => ⟨h1, h2 ▸ Lib.below_grow w.heap.size w (Nat.le_refl _) q os⟩

set_option maxHeartbeats 3200000 in
set_option maxRecDepth 100000 in
theorem indices_any {ao : Option Addr} {N cap d : Nat} {g : Nat → Nat} {w : World} (h : PRow w ao N (fun j => dstr (g j))) (h1 : 1 ≤ N) (hN : N ≤ 64) (og : ∀ j, j < N → Ok (g j)) (od : Ok d) (d0 : d ≠ 0) (htab : Tab w) :
    Calls Tryz.prog 88 #[.slice ao N cap, .string (dstr d)] w fun e w' => e = .returned (.map (some w.heap.size)) ∧ MapI w' w.heap.size N (itemsP g d N) ∧ Below w.heap.size w w' := by
  have hmm := @run_makeMap Tryz.prog
  obtain ⟨a, rfl, hal, hcell⟩ := h.form (by omega)
  have HC := Lib.hid (And.intro hal hcell)
  have HI := Lib.hid (fun k (hk : k < N) W (hb : Below w.heap.size w W) => itoaP k (by omega) W (htab.below hb))
  have HNO := Lib.hid (fun (key : ByteArray) W => add_no (b := w.heap.size) (key := key) (all := dstr d) W)
  have HYES := Lib.hid (fun k (hk : k < N) (hg : g k ≠ 0) W (hb : Below w.heap.size w W) (hm : MapI W w.heap.size k (itemsP g d k)) => add_yes (key := dstr k) hm (by omega) (by
    have ho : Ok k := ok_two (n := 20) (by omega) (by omega)
    rw [dstr_size]; unfold Ok at ho; omega) hg (og k hk) od d0 (htab.below hb))
  have HST := Lib.hid (fun k => show itemsP g d (k + 1) = itemsP g d k ++ (if g k = 0 then [] else [(dstr k, qstr (mkQ false (g k) d))]) from rfl)
  have HM0 := Lib.hid (show MapI (w.alloc (.map #[] 0)) w.heap.size 0 (itemsP g d 0) from World.ownsMap_made _ _ _ _)
  have HB0 := Lib.hid ((Below.refl w.heap.size w).alloc (Nat.le_refl _) (.map #[] 0))
  clear h og od d0 htab hal hcell
  generalize dstr d = sd at *
  go_enter Tryz.func88, Tryz.ntmps88
  go_wp2_with fail
  go_loopw [11] (fun iv wr => ∃ k : Nat, k ≤ N ∧ iv = .int .i64 (k : Int) ∧ MapI wr w.heap.size k (itemsP g d k) ∧ Below w.heap.size w wr) (fun iv _ => N - (intOf iv).toNat)
  case atStart => exact ⟨0, Nat.zero_le _, rfl, HM0.out, HB0.out⟩
  case round =>
    obtain ⟨k, hk, rfl, hm, hb⟩ := hrel
    clear HM0 HB0
    by_cases hlt : k < N
    · have c0 : wr.cell? (a.add k) = some (.string (dstr (g k))) := (hb.cell (p := a.add k) (by rw [add_blockP]; exact HC.out.1)).trans (HC.out.2 k hlt)
      have HI1 := Lib.hid (HI.out k hlt wr hb)
      have HMM := Lib.hid (And.intro hm hb)
      clear hm hb
      have hst := HST.out k
      by_cases hg : g k = 0
      · rw [if_pos hg, List.append_nil] at hst
        rw [hg] at c0
        have HS := Lib.hid hst
        clear hst hg
        go_wp2_with fail
        refine HI1.out.mono ?_
        rintro e w1 ⟨rfl, hb1⟩
        have HMM2 := Lib.hid (And.intro (HMM.out.1.below hb1) (HMM.out.2.trans (hb1.mono HMM.out.2.size)))
        clear hb1 HI1 HMM c0
        go_wp2_with fail
        refine (HNO.out _ _).mono ?_
        rintro e w2 ⟨rfl, rfl⟩
        go_wp2_with fail
        go_roundw
        case rel => exact ⟨k + 1, by omega, by go_num, by rw [HS.out]; exact HMM2.out.1.mono (by omega), HMM2.out.2⟩
        case measure => simp [intOf]; omega
      · rw [if_neg hg] at hst
        have HS := Lib.hid hst
        have HG := Lib.hid hg
        have HY := Lib.hid (fun W hb hm => HYES.out k hlt hg W hb hm)
        clear hst hg
        go_wp2_with fail
        refine HI1.out.mono ?_
        rintro e w1 ⟨rfl, hb1⟩
        have HMM2 := Lib.hid (And.intro (HMM.out.1.below hb1) (HMM.out.2.trans (hb1.mono HMM.out.2.size)))
        have HY2 := Lib.hid (HY.out w1 HMM2.out.2 HMM2.out.1)
        clear hb1 HI1 HMM c0 HY
        go_wp2_with fail
        refine HY2.out.mono ?_
        rintro e w2 ⟨rfl, hm2, hc2⟩
        have HF := Lib.hid (And.intro hm2 (HMM2.out.2.trans (hc2.to_below HMM2.out.2.size (fun j hj => by omega))))
        clear hm2 hc2 HY2
        go_wp2_with fail
        go_roundw
        case rel => exact ⟨k + 1, by omega, by go_num, by rw [HS.out]; exact HF.out.1, HF.out.2⟩
        case measure => simp [intOf]; omega
    · obtain rfl : k = N := by omega
      have HMM := Lib.hid (And.intro hm hb)
      clear hm hb
      go_wp2_with fail
      go_ret
      exact ⟨rfl, HMM.out.1, HMM.out.2⟩

/-- Items as cells. -/
def cellsI (l : List Item) : List Value := l.flatMap (fun m => [.string m.1, .string m.2])
theorem cellsI_app (l m : List Item) : cellsI (l ++ m) = cellsI l ++ cellsI m := by unfold cellsI; rw [List.flatMap_append]
theorem cellsI_get : ∀ (l : List Item) (k : Nat) (m : Item), l[k]? = some m → (cellsI l)[k * 2]? = some (.string m.1) ∧ (cellsI l)[k * 2 + 1]? = some (.string m.2)
  | [], k, m, h => by simp at h
  | a :: l, 0, m, h => by
    have e : cellsI (a :: l) = [.string a.1, .string a.2] ++ cellsI l := by unfold cellsI; rw [List.flatMap_cons]
    obtain rfl : a = m := by simpa using h
    rw [e]; exact ⟨rfl, rfl⟩
  | a :: l, k + 1, m, h => by
    have e : cellsI (a :: l) = [.string a.1, .string a.2] ++ cellsI l := by unfold cellsI; rw [List.flatMap_cons]
    have h2 := cellsI_get l k m (by simpa using h)
    rw [e, Nat.succ_mul]
    exact h2
theorem infoMassP : (Tryz.prog.info? 38).map (fun i => (i.zero, i.size, i.bytes)) = some (some (.agg #[.string ⟨#[]⟩, .string ⟨#[]⟩]), 2, 32) := by kernel_rfl
theorem row_belowP {w w' : World} {base n sz : Nat} {v : Value} {xs : List Value} {e : TypeId} (h : w.ownsRow base e sz v n xs) (hb : Below w.heap.size w w') : w'.ownsRow base e sz v n xs :=
  h.kept (row := none) ⟨hb.os, hb.tape, hb.output, hb.size, fun k hk _ => hb.block k hk⟩ (Classical.em _)
theorem row_baseP {w : World} {base base' n sz : Nat} {v : Value} {xs : List Value} {e : TypeId} (h : w.ownsRow base e sz v n xs) (hb : base' ≤ base) : w.ownsRow base' e sz v n xs := by
  refine ⟨h.1, ?_⟩
  rcases h.2 with hn | ⟨g, cap, cur, hv, hg, rest⟩
  · exact .inl hn
  · exact .inr ⟨g, cap, cur, hv, Nat.le_trans hb hg, rest⟩
theorem row_shape {w : World} {base n sz : Nat} {v : Value} {xs : List Value} {e : TypeId} (h : w.ownsRow base e sz v n xs) : ∃ ao c, v = .slice ao n c ∧ (n ≠ 0 → ∃ g, ao = some ⟨g, 0, none⟩ ∧ base ≤ g ∧ g < w.heap.size) := by
  rcases h.2 with ⟨hv, h0⟩ | ⟨g, cap, cur, hv, hg, hh, _⟩
  · exact ⟨_, _, by rw [h0]; exact hv, fun h => absurd h0 h⟩
  · exact ⟨_, _, hv, fun _ => ⟨g, rfl, hg, (Array.getElem?_eq_some_iff.1 hh).1⟩⟩

theorem zeroNum (w : World) : (zeroValue 22).run Tryz.prog w = .ok (.string ⟨#[]⟩) w := by kernel_rfl
/-- What a look-up finds. -/
theorem look_item {w : World} {b n : Nat} {L : List Item} {x : Item} (h : MapI w b n L) (hn : (L.map keyI).Nodup) (hx : x ∈ L) (hk : x.1.size ≤ maxLen) :
    (Instr.lookup 115 (.map (some b)) (.string x.1) false).run Tryz.prog w = .ok (.string x.2) w := by
  obtain ⟨v, ps, hrun, hv⟩ := World.ownsMap.lookup h keyedS Tryz.underlying115 (zeroNum w) (plainElem_string Tryz.underlying22 (s := ⟨#[]⟩) (by unfold maxLen; decide)) (Go.WideMaps.keyOf_string_mk Tryz.underlying9 hk)
  obtain ⟨s, rfl, hs, _⟩ := Go.plainElem_string_inv Tryz.underlying22 hv
  have hat := mapD_at (H := Unit) (z := .lit (.string (⟨#[]⟩ : ByteArray).data.toList)) hn hx
  simp only [Prod.mk.injEq] at hs
  have h3 := hat.symm.trans hs.1
  have h4 : x.2.data.toList = s.data.toList := by simpa using h3
  rw [ba_extP h4]; exact hrun

set_option maxHeartbeats 6400000 in
set_option maxRecDepth 100000 in
theorem distribution_any {b n : Nat} {L : List Item} {w : World} (h : MapI w b n L) (hL : (L.map keyI).Nodup) (hlen : L.length ≤ 1000) (hks : ∀ x, x ∈ L → x.1.size ≤ 1000000) :
    Calls Tryz.prog 90 #[.map (some b)] w fun e w' => ∃ v, e = .returned v ∧ w'.ownsRow w.heap.size 38 2 v L.length (cellsI (sortI L)) ∧ Below w.heap.size w w' := by
  obtain ⟨i0, hi, hz0, hz1, hz2⟩ := info_parts infoMassP
  have hsz : Maps.size (mapD L : DataW Unit) = L.length := mapD_size hL
  have HK := Lib.hid (callsIn_wide.1 (Tryz.maps_Keys_152 (some b) w))
  have HS := Lib.hid (callsIn_wide.1 (Tryz.slices_Sorted_keys_151_152 (H := Unit) b n (mapD L) _ w h (by rw [hsz]; unfold maxLen; omega) (by rw [hsz]; omega)))
  have HLK := Lib.hid (fun W (hb : Below w.heap.size w W) x (hx : x ∈ L) => look_item (h.below hb) hL hx (Nat.le_trans (hks x hx) (by unfold maxLen; omega)))
  have HPM := Lib.hid (fun x (hx : x ∈ sortI L) => (sortI_perm L).mem_iff.1 hx)
  have HKS := Lib.hid (fun (ss : List (List UInt8)) (hp : ss.Perm (strKeys (mapD L : DataW Unit))) => And.intro (keys_sorted (hp.trans (mapD_keys hL))) ((hp.trans (mapD_keys hL)).length_eq))
  have HSL := Lib.hid (sortI_len L)
  have HB := Lib.hid ((Below.refl w.heap.size w).alloc (Nat.le_refl _) (.cells #[.map (some b)] 115))
  clear h hL hks hsz
  go_enter Tryz.func90, Tryz.ntmps90
  go_wp2_with fail
  refine HK.out.mono ?_
  rintro e w1 ⟨rfl, rfl⟩
  clear HK
  go_wp2_with fail
  refine HS.out.mono ?_
  rintro e w2 ⟨v, ss, rfl, hp, hrow, _, hb⟩
  obtain ⟨hk1, hk2⟩ := HKS.out ss hp
  rw [hk1] at hrow
  rw [List.length_map] at hk2
  rw [hk2] at hrow
  have HB2 := Lib.hid (HB.out.trans (hb.mono HB.out.size))
  obtain ⟨ao, cc, rfl, hform⟩ := row_shape hrow
  have HROW := Lib.hid (And.intro hrow hform)
  clear hp hk1 hk2 hb hrow hform HS HKS HB
  obtain ⟨N, hN⟩ : ∃ N, L.length = N := ⟨_, rfl⟩
  rw [hN] at hlen HSL HROW ⊢
  have HN := Lib.hid hN
  clear hN
  go_wp2_with fail
  go_loopw [3, 10] (fun dv iv wr => ∃ k : Nat, k ≤ N ∧ iv = .int .i64 (k : Int) ∧ wr.ownsRow w2.heap.size 38 2 dv k (cellsI ((sortI L).take k)) ∧ Below w2.heap.size w2 wr) (fun _ iv _ => N - (intOf iv).toNat)
  case atStart => exact ⟨0, Nat.zero_le _, rfl, World.ownsRow_nil _ _ _ _, Below.refl _ _⟩
  case round =>
    obtain ⟨k, hk, rfl, hr, hb⟩ := hrel
    by_cases hlt : k < N
    · obtain ⟨g, rfl, _, hglt⟩ := HROW.out.2 (by omega)
      obtain ⟨x, hx⟩ : ∃ x, (sortI L)[k]? = some x := ⟨(sortI L)[k]'(by rw [HSL.out]; exact hlt), List.getElem?_eq_getElem _⟩
      have hkey : encStr (keyI x) = .string x.1 := by unfold encStr; rw [ba_extP (a := ⟨(keyI x).toArray⟩) (b := x.1) (by simp)]
      have c0 : wr.cell? ⟨g, k, none⟩ = some (.string x.1) := by
        have := HROW.out.1.cells (g := g) rfl k (.string x.1) (by rw [List.getElem?_map, List.getElem?_map, hx]; show some (encStr (keyI x)) = _; rw [hkey])
        rw [Addr.add_lit, Nat.zero_add] at this
        exact (hb.cell (p := ⟨g, k, none⟩) hglt).trans this
      have hlk := HLK.out wr (HB2.out.trans (hb.mono HB2.out.size)) x (HPM.out x (List.mem_of_getElem? hx))
      have HTK := Lib.hid (show cellsI ((sortI L).take (k + 1)) = cellsI ((sortI L).take k) ++ [.string x.1, .string x.2] by rw [List.take_add_one, hx, cellsI_app]; rfl)
      obtain ⟨xo, xc, rfl, _⟩ := row_shape hr
      have HRW := Lib.hid (And.intro hr hb)
      obtain ⟨x, y⟩ := x
      clear hr hb hx hkey hglt
      go_wp2_with (at_builtin; refine wpList_append_own _ rfl _ _ 33 rfl w2.heap.size 38 i0 (.agg #[.string ⟨#[]⟩, .string ⟨#[]⟩]) 2 32 Tryz.underlying33 hi hz0 hz1 hz2 rfl (by decide) _ _ _ rfl (HRW.out.1.alloc _) ⟨wr.heap.size, 0, none⟩ 1 1 [.string x, .string y] rfl rfl (World.news_of_block (heap_alloc_new _ _)) (fun u hu => by simp at hu; rcases hu with rfl | rfl <;> rfl) ?c3 ?c4 ?c5 ?_)
      case c3 => unfold maxLen; omega
      case c4 => omega
      case c5 => have := HRW.out.2.size; simp; omega
      intro v' w6 hown' hgrow _
      have hlt5 := HRW.out.1.lt
      have HF := Lib.hid (And.intro hown' ((HRW.out.2.alloc HRW.out.2.size _).grown hgrow (by have := HRW.out.2.size; simp; omega) (fun q hq => (hlt5 q hq).1)))
      obtain ⟨ao', c', rfl, _⟩ := row_shape hown'
      clear hown' hgrow hlt5 HRW c0 hlk
      go_wp2_with fail
      go_roundw
      case rel => exact ⟨k + 1, by omega, by go_num, by rw [HTK.out]; exact HF.out.1, HF.out.2⟩
      case measure => simp [intOf]; omega
    · obtain rfl : k = N := by omega
      have HR := Lib.hid (And.intro hr hb)
      have HTA := Lib.hid (show (sortI L).take k = sortI L from List.take_of_length_le (by rw [HSL.out]; exact Nat.le_refl _))
      clear hr hb
      go_wp2_with fail
      go_ret
      exact ⟨_, rfl, by rw [HTA.out] at HR; rw [HN.out]; exact row_baseP HR.out.1 HB2.out.size, HB2.out.trans (HR.out.2.mono HB2.out.size)⟩

open Go.RowKit NV
open Go.Lib (decDigits)

abbrev taO (v : Value) (x y : ByteArray) : Obj := .cells #[v, .string x, .string y] 108
/-- Block b is a tally. -/
def TB (w : World) (b : Nat) (v : Value) (x y : ByteArray) : Prop := w.heap[b]? = some (.cells #[v, .string x, .string y] 108 (0, 0))
theorem TB.lt {w : World} {b : Nat} {v : Value} {x y : ByteArray} (h : TB w b v x y) : b < w.heap.size := (Array.getElem?_eq_some_iff.1 h).1
theorem TB.below {w w1 : World} {b : Nat} {v : Value} {x y : ByteArray} (h : TB w b v x y) (hb : Below w.heap.size w w1) : TB w1 b v x y := (hb.block b h.lt).trans h
theorem TB.new (w : World) (v : Value) (x y : ByteArray) : TB (w.alloc (taO v x y)) w.heap.size v x y := heap_alloc_new w _
theorem TB.c {w : World} {b : Nat} {v : Value} {x y : ByteArray} (h : TB w b v x y) : w.cell? ⟨b, 0, none⟩ = some v ∧ w.cell? ⟨b, 1, none⟩ = some (.string x) ∧ w.cell? ⟨b, 2, none⟩ = some (.string y) :=
  ⟨by rw [Lib.cell_of_heap h]; rfl, by rw [Lib.cell_of_heap h]; rfl, by rw [Lib.cell_of_heap h]; rfl⟩
theorem TB.f {w : World} {b : Nat} {v : Value} {x y : ByteArray} (h : TB w b v x y) (j : Nat) : w.frozen? ⟨b, j, none⟩ = false := Lib.frozen_of_heap h j
theorem TB.s0 {w : World} {b : Nat} {v : Value} {x y : ByteArray} (h : TB w b v x y) (u : Value) : TB (w.setCell ⟨b, 0, none⟩ u) b u x y := heap_setCell_same w b 0 _ _ _ h
theorem TB.s1 {w : World} {b : Nat} {v : Value} {x y : ByteArray} (h : TB w b v x y) (u : ByteArray) : TB (w.setCell ⟨b, 1, none⟩ (.string u)) b v u y := heap_setCell_same w b 1 _ _ _ h
theorem TB.s2 {w : World} {b : Nat} {v : Value} {x y : ByteArray} (h : TB w b v x y) (u : ByteArray) : TB (w.setCell ⟨b, 2, none⟩ (.string u)) b v x u := heap_setCell_same w b 2 _ _ _ h
theorem TB.other {w : World} {b c j : Nat} {u v : Value} {x y : ByteArray} (h : TB w b v x y) (hne : b ≠ c) : TB (w.setCell ⟨c, j, none⟩ u) b v x y := (heap_setCell_other w ⟨c, j, none⟩ b u hne).trans h
theorem info_TB : (Tryz.prog.info? 108).map (·.size) = some 3 := by kernel_rfl
theorem TB.load {w : World} {b : Nat} {v : Value} {x y : ByteArray} (h : TB w b v x y) : (loadVar 108 ⟨b, 0, none⟩).run Tryz.prog w = .ok (.agg #[v, .string x, .string y]) w :=
  run_loadVar_row _ _ 108 108 _ (0, 0) _ h Tryz.underlying108 rfl info_TB
def st3T (w : World) (b : Nat) (v : Value) (x y : ByteArray) : World := ((w.setCell ⟨b, 0, none⟩ v).setCell ⟨b, 1, none⟩ (.string x)).setCell ⟨b, 2, none⟩ (.string y)
theorem TB.st {w : World} {b : Nat} {v : Value} {x y : ByteArray} (h : TB w b v x y) (v' : Value) (x' y' : ByteArray) : TB (st3T w b v' x' y') b v' x' y' := ((h.s0 v').s1 x').s2 y'
theorem below_st3T {B : Nat} {w w' : World} (h : Below B w w') {b : Nat} (hb : B ≤ b) (v : Value) (x y : ByteArray) : Below B w (st3T w' b v x y) :=
  ((h.setCell (p := ⟨b, 0, none⟩) hb _).setCell (p := ⟨b, 1, none⟩) hb _).setCell (p := ⟨b, 2, none⟩) hb _
theorem TB.result1 {w : World} {b : Nat} {v : Value} {x y : ByteArray} {tmps : Array Value} {fn : Func} (h : TB w b v x y) (hf : fn.results = #[.cell 4 108]) (ht : tmps.getD 4 undef = .pointer (some ⟨b, 0, none⟩)) : (results fn tmps).run Tryz.prog w = .ok (.agg #[v, .string x, .string y]) w := by
  have hl := h.load
  have ht' : tmps[4]?.getD undef = .pointer (some ⟨b, 0, none⟩) := by rw [← ht]; simp
  simp [results, hf, ht', asAddr, hl]
theorem TB.result2 {w : World} {b : Nat} {v u : Value} {x y : ByteArray} {tmps : Array Value} {fn : Func} (h : TB w b v x y) (hf : fn.results = #[.cell 4 108, .tmp 5]) (ht : tmps.getD 4 undef = .pointer (some ⟨b, 0, none⟩)) (hx : tmps.getD 5 undef = u) : (results fn tmps).run Tryz.prog w = .ok (.tuple #[.agg #[v, .string x, .string y], u]) w := by
  have hl := h.load
  have ht' : tmps[4]?.getD undef = .pointer (some ⟨b, 0, none⟩) := by rw [← ht]; simp
  have hx' : tmps[5]?.getD undef = u := by rw [← hx]; simp
  simp [results, hf, ht', hx', asAddr, hl]
theorem tally_ne : 108 ≠ 22 := by decide
/-- A row of numbers does not lie in a tally. -/
theorem TB.row_ne {w : World} {b base n : Nat} {v r : Value} {x y : ByteArray} {xs : List Value} (h : TB w b v x y) (hr : w.ownsRow base 22 1 r n xs) : r.ownBlock ≠ some b := by
  rcases hr.2 with ⟨rfl, _⟩ | ⟨g, cap, cur, rfl, _, hg, _⟩
  · simp [Value.ownBlock]
  · intro e
    simp only [Value.ownBlock, Option.some.injEq] at e
    subst e
    rw [h] at hg
    simp only [Option.some.injEq, Obj.cells.injEq] at hg
    exact tally_ne hg.2.1
theorem row_set {w : World} {b j base n : Nat} {v r u : Value} {x y : ByteArray} {xs : List Value} (h : TB w b v x y) (hr : w.ownsRow base 22 1 r n xs) : (w.setCell ⟨b, j, none⟩ u).ownsRow base 22 1 r n xs := by
  refine ⟨hr.1, ?_⟩
  have hne := h.row_ne hr
  rcases hr.2 with h0 | ⟨g, cap, cur, rfl, hb, hg, rest⟩
  · exact .inl h0
  · exact .inr ⟨g, cap, cur, rfl, hb, (heap_setCell_other w ⟨b, j, none⟩ g u (fun e => hne (by rw [e]; rfl))).trans hg, rest⟩
theorem row_st3 {w : World} {b base n : Nat} {v r v' : Value} {x y x' y' : ByteArray} {xs : List Value} (h : TB w b v x y) (hr : w.ownsRow base 22 1 r n xs) : (st3T w b v' x' y').ownsRow base 22 1 r n xs :=
  row_set ((h.s0 v').s1 x') (row_set (h.s0 v') (row_set h hr))
theorem TB.grown {w w' : World} {b base n : Nat} {v r : Value} {x y : ByteArray} {xs : List Value} {tmp : Obj} (h : TB w b v x y) (hr : w.ownsRow base 22 1 r n xs) (hg : (w.alloc tmp).grownBy w' r.ownBlock) : TB w' b v x y :=
  (hg.block b (by have := h.lt; simp; omega) (fun e => h.row_ne hr e.symm)).trans ((Below.heap_alloc _ _ _ h.lt).trans h)
theorem scale_ne : 95 ≠ 22 := by decide
theorem SCB.row_ne {w : World} {b m g base n : Nat} {r : Value} {cb : Array Value} {xs : List Value} (h : SCB w b m g cb) (hr : w.ownsRow base 22 1 r n xs) : r.ownBlock ≠ some b := by
  rcases hr.2 with ⟨rfl, _⟩ | ⟨g, cap, cur, rfl, _, hg, _⟩
  · simp [Value.ownBlock]
  · intro e
    simp only [Value.ownBlock, Option.some.injEq] at e
    subst e
    rw [h] at hg
    simp only [Option.some.injEq, Obj.cells.injEq] at hg
    exact scale_ne hg.2.1
theorem SCB.grown {w w' : World} {b m g base n : Nat} {r : Value} {cb : Array Value} {xs : List Value} {tmp : Obj} (h : SCB w b m g cb) (hr : w.ownsRow base 22 1 r n xs) (hg : (w.alloc tmp).grownBy w' r.ownBlock) : SCB w' b m g cb :=
  (hg.block b (by have := h.lt; simp; omega) (fun e => h.row_ne hr e.symm)).trans ((Below.heap_alloc _ _ _ h.lt).trans h)
theorem SCB.other {w : World} {b c j m g : Nat} {v : Value} {cb : Array Value} (h : SCB w b m g cb) (hne : b ≠ c) : SCB (w.setCell ⟨c, j, none⟩ v) b m g cb := (heap_setCell_other w ⟨c, j, none⟩ b v hne).trans h
/-- Counts as cells. -/
def ccells (c : Nat → Nat) (n : Nat) : List Value := (List.range n).map (fun i => Value.string (dstr (c i)))
theorem ccells_next (c : Nat → Nat) (n : Nat) : ccells c (n + 1) = ccells c n ++ [.string (dstr (c n))] := by unfold ccells; rw [List.range_succ, List.map_append]; rfl
theorem ccells_get {c : Nat → Nat} {n i : Nat} (h : i < n) : (ccells c n)[i]? = some (.string (dstr (c i))) := by unfold ccells; simp [h]
theorem fst_zero {f : Nat → Nat} {m n : Nat} (hs : ScF f m) : fstP f m n 0 = 0 := by unfold fstP; rw [hs.zero, Nat.zero_mul]; unfold upD; simp

set_option maxHeartbeats 12800000 in
set_option maxRecDepth 100000 in
theorem scount_any {m g n : Nat} {cb : Array Value} {f : Nat → Nat} {w : World} (h : ScAt w g cb f m) (hs : ScF f m) (hbig : Ok (f m * 2 ^ 256 + 1)) (hm : m ≤ 64) (hn : n ≤ 256) (htab : Tab w) :
    Calls Tryz.prog 149 #[scV m g cb, .int .i64 (n : Int)] w fun e w' => ∃ v, e = .returned (.agg #[v, .string (dstr (lateP f m n)), .string (dstr (2 ^ n))]) ∧ w'.ownsRow w.heap.size 22 1 v m (ccells (cntP f m n) m) ∧ Below w.heap.size w w' := by
  obtain ⟨i0, hi, hz0, hz1, hz2⟩ := info_parts infoNum
  have ob := big_pow hbig hn
  have okT := big_self hbig
  have ok2 : Ok (2 ^ n) := ok_two (n := n) (by omega) (Nat.le_refl _)
  have hpT := hs.pos
  have HP := Lib.hid (fun W (hb : Below w.heap.size w W) => ppower_n n hn W (htab.below hb))
  have HT := Lib.hid (fun W (hb : Below w.heap.size w W) => total_any (h.below hb))
  have HG := Lib.hid (fun (k : Nat) (hk : k < m) W (hb : Below w.heap.size w W) => (by
    have h1 := h.tells W hb (k + 1) (by omega)
    rw [show ((k + 1 : Nat) : Int) = (k : Int) + 1 by omega] at h1
    exact h1 : Calls Tryz.prog g (#[.int .i64 ((k : Int) + 1)] ++ cb) W fun e w' => e = .returned (.string (dstr (f (k + 1)))) ∧ Below W.heap.size W w'))
  have hle : ∀ k, k < m → f (k + 1) * 2 ^ n ≤ f m * 2 ^ n := fun k hk => Nat.mul_le_mul_right _ (hs.mono _ _ hk (Nat.le_refl _))
  have hdl : ∀ k, k < m → f (k + 1) * 2 ^ n / f m ≤ 2 ^ n := fun k hk => by
    have := Nat.div_le_div_right (c := f m) (hle k hk)
    rwa [Nat.mul_comm (f m), Nat.mul_div_cancel _ hpT] at this
  have h2b : 2 ^ n ≤ f m * 2 ^ n := Nat.le_mul_of_pos_left _ hpT
  have HR := Lib.hid (fun (k : Nat) (hk : k < m) W (hb : Below w.heap.size w W) => rounded_any (a := f (k + 1)) (b := 2 ^ n) (c := f m) (okT.mono (hs.mono _ _ hk (Nat.le_refl _))) ok2 okT (ob.mono (by have := hle k hk; omega)) (by omega) (ob.mono (by have := hdl k hk; omega)) W (htab.below hb))
  have hfok : ∀ k, k ≤ m → Ok (fstP f m n k) := fun k hk => ok2.mono ((upD_le hpT).2 (by rw [Nat.mul_comm (2 ^ n)]; exact Nat.mul_le_mul_right _ (hs.mono _ _ hk (Nat.le_refl _))))
  have heok : ∀ k, k < m → Ok (endP f m n k) := fun k hk => ok2.mono (hdl k hk)
  have HC := Lib.hid (fun (k : Nat) (hk : k < m) W => Cmp_ok (fstP f m n k) (endP f m n k) (hfok k (by omega)) (heok k hk) W)
  have HS1 := Lib.hid (fun (k : Nat) (hk : k < m) (hlt : fstP f m n k < endP f m n k) W (hb : Below w.heap.size w W) => Sub_ok (endP f m n k) (fstP f m n k) (heok k hk) (hfok k (by omega)) (by omega) W (htab.below hb))
  have HS2 := Lib.hid (fun (k : Nat) (hk : k < m) W (hb : Below w.heap.size w W) => (by
    have h1 := sum_all hs (n := n) (i := k + 1) hk
    have h2 : sumP f m n (k + 1) = sumP f m n k + cntP f m n k := rfl
    have h3 := Sub_ok (2 ^ n - sumP f m n k) (cntP f m n k) (ok2.mono (Nat.sub_le _ _)) (ok2.mono (cnt_le hs hk)) (by omega) W (htab.below hb)
    rw [show 2 ^ n - sumP f m n k - cntP f m n k = 2 ^ n - sumP f m n (k + 1) by omega] at h3
    exact h3 : Calls Tryz.prog 129 #[.string (dstr (2 ^ n - sumP f m n k)), .string (dstr (cntP f m n k))] W fun e w' => e = .returned (.tuple #[.string (dstr (2 ^ n - sumP f m n (k + 1))), .int .i64 0]) ∧ Below W.heap.size W w'))
  have HCL := Lib.hid (fun (k : Nat) => cmp_ltP (fstP f m n k) (endP f m n k))
  have HF0 := Lib.hid (show (⟨#[48]⟩ : ByteArray) = dstr (fstP f m n 0) by rw [fst_zero hs]; exact zero_str)
  have HL0 := Lib.hid (show dstr (2 ^ n - sumP f m n 0) = dstr (2 ^ n) from rfl)
  have HLL := Lib.hid (show dstr (2 ^ n - sumP f m n m) = dstr (lateP f m n) from rfl)
  have HCN := Lib.hid (fun (k : Nat) => show cntP f m n k = endP f m n k - fstP f m n k from rfl)
  have HRE := Lib.hid (fun (k : Nat) => show dstr (f (k + 1) * 2 ^ n / f m) = dstr (endP f m n k) from rfl)
  have HRF := Lib.hid (fun (k : Nat) => show dstr (upD (f (k + 1) * 2 ^ n) (f m)) = dstr (fstP f m n (k + 1)) from rfl)
  have eg := h.enters
  clear h hs hbig ob okT hpT hle hdl h2b hfok heok hn htab ok2
  obtain ⟨TF, hTF⟩ : ∃ TF : Nat → ByteArray, ∀ k, TF k = dstr (fstP f m n k) := ⟨_, fun _ => rfl⟩
  obtain ⟨TE, hTE⟩ : ∃ TE : Nat → ByteArray, ∀ k, TE k = dstr (endP f m n k) := ⟨_, fun _ => rfl⟩
  obtain ⟨TL, hTL⟩ : ∃ TL : Nat → ByteArray, ∀ k, TL k = dstr (2 ^ n - sumP f m n k) := ⟨_, fun _ => rfl⟩
  simp only [HRE.out, HRF.out] at HR
  simp only [← hTF, ← hTE, ← hTL] at HR HC HS1 HS2 HF0 HL0 HLL
  clear HRE HRF hTF hTE hTL
  generalize dstr (lateP f m n) = sL at *
  generalize dstr (2 ^ n) = sA at *
  generalize dstr (f m) = sT at *
  obtain ⟨w1, hw1⟩ : ∃ w1, (w.alloc (scO m g cb)).alloc (taO (.slice none 0 0) ⟨#[]⟩ ⟨#[]⟩) = w1 := ⟨_, rfl⟩
  have hb1 : Below w.heap.size w w1 := by rw [← hw1]; exact ((Below.refl w.heap.size w).alloc (Nat.le_refl _) _).alloc (by simp) _
  have hsc : SCB w1 w.heap.size m g cb := by rw [← hw1]; exact (SCB.new w m g cb).below ((Below.refl _ _).alloc (Nat.le_refl _) _)
  have hrs : TB w1 (w.heap.size + 1) (.slice none 0 0) ⟨#[]⟩ ⟨#[]⟩ := by
    rw [← hw1]; have := TB.new (w.alloc (scO m g cb)) (.slice none 0 0) ⟨#[]⟩ ⟨#[]⟩; rwa [World.size_alloc] at this
  have HB := Lib.hid hb1
  have HSC := Lib.hid hsc
  have HRS := Lib.hid hrs
  clear hb1 hsc hrs
  go_enter Tryz.func149, Tryz.ntmps149
  go_wp2_with fail
  clear hw1
  refine (HP.out _ HB.out).mono ?_
  rintro e w2 ⟨rfl, hb⟩
  have hb3 := hb.alloc hb.size (taO (.slice none 0 0) sA sA)
  have htb := TB.new w2 (.slice none 0 0) sA sA
  have hrlt := (HRS.out.below hb).lt
  replace HB := Lib.hid (HB.out.trans (hb3.mono HB.out.size))
  replace HSC := Lib.hid (HSC.out.below hb3)
  replace HRS := Lib.hid (HRS.out.below hb3)
  clear hb hb3 HP
  obtain ⟨w3, hw3⟩ : ∃ w3, w2.alloc (taO (.slice none 0 0) sA sA) = w3 := ⟨_, rfl⟩
  obtain ⟨t, ht⟩ : ∃ t, w2.heap.size = t := ⟨_, rfl⟩
  rw [hw3] at HB HSC HRS htb
  rw [ht] at htb hrlt
  obtain ⟨c0, c1⟩ := HSC.out.c
  have HTB := Lib.hid (And.intro htb hrlt)
  clear htb hrlt
  go_wp2_with fail
  clear hw3 ht c0 c1
  go_loopw [6, 19] (fun s6 s19 wr => ∃ k : Nat, k ≤ m ∧ s19 = .int .i64 (k : Int) ∧ s6 = .string (TF k) ∧ (∃ v, TB wr t v (TL k) sA ∧ wr.ownsRow w.heap.size 22 1 v k (ccells (cntP f m n) k)) ∧ Below w.heap.size w wr ∧ SCB wr w.heap.size m g cb ∧ TB wr (w.heap.size + 1) (.slice none 0 0) ⟨#[]⟩ ⟨#[]⟩) (fun _ s19 _ => m - (intOf s19).toNat)
  case atStart => exact ⟨0, Nat.zero_le _, rfl, by rw [HF0.out], ⟨_, by rw [HL0.out]; exact HTB.out.1, World.ownsRow_nil _ _ _ _⟩, HB.out, HSC.out, HRS.out⟩
  case round =>
    obtain ⟨k, hk, rfl, rfl, ⟨v, htb, hrow⟩, hb, hsc, hrs⟩ := hrel
    have HTL := Lib.hid HTB.out.2
    obtain ⟨vo, vc, rfl, _⟩ := row_shape hrow
    clear HF0 HL0 HTB HB HSC HRS
    by_cases hlt : k < m
    · have HL := Lib.hid (And.intro htb (And.intro hrow (And.intro hb (And.intro hsc hrs))))
      have HG1 := Lib.hid (HG.out k hlt)
      have HR1 := Lib.hid (HR.out k hlt)
      have HC1 := Lib.hid (HC.out k hlt)
      have HS11 := Lib.hid (HS1.out k hlt)
      have HS21 := Lib.hid (HS2.out k hlt)
      obtain ⟨p, hp⟩ : ∃ p : World → Prop, p = fun W => Below wr.heap.size wr W := ⟨_, rfl⟩
      have hmk : ∀ W, Below wr.heap.size wr W → p W := fun W hW => by rw [hp]; exact hW
      have hpp : ∀ W, p W → Below wr.heap.size wr W := fun W hW => by rw [hp] at hW; exact hW
      have hpb : ∀ x : Wp p, Below wr.heap.size wr x.val := fun x => hpp _ x.holds
      have hx0 : ∀ x : Wp p, x.val.cell? ⟨w.heap.size, 0, none⟩ = some (.int .i64 (m : Int)) := fun x => (hsc.below (hpb x)).c.1
      have hx1 : ∀ x : Wp p, x.val.cell? ⟨w.heap.size, 1, none⟩ = some (.func (.func g) #[] cb) := fun x => (hsc.below (hpb x)).c.2
      have hx2 : ∀ x : Wp p, x.val.cell? ⟨t, 2, none⟩ = some (.string sA) := fun x => (htb.below (hpb x)).c.2.2
      have HG2 := Lib.hid (fun (x : Wp p) => (HG1.out x.val (hb.trans ((hpb x).mono hb.size))).mono (R' := fun e w' => e = .returned (.string (dstr (f (k + 1)))) ∧ ∃ y : Wp p, w' = y.val) (fun e w' ⟨h1, h2⟩ => ⟨h1, ⟨w', hmk _ ((hpb x).trans (h2.mono (hpb x).size))⟩, rfl⟩))
      have HT2 := Lib.hid (fun (x : Wp p) => (HT.out x.val (hb.trans ((hpb x).mono hb.size))).mono (R' := fun e w' => e = .returned (.string sT) ∧ ∃ y : Wp p, w' = y.val) (fun e w' ⟨h1, h2⟩ => ⟨h1, ⟨w', hmk _ ((hpb x).trans (h2.mono (hpb x).size))⟩, rfl⟩))
      have HR2 := Lib.hid (fun (x : Wp p) => (HR1.out x.val (hb.trans ((hpb x).mono hb.size))).mono (R' := fun e w' => e = .returned (.tuple #[.string (TE k), .string (TF (k + 1))]) ∧ ∃ y : Wp p, w' = y.val) (fun e w' ⟨h1, h2⟩ => ⟨h1, ⟨w', hmk _ ((hpb x).trans (h2.mono (hpb x).size))⟩, rfl⟩))
      have HPB := Lib.hid hpb
      have hne : Nonempty (Wp p) := ⟨⟨wr, hmk _ (Below.refl _ _)⟩⟩
      have HD := Lib.hid (hmk wr.drew (Below.refl _ wr).drew)
      have c0 := hsc.c.1
      generalize dstr (f (k + 1)) = sF at *
      have hkm : (k : Int) ≤ 64 := by omega
      clear htb hrow hb hsc hrs hp hmk hpp hpb HG HR HC HS1 HS2 HG1 HR1
      go_wp2_with fail
      refine wp_region_quiet (C := fun W => ∃ x : Wp p, W = x.val) (by kernel_rfl) (by kernel_rfl) ⟨⟨wr.drew, HD.out⟩, rfl⟩ ?_
      change wpQuiet _ _ _ _ (_ :: _) _
      repeat (go_big_quiet_step (first
        | (go_at_fn g; exact HG2.out _)
        | (go_at_call 91; exact HT2.out _)
        | (go_at_call 196; exact HR2.out _)))
      refine wpQuiet_nil ?_
      rintro w4 ⟨x4, rfl⟩
      have hb4 := HPB.out x4
      generalize x4.val = w4 at hb4 ⊢
      have HL4 := Lib.hid (And.intro (HL.out.1.below hb4) (And.intro (row_belowP HL.out.2.1 hb4) (And.intro (HL.out.2.2.1.trans (hb4.mono HL.out.2.2.1.size)) (And.intro (HL.out.2.2.2.1.below hb4) (HL.out.2.2.2.2.below hb4)))))
      clear hb4 hx0 hx1 hx2 hne HL HPB HD HG2 HT2 HR2 c0
      go_wp2_with fail
      refine (HC1.out w4).mono ?_
      rintro e w5 ⟨rfl, hb5⟩
      have HL5 := Lib.hid (And.intro (HL4.out.1.below hb5) (And.intro (row_belowP HL4.out.2.1 hb5) (And.intro (HL4.out.2.2.1.trans (hb5.mono HL4.out.2.2.1.size)) (And.intro (HL4.out.2.2.2.1.below hb5) (HL4.out.2.2.2.2.below hb5)))))
      have hcl := HCL.out k
      have HCN1 := Lib.hid (HCN.out k)
      have HCC := Lib.hid (ccells_next (cntP f m n) k)
      generalize cmpN (fstP f m n k) (endP f m n k) = c at *
      clear hb5 HL4 HC1
      by_cases hfe : fstP f m n k < endP f m n k
      · rw [decide_eq_true hfe] at hcl
        have HS12 := Lib.hid (HS11.out hfe w5 HL5.out.2.2.1)
        rw [← HCN1.out] at HS12
        generalize dstr (cntP f m n k) = sC at *
        clear hfe HS11 HCN1
        go_wp2_with fail
        refine HS12.out.mono ?_
        rintro e w6 ⟨rfl, hb6⟩
        have HL6 := Lib.hid (And.intro (HL5.out.1.below hb6) (And.intro (row_belowP HL5.out.2.1 hb6) (And.intro (HL5.out.2.2.1.trans (hb6.mono HL5.out.2.2.1.size)) (And.intro (HL5.out.2.2.2.1.below hb6) (HL5.out.2.2.2.2.below hb6)))))
        clear hb6 HL5 HS12 hcl
        obtain ⟨k0, k1, k2⟩ := HL6.out.1.c
        go_wp2_with (at_builtin; refine wpList_append_own _ rfl _ _ 40 rfl w.heap.size 22 i0 (.string ⟨#[]⟩) 1 16 Tryz.underlying40 hi hz0 hz1 hz2 rfl (by decide) _ _ _ rfl (HL6.out.2.1.alloc _) ⟨w6.heap.size, 0, none⟩ 1 1 [.string sC] rfl rfl (World.news_of_block (heap_alloc_new _ _)) (fun u hu => by simp at hu; subst hu; rfl) ?c3 ?c4 ?c5 ?_)
        case c3 => unfold maxLen; omega
        case c4 => omega
        case c5 => have := HL6.out.2.2.1.size; simp; omega
        intro v' w7 hown' hgrow _
        obtain ⟨ao', c', rfl, _⟩ := row_shape hown'
        have htb7 := HL6.out.1.grown HL6.out.2.1 hgrow
        have hb7 := (HL6.out.2.2.1.alloc HL6.out.2.2.1.size _).grown hgrow (by have := HL6.out.2.2.1.size; simp; omega) (fun q hq => (HL6.out.2.1.lt q hq).1)
        have hsc7 := HL6.out.2.2.2.1.grown HL6.out.2.1 hgrow
        have hrs7 := HL6.out.2.2.2.2.grown HL6.out.2.1 hgrow
        obtain ⟨l0, l1, l2⟩ := htb7.c
        have g0 := htb7.f 0
        have htb8 := htb7.s0 (.slice ao' (k + 1) c')
        obtain ⟨m0, m1, m2⟩ := htb8.c
        have hb8 := hb7.setCell (p := ⟨t, 0, none⟩) (by have := HTL.out; show w.heap.size ≤ t; omega) (.slice ao' (k + 1) c')
        have HL8 := Lib.hid (And.intro htb8 (And.intro (row_set (j := 0) (u := .slice ao' (k + 1) c') htb7 hown') (And.intro hb8 (And.intro (hsc7.other (c := t) (j := 0) (v := .slice ao' (k + 1) c') (by have := HTL.out; omega)) (hrs7.other (c := t) (j := 0) (u := .slice ao' (k + 1) c') (by have := HTL.out; omega))))))
        have HS8 := Lib.hid (HS21.out _ hb8)
        clear hown' hgrow htb7 hb7 hsc7 hrs7 htb8 hb8 HL6 HS21 k0 k1 k2
        go_wp2_with fail
        refine HS8.out.mono ?_
        rintro e w9 ⟨rfl, hb9⟩
        have HL9 := Lib.hid (And.intro (HL8.out.1.below hb9) (And.intro (row_belowP HL8.out.2.1 hb9) (And.intro (HL8.out.2.2.1.trans (hb9.mono HL8.out.2.2.1.size)) (And.intro (HL8.out.2.2.2.1.below hb9) (HL8.out.2.2.2.2.below hb9)))))
        obtain ⟨n0, n1, n2⟩ := HL9.out.1.c
        have g1 := HL9.out.1.f 1
        clear hb9 HL8 HS8 l0 l1 l2 g0 m0 m1 m2
        go_wp2_with fail
        go_roundw
        case rel => exact ⟨k + 1, by omega, by go_num, rfl, ⟨_, HL9.out.1.s1 (TL (k + 1)), by rw [HCC.out]; exact row_set HL9.out.1 HL9.out.2.1⟩, HL9.out.2.2.1.setCell (p := ⟨t, 1, none⟩) (by have := HTL.out; show w.heap.size ≤ t; omega) _, HL9.out.2.2.2.1.other (by have := HTL.out; omega), HL9.out.2.2.2.2.other (by have := HTL.out; omega)⟩
        case measure => simp [intOf]; omega
      · rw [decide_eq_false hfe] at hcl
        have hc0 : cntP f m n k = 0 := by rw [HCN1.out]; omega
        have hs0 : dstr (cntP f m n k) = ⟨#[48]⟩ := by rw [hc0]; exact zero_str.symm
        rw [hs0] at HS21 HCC
        clear hfe HS11 HCN1 hc0 hs0
        obtain ⟨k0, k1, k2⟩ := HL5.out.1.c
        go_wp2_with (at_builtin; refine wpList_append_own _ rfl _ _ 40 rfl w.heap.size 22 i0 (.string ⟨#[]⟩) 1 16 Tryz.underlying40 hi hz0 hz1 hz2 rfl (by decide) _ _ _ rfl (HL5.out.2.1.alloc _) ⟨w5.heap.size, 0, none⟩ 1 1 [.string ⟨#[48]⟩] rfl rfl (World.news_of_block (heap_alloc_new _ _)) (fun u hu => by simp at hu; subst hu; rfl) ?c3 ?c4 ?c5 ?_)
        case c3 => unfold maxLen; omega
        case c4 => omega
        case c5 => have := HL5.out.2.2.1.size; simp; omega
        intro v' w7 hown' hgrow _
        obtain ⟨ao', c', rfl, _⟩ := row_shape hown'
        have htb7 := HL5.out.1.grown HL5.out.2.1 hgrow
        have hb7 := (HL5.out.2.2.1.alloc HL5.out.2.2.1.size _).grown hgrow (by have := HL5.out.2.2.1.size; simp; omega) (fun q hq => (HL5.out.2.1.lt q hq).1)
        have hsc7 := HL5.out.2.2.2.1.grown HL5.out.2.1 hgrow
        have hrs7 := HL5.out.2.2.2.2.grown HL5.out.2.1 hgrow
        obtain ⟨l0, l1, l2⟩ := htb7.c
        have g0 := htb7.f 0
        have htb8 := htb7.s0 (.slice ao' (k + 1) c')
        obtain ⟨m0, m1, m2⟩ := htb8.c
        have hb8 := hb7.setCell (p := ⟨t, 0, none⟩) (by have := HTL.out; show w.heap.size ≤ t; omega) (.slice ao' (k + 1) c')
        have HL8 := Lib.hid (And.intro htb8 (And.intro (row_set (j := 0) (u := .slice ao' (k + 1) c') htb7 hown') (And.intro hb8 (And.intro (hsc7.other (c := t) (j := 0) (v := .slice ao' (k + 1) c') (by have := HTL.out; omega)) (hrs7.other (c := t) (j := 0) (u := .slice ao' (k + 1) c') (by have := HTL.out; omega))))))
        have HS8 := Lib.hid (HS21.out _ hb8)
        clear hown' hgrow htb7 hb7 hsc7 hrs7 htb8 hb8 HL5 HS21 k0 k1 k2
        go_wp2_with fail
        refine HS8.out.mono ?_
        rintro e w9 ⟨rfl, hb9⟩
        have HL9 := Lib.hid (And.intro (HL8.out.1.below hb9) (And.intro (row_belowP HL8.out.2.1 hb9) (And.intro (HL8.out.2.2.1.trans (hb9.mono HL8.out.2.2.1.size)) (And.intro (HL8.out.2.2.2.1.below hb9) (HL8.out.2.2.2.2.below hb9)))))
        obtain ⟨n0, n1, n2⟩ := HL9.out.1.c
        have g1 := HL9.out.1.f 1
        clear hb9 HL8 HS8 l0 l1 l2 g0 m0 m1 m2
        go_wp2_with fail
        go_roundw
        case rel => exact ⟨k + 1, by omega, by go_num, rfl, ⟨_, HL9.out.1.s1 (TL (k + 1)), by rw [HCC.out]; exact row_set HL9.out.1 HL9.out.2.1⟩, HL9.out.2.2.1.setCell (p := ⟨t, 1, none⟩) (by have := HTL.out; show w.heap.size ≤ t; omega) _, HL9.out.2.2.2.1.other (by have := HTL.out; omega), HL9.out.2.2.2.2.other (by have := HTL.out; omega)⟩
        case measure => simp [intOf]; omega
    · obtain rfl : k = m := by omega
      obtain ⟨c0, c1, c2⟩ := htb.c
      obtain ⟨d0, d1, d2⟩ := hrs.c
      have f0 := hrs.f 0
      have f1 := hrs.f 1
      have f2 := hrs.f 2
      have HL := Lib.hid (And.intro htb (And.intro hrow (And.intro hb hrs)))
      clear htb hrow hb hsc hrs
      rw [HLL.out] at c1
      go_wp2_with fail
      exact bodyPost_ret ((HL.out.2.2.2.st (.slice vo k vc) sL sA).result1 rfl rfl) rfl ⟨_, rfl, row_st3 HL.out.2.2.2 HL.out.2.1, below_st3T HL.out.2.2.1 (by omega) _ _ _⟩

open Go.RowKit NV
open Go.Lib (decDigits)

theorem row_prow {w : World} {base N : Nat} {ao : Option Addr} {cap : Nat} {c : Nat → Nat} (h : w.ownsRow base 22 1 (.slice ao N cap) N (ccells c N)) : PRow w ao N (fun j => dstr (c j)) := by
  by_cases h0 : N = 0
  · exact .inl h0
  · obtain ⟨ao', c', he, hf⟩ := row_shape h
    cases he
    obtain ⟨g, rfl, _, hlt⟩ := hf h0
    exact .inr ⟨_, rfl, hlt, fun j hj => h.cells (g := g) rfl j _ (ccells_get hj)⟩
abbrev taZ : Value := .agg #[.slice none 0 0, .string ⟨#[]⟩, .string ⟨#[]⟩]
abbrev taN : Obj := taO (.slice none 0 0) ⟨#[]⟩ ⟨#[]⟩

/-- What makes count refuse. -/
def cntE (f : Nat → ByteArray) (N : Nat) (n : Int) : Nat := if pickE f N ≠ 0 then pickE f N else if n < 0 ∨ 256 < n then 2 else 0

set_option maxHeartbeats 3200000 in
set_option maxRecDepth 100000 in
theorem pcount_err {ao : Option Addr} {N cap : Nat} {f : Nat → ByteArray} {n : Int} {w : World} (h : PRow w ao N f) (hs : ∀ j, j < N → (f j).size ≤ 140737488351232) (he : cntE f N n ≠ 0) :
    Calls Tryz.prog 84 #[.slice ao N cap, .int .i64 n] w fun e w' => e = .returned (.tuple #[taZ, .int .i64 ((cntE f N n : Nat) : Int)]) ∧ Below w.heap.size w w' := by
  have hck := fun W (hb : Below w.heap.size w W) => wcheck_any (cap := cap) (h.below hb) hs
  have HB := Lib.hid ((Below.refl w.heap.size w).alloc (Nat.le_refl _) taN)
  have HT := Lib.hid (TB.new w (.slice none 0 0) ⟨#[]⟩ ⟨#[]⟩)
  unfold cntE at he ⊢
  by_cases hp : pickE f N = 0
  · rw [if_neg (by omega)] at he ⊢
    rw [hp] at hck
    have hn : n < 0 ∨ 256 < n := by
      rcases Classical.em (n < 0 ∨ 256 < n) with h' | h'
      · exact h'
      · rw [if_neg h'] at he; exact absurd rfl he
    rw [if_pos hn]
    have HC := Lib.hid hck
    clear h hs he hp hck
    go_enter Tryz.func84, Tryz.ntmps84
    by_cases h1 : n < 0
    · clear hn
      go_wp2_with fail
      refine (HC.out _ HB.out).mono ?_
      rintro e w1 ⟨rfl, rfl⟩
      obtain ⟨g0, g1, g2⟩ := HT.out.c
      have f0 := HT.out.f 0
      have f1 := HT.out.f 1
      have f2 := HT.out.f 2
      clear HC
      go_wp2_with fail
      exact bodyPost_ret (HT.out.result2 rfl rfl rfl) rfl ⟨rfl, HB.out⟩
    · have h2 : 256 < n := by omega
      clear hn
      go_wp2_with fail
      refine (HC.out _ HB.out).mono ?_
      rintro e w1 ⟨rfl, rfl⟩
      obtain ⟨g0, g1, g2⟩ := HT.out.c
      have f0 := HT.out.f 0
      have f1 := HT.out.f 1
      have f2 := HT.out.f 2
      clear HC
      go_wp2_with fail
      exact bodyPost_ret (HT.out.result2 rfl rfl rfl) rfl ⟨rfl, HB.out⟩
  · rw [if_pos hp]
    have HC := Lib.hid hck
    have hne := errneP hp
    generalize pickE f N = c at *
    clear h hs he hp hck
    go_enter Tryz.func84, Tryz.ntmps84
    go_wp2_with fail
    refine (HC.out _ HB.out).mono ?_
    rintro e w1 ⟨rfl, rfl⟩
    obtain ⟨g0, g1, g2⟩ := HT.out.c
    have f0 := HT.out.f 0
    have f1 := HT.out.f 1
    have f2 := HT.out.f 2
    clear HC
    go_wp2_with fail
    exact bodyPost_ret (HT.out.result2 rfl rfl rfl) rfl ⟨rfl, HB.out⟩

theorem WOk.size {f : Nat → ByteArray} {N : Nat} (hw : WOk f N) : ∀ j, j < N → (f j).size ≤ 140737488351232 := fun j hj => by rw [hw.text j hj]; have := hw.short j hj; omega
/-- weighted of right weights. -/
theorem weighted_w {ao : Option Addr} {N cap : Nat} {f : Nat → ByteArray} {w : World} (h : PRow w ao N f) (hw : WOk f N) (htab : Tab w) :
    Calls Tryz.prog 70 #[.slice ao N cap] w fun e w' => ∃ bB, e = .returned (scV N 135 #[.pointer (some ⟨bB, 0, none⟩)]) ∧ ScAt w' 135 #[.pointer (some ⟨bB, 0, none⟩)] (wsum (wN f)) N ∧ Below w.heap.size w w' := by
  have h1 := hw.one
  obtain ⟨a, rfl, hal, hcell⟩ := h.form (by omega)
  exact weighted_any (cap := cap) hal (fun j hj => by rw [← hw.text j hj]; exact hcell j hj) hw.most hw.ok (big_self hw.big) htab

set_option maxHeartbeats 3200000 in
set_option maxRecDepth 100000 in
theorem pcount_ok {ao : Option Addr} {N cap n : Nat} {f : Nat → ByteArray} {w : World} (h : PRow w ao N f) (hw : WOk f N) (hn : n ≤ 256) (htab : Tab w) :
    Calls Tryz.prog 84 #[.slice ao N cap, .int .i64 (n : Int)] w fun e w' => ∃ v, e = .returned (.tuple #[.agg #[v, .string (dstr (lateP (wsum (wN f)) N n)), .string (dstr (2 ^ n))], .int .i64 0]) ∧ w'.ownsRow w.heap.size 22 1 v N (ccells (cntP (wsum (wN f)) N n) N) ∧ Below w.heap.size w w' := by
  have hck := fun W (hb : Below w.heap.size w W) => wcheck_any (cap := cap) (h.below hb) hw.size
  rw [pickE_of hw] at hck
  have HC := Lib.hid hck
  have HW := Lib.hid (fun W (hb : Below w.heap.size w W) => weighted_w (cap := cap) (h.below hb) hw (htab.below hb))
  have HS := Lib.hid (fun W (hb : Below w.heap.size w W) bB (hsc : ScAt W 135 #[.pointer (some ⟨bB, 0, none⟩)] (wsum (wN f)) N) => scount_any hsc hw.sc hw.big hw.most hn (htab.below hb))
  have HB := Lib.hid ((Below.refl w.heap.size w).alloc (Nat.le_refl _) taN)
  have HT := Lib.hid (TB.new w (.slice none 0 0) ⟨#[]⟩ ⟨#[]⟩)
  have n1 : ¬ (n : Int) < 0 := by omega
  have n2 : ¬ (256 : Int) < (n : Int) := by omega
  clear h hw hn htab hck
  generalize dstr (lateP (wsum (wN f)) N n) = sL at *
  generalize dstr (2 ^ n) = sA at *
  go_enter Tryz.func84, Tryz.ntmps84
  go_wp2_with fail
  refine (HC.out _ HB.out).mono ?_
  rintro e w1 ⟨rfl, rfl⟩
  clear HC
  go_wp2_with fail
  refine (HW.out _ HB.out).mono ?_
  rintro e w2 ⟨bB, rfl, hsc, hb⟩
  replace HB := Lib.hid (HB.out.trans (hb.mono HB.out.size))
  replace HT := Lib.hid (HT.out.below hb)
  have HSS := Lib.hid (HS.out w2 HB.out bB hsc)
  clear hb hsc HW HS
  go_wp2_with fail
  refine HSS.out.mono ?_
  rintro e w3 ⟨v, rfl, hrow, hb⟩
  obtain ⟨vo, vc, rfl, _⟩ := row_shape hrow
  have HR := Lib.hid (row_baseP hrow HB.out.size)
  replace HB := Lib.hid (HB.out.trans (hb.mono HB.out.size))
  replace HT := Lib.hid (HT.out.below hb)
  obtain ⟨g0, g1, g2⟩ := HT.out.c
  have f0 := HT.out.f 0
  have f1 := HT.out.f 1
  have f2 := HT.out.f 2
  clear hb hrow HSS
  go_wp2_with fail
  exact bodyPost_ret ((HT.out.st (.slice vo N vc) sL sA).result2 rfl rfl rfl) rfl ⟨_, rfl, row_st3 HT.out HR.out, below_st3T HB.out (by omega) _ _ _⟩

set_option maxHeartbeats 1600000 in
theorem pLate_err {ao : Option Addr} {N cap : Nat} {f : Nat → ByteArray} {n : Int} {w : World} (h : PRow w ao N f) (hs : ∀ j, j < N → (f j).size ≤ 140737488351232) (he : cntE f N n ≠ 0) :
    Calls Tryz.prog 25 #[.slice ao N cap, .int .i64 n] w fun e w' => e = .returned (.tuple #[.string ⟨#[]⟩, .int .i64 ((cntE f N n : Nat) : Int)]) ∧ Below w.heap.size w w' := by
  have HC := Lib.hid (pcount_err (cap := cap) h hs he)
  have hne := errneP he
  generalize cntE f N n = c at *
  clear h hs he
  go_enter Tryz.func25, Tryz.ntmps25
  go_wp2_with fail
  refine HC.out.mono ?_
  rintro e w1 ⟨rfl, hb⟩
  have HB := Lib.hid (hb.alloc hb.size taN)
  clear hb HC
  go_wp2_with fail
  go_ret2
  exact ⟨rfl, HB.out⟩
set_option maxHeartbeats 1600000 in
theorem pLaw_err {ao : Option Addr} {N cap : Nat} {f : Nat → ByteArray} {n : Int} {w : World} (h : PRow w ao N f) (hs : ∀ j, j < N → (f j).size ≤ 140737488351232) (he : cntE f N n ≠ 0) :
    Calls Tryz.prog 27 #[.slice ao N cap, .int .i64 n] w fun e w' => e = .returned (.tuple #[.slice none 0 0, .int .i64 ((cntE f N n : Nat) : Int)]) ∧ Below w.heap.size w w' := by
  have HC := Lib.hid (pcount_err (cap := cap) h hs he)
  have hne := errneP he
  generalize cntE f N n = c at *
  clear h hs he
  go_enter Tryz.func27, Tryz.ntmps27
  go_wp2_with fail
  refine HC.out.mono ?_
  rintro e w1 ⟨rfl, hb⟩
  have HB := Lib.hid (hb.alloc hb.size taN)
  clear hb HC
  go_wp2_with fail
  go_ret2
  exact ⟨rfl, HB.out⟩
set_option maxHeartbeats 1600000 in
theorem pExact_err {ao : Option Addr} {N cap : Nat} {f : Nat → ByteArray} {w : World} (h : PRow w ao N f) (hs : ∀ j, j < N → (f j).size ≤ 140737488351232) (he : pickE f N ≠ 0) :
    Calls Tryz.prog 29 #[.slice ao N cap] w fun e w' => e = .returned (.tuple #[.slice none 0 0, .int .i64 ((pickE f N : Nat) : Int)]) ∧ Below w.heap.size w w' := by
  have HC := Lib.hid (wcheck_any (cap := cap) h hs)
  have hne := errneP he
  generalize pickE f N = c at *
  clear h hs he
  go_enter Tryz.func29, Tryz.ntmps29
  go_wp2_with fail
  refine HC.out.mono ?_
  rintro e w1 ⟨rfl, rfl⟩
  clear HC
  go_wp2_with fail
  go_ret2
  exact ⟨rfl, Below.refl _ _⟩

set_option maxHeartbeats 3200000 in
set_option maxRecDepth 100000 in
theorem pLate_ok {ao : Option Addr} {N cap n : Nat} {f : Nat → ByteArray} {w : World} (h : PRow w ao N f) (hw : WOk f N) (hn : n ≤ 256) (htab : Tab w) :
    Calls Tryz.prog 25 #[.slice ao N cap, .int .i64 (n : Int)] w fun e w' => e = .returned (.tuple #[.string (qstr (mkQ false (lateP (wsum (wN f)) N n) (2 ^ n))), .int .i64 0]) ∧ Below w.heap.size w w' := by
  have HC := Lib.hid (pcount_ok (cap := cap) h hw hn htab)
  have ok2 : Ok (2 ^ n) := ok_two (n := n) (by omega) (Nat.le_refl _)
  have HS := Lib.hid (fun W (hb : Below w.heap.size w W) => pshare_any (k := lateP (wsum (wN f)) N n) (ok2.mono (Nat.sub_le _ _)) ok2 (Nat.pos_iff_ne_zero.1 (Nat.pow_pos (by omega))) W (htab.below hb))
  generalize qstr (mkQ false (lateP (wsum (wN f)) N n) (2 ^ n)) = sq at *
  generalize dstr (lateP (wsum (wN f)) N n) = sL at *
  generalize dstr (2 ^ n) = sA at *
  clear h hw hn htab ok2
  go_enter Tryz.func25, Tryz.ntmps25
  go_wp2_with fail
  refine HC.out.mono ?_
  rintro e w1 ⟨v, rfl, hrow, hb⟩
  obtain ⟨vo, vc, rfl, _⟩ := row_shape hrow
  have HB := Lib.hid (hb.alloc hb.size (taO (.slice vo N vc) sL sA))
  obtain ⟨c0, c1, c2⟩ := (TB.new w1 (.slice vo N vc) sL sA).c
  clear hrow hb HC
  go_wp2_with fail
  refine (HS.out _ HB.out).mono ?_
  rintro e w2 ⟨rfl, hb⟩
  replace HB := Lib.hid (HB.out.trans (hb.mono HB.out.size))
  clear hb HS
  go_wp2_with fail
  go_ret2
  exact ⟨rfl, HB.out⟩

theorem late_key : lateS.size ≤ 1000000 := by decide
theorem key_size {g : Nat → Nat} {late all m : Nat} (hm : m ≤ 64) : ∀ x, x ∈ lawL g late all m → x.1.size ≤ 1000000 := fun x hx => by
  unfold lawL at hx
  rcases List.mem_append.1 hx with h | h
  · obtain ⟨i, hi, _, rfl⟩ := items_mem.1 h
    have ho : Ok i := ok_two (n := 20) (by omega) (by omega)
    show (dstr i).size ≤ _
    rw [dstr_size]; unfold Ok at ho; omega
  · split at h
    · simp at h
    · obtain rfl := List.mem_singleton.1 h
      exact late_key
theorem law_zero (g : Nat → Nat) (all m : Nat) : lawL g 0 all m = itemsP g all m := by unfold lawL; simp

set_option maxHeartbeats 6400000 in
set_option maxRecDepth 100000 in
theorem pLaw_ok {ao : Option Addr} {N cap n : Nat} {f : Nat → ByteArray} {w : World} (h : PRow w ao N f) (hw : WOk f N) (hn : n ≤ 256) (htab : Tab w) :
    Calls Tryz.prog 27 #[.slice ao N cap, .int .i64 (n : Int)] w fun e w' => ∃ v, e = .returned (.tuple #[v, .int .i64 0]) ∧ w'.ownsRow w.heap.size 38 2 v (lawL (cntP (wsum (wN f)) N n) (lateP (wsum (wN f)) N n) (2 ^ n) N).length (cellsI (sortI (lawL (cntP (wsum (wN f)) N n) (lateP (wsum (wN f)) N n) (2 ^ n) N))) ∧ Below w.heap.size w w' := by
  have HC := Lib.hid (pcount_ok (cap := cap) h hw hn htab)
  have ok2 : Ok (2 ^ n) := ok_two (n := n) (by omega) (Nat.le_refl _)
  have h20 : 2 ^ n ≠ 0 := Nat.pos_iff_ne_zero.1 (Nat.pow_pos (by omega))
  have hsc := hw.sc
  have h1 := hw.one
  have h64 := hw.most
  have HI := Lib.hid (fun W (hb : Below w.heap.size w W) ao cap (hr : PRow W ao N (fun j => dstr (cntP (wsum (wN f)) N n j))) => indices_any (cap := cap) hr h1 h64 (fun j hj => ok2.mono (cnt_le hsc hj)) ok2 h20 (htab.below hb))
  have HNO := Lib.hid (fun b W (_ : lateP (wsum (wN f)) N n = 0) => add_no (b := b) (key := lateS) (all := dstr (2 ^ n)) W)
  have HYES := Lib.hid (fun b W (h0 : lateP (wsum (wN f)) N n ≠ 0) (hb : Below w.heap.size w W) (hm : MapI W b N (itemsP (cntP (wsum (wN f)) N n) (2 ^ n) N)) => add_yes (key := lateS) hm (by omega) late_key h0 (ok2.mono (Nat.sub_le _ _)) ok2 h20 (htab.below hb))
  have HD := Lib.hid (fun b nn W (hm : MapI W b nn (lawL (cntP (wsum (wN f)) N n) (lateP (wsum (wN f)) N n) (2 ^ n) N)) => distribution_any hm (law_nodup _ _ _ _) (Nat.le_trans (law_len _ _ _ _) (by omega)) (key_size h64))
  have HLZ := Lib.hid (fun (_ : lateP (wsum (wN f)) N n = 0) => show lawL (cntP (wsum (wN f)) N n) (lateP (wsum (wN f)) N n) (2 ^ n) N = itemsP (cntP (wsum (wN f)) N n) (2 ^ n) N by rename_i h0; rw [h0, law_zero])
  have HLN := Lib.hid (fun (h0 : lateP (wsum (wN f)) N n ≠ 0) => show lawL (cntP (wsum (wN f)) N n) (lateP (wsum (wN f)) N n) (2 ^ n) N = itemsP (cntP (wsum (wN f)) N n) (2 ^ n) N ++ [(lateS, qstr (mkQ false (lateP (wsum (wN f)) N n) (2 ^ n)))] by unfold lawL; rw [if_neg h0])
  clear h hw hn htab hsc ok2 h20 h1
  generalize lawL (cntP (wsum (wN f)) N n) (lateP (wsum (wN f)) N n) (2 ^ n) N = LL at *
  generalize itemsP (cntP (wsum (wN f)) N n) (2 ^ n) N = LI at *
  generalize lateP (wsum (wN f)) N n = late at *
  generalize hcc : cntP (wsum (wN f)) N n = cc at *
  clear hcc
  generalize dstr (2 ^ n) = sA at *
  go_enter Tryz.func27, Tryz.ntmps27
  go_wp2_with fail
  refine HC.out.mono ?_
  rintro e w1 ⟨v, rfl, hrow, hb⟩
  obtain ⟨vo, vc, rfl, _⟩ := row_shape hrow
  have hb2 := hb.alloc hb.size (taO (.slice vo N vc) (dstr late) sA)
  have htb := TB.new w1 (.slice vo N vc) (dstr late) sA
  have hpr := (row_prow hrow).below ((Below.refl _ _).alloc (Nat.le_refl _) (taO (.slice vo N vc) (dstr late) sA))
  have HI2 := Lib.hid (HI.out _ hb2 vo vc hpr)
  obtain ⟨c0, c1, c2⟩ := htb.c
  have HB := Lib.hid (And.intro hb2 htb)
  clear hrow hb hb2 htb hpr HC HI
  obtain ⟨sL, hsL⟩ : ∃ sL, sL = dstr late := ⟨_, rfl⟩
  have HSL := Lib.hid hsL
  rw [← hsL] at c1 HB HI2 ⊢
  clear hsL
  go_wp2_with fail
  refine HI2.out.mono ?_
  rintro e w3 ⟨rfl, hm, hb⟩
  have HT3 := Lib.hid (HB.out.2.below hb)
  have HB3 := Lib.hid (HB.out.1.trans (hb.mono HB.out.1.size))
  have HBS := Lib.hid (Nat.le_trans HB.out.1.size (Nat.le_refl _))
  obtain ⟨d0, d1, d2⟩ := HT3.out.c
  generalize hmb : (w1.alloc (taO (.slice vo N vc) sL sA)).heap.size = mb at *
  have HM := Lib.hid hm
  clear hm hb HI2 c0 c1 c2 HB hmb
  by_cases h0 : late = 0
  · have HN1 := Lib.hid (HNO.out mb w3 h0)
    have hs0 := HSL.out
    rw [h0] at hs0
    rw [← hs0] at HN1
    have HL := Lib.hid (HLZ.out h0)
    clear h0 HNO HYES HLZ HLN HSL hs0
    go_wp2_with fail
    refine HN1.out.mono ?_
    rintro e w4 ⟨rfl, rfl⟩
    have HD1 := Lib.hid (HD.out mb N w3 (by rw [HL.out]; exact HM.out))
    clear HN1 HD HL
    go_wp2_with fail
    refine HD1.out.mono ?_
    rintro e w5 ⟨v, rfl, hrow, hb⟩
    have HF := Lib.hid (And.intro (row_baseP hrow HB3.out.size) (HB3.out.trans (hb.mono HB3.out.size)))
    clear hrow hb HD1
    go_wp2_with fail
    go_ret2
    exact ⟨_, rfl, HF.out.1, HF.out.2⟩
  · have HN1 := Lib.hid (HYES.out mb w3 h0 HB3.out HM.out)
    rw [← HSL.out] at HN1
    have HL := Lib.hid (HLN.out h0)
    clear h0 HNO HYES HLZ HLN HSL
    go_wp2_with fail
    refine HN1.out.mono ?_
    rintro e w4 ⟨rfl, hm4, hc4⟩
    have HB4 := Lib.hid (HB3.out.trans (hc4.to_below HB3.out.size (fun j hj => by have := HBS.out; omega)))
    have HD1 := Lib.hid (HD.out mb (N + 1) w4 (by rw [HL.out]; exact hm4))
    clear hm4 hc4 HN1 HD HL
    go_wp2_with fail
    refine HD1.out.mono ?_
    rintro e w5 ⟨v, rfl, hrow, hb⟩
    have HF := Lib.hid (And.intro (row_baseP hrow HB4.out.size) (HB4.out.trans (hb.mono HB4.out.size)))
    clear hrow hb HD1
    go_wp2_with fail
    go_ret2
    exact ⟨_, rfl, HF.out.1, HF.out.2⟩

set_option maxHeartbeats 6400000 in
set_option maxRecDepth 100000 in
theorem pExact_ok {ao : Option Addr} {N cap : Nat} {f : Nat → ByteArray} {w : World} (h : PRow w ao N f) (hw : WOk f N) (htab : Tab w) :
    Calls Tryz.prog 29 #[.slice ao N cap] w fun e w' => ∃ v, e = .returned (.tuple #[v, .int .i64 0]) ∧ w'.ownsRow w.heap.size 38 2 v (itemsP (wN f) (wsum (wN f) N) N).length (cellsI (sortI (itemsP (wN f) (wsum (wN f) N) N))) ∧ Below w.heap.size w w' := by
  have hck := wcheck_any (cap := cap) h hw.size
  rw [pickE_of hw] at hck
  have HC := Lib.hid hck
  have hpos := hw.pos
  have h64 := hw.most
  have HW := Lib.hid (weighted_w (cap := cap) h hw htab)
  have HT := Lib.hid (fun W bB (hsc : ScAt W 135 #[.pointer (some ⟨bB, 0, none⟩)] (wsum (wN f)) N) => total_any hsc)
  have HI := Lib.hid (fun W (hb : Below w.heap.size w W) => indices_any (cap := cap) ((h.below hb).congr (fun j hj => hw.text j hj)) hw.one h64 hw.ok (big_self hw.big) (by omega) (htab.below hb))
  have HD := Lib.hid (fun b W (hm : MapI W b N (itemsP (wN f) (wsum (wN f) N) N)) => distribution_any hm (items_nodup _ _ _) (Nat.le_trans (items_len _ _ _) (by omega)) (fun x hx => key_size (g := wN f) (late := 0) (all := wsum (wN f) N) h64 x (by rw [law_zero]; exact hx)))
  clear h hw htab hck hpos
  generalize itemsP (wN f) (wsum (wN f) N) N = LI at *
  generalize dstr (wsum (wN f) N) = sT at *
  go_enter Tryz.func29, Tryz.ntmps29
  go_wp2_with fail
  refine HC.out.mono ?_
  rintro e w1 ⟨rfl, rfl⟩
  clear HC
  go_wp2_with fail
  refine HW.out.mono ?_
  rintro e w2 ⟨bB, rfl, hsc, hb⟩
  have HB := Lib.hid hb
  have HT2 := Lib.hid (HT.out w2 bB hsc)
  clear hb hsc HW HT
  go_wp2_with fail
  refine HT2.out.mono ?_
  rintro e w3 ⟨rfl, hb⟩
  replace HB := Lib.hid (HB.out.trans (hb.mono HB.out.size))
  clear hb HT2
  go_wp2_with fail
  refine (HI.out _ HB.out).mono ?_
  rintro e w4 ⟨rfl, hm, hb⟩
  replace HB := Lib.hid (HB.out.trans (hb.mono HB.out.size))
  have HD2 := Lib.hid (HD.out _ w4 hm)
  clear hm hb HI HD
  go_wp2_with fail
  refine HD2.out.mono ?_
  rintro e w5 ⟨v, rfl, hrow, hb⟩
  have HF := Lib.hid (And.intro (row_baseP hrow HB.out.size) (HB.out.trans (hb.mono HB.out.size)))
  clear hrow hb HD2
  go_wp2_with fail
  go_ret2
  exact ⟨_, rfl, HF.out.1, HF.out.2⟩

open Go.RowKit NV
open Go.Lib (decDigits)

theorem held_massP : Tryz.prog.stoodInHeld 38 = false := by kernel_rfl
theorem struct_massP : Tryz.prog.underlying 38 = some (.struct (Tryz.prog.fieldsOf 38)) := by kernel_rfl
def fieldsMP : List (String × Nat × Nat) := [("Key", 9, 0), ("P", 22, 1)]
theorem fields_massP : (Tryz.prog.fieldsOf 38).toList.map (fun f => (f.name, f.type, f.offset)) = fieldsMP := by kernel_rfl
theorem part_strP (cs : Array Value) (off : Nat) (v : Value) (h : cs[off]? = some v) (W : World) : (part 9 cs off).run Tryz.prog W = .ok v W := by
  simp [part, isAgg, run_underlying Tryz.underlying9, h]
theorem part_numP (cs : Array Value) (off : Nat) (v : Value) (h : cs[off]? = some v) (W : World) : (part 22 cs off).run Tryz.prog W = .ok v W := by
  simp [part, isAgg, run_underlying Tryz.underlying22, h]
theorem list_twoP {α : Type} {l : List α} (h : l.length = 2) : ∃ a b, l = [a, b] := by
  match l, h with
  | [a, b], _ => exact ⟨a, b, rfl⟩
theorem eqIn_massP (x y : ByteArray) (W : World) : (Op.equalIn 10000 38 (.agg #[.string x, .string y]) (.agg #[.string x, .string y])).run Tryz.prog W = .ok true W := by
  rw [run_equalIn_agg W 9999 _ _ _ struct_massP held_massP]
  have hf := fields_massP
  generalize (Tryz.prog.fieldsOf 38).toList = l at hf ⊢
  unfold fieldsMP at hf
  obtain ⟨f0, f1, rfl⟩ := list_twoP (show l.length = 2 by have := congrArg List.length hf; simpa using this)
  simp only [List.map_cons, List.map_nil, List.cons.injEq, Prod.mk.injEq, and_true] at hf
  obtain ⟨⟨n0, t0, o0⟩, ⟨n1, t1, o1⟩⟩ := hf
  simp only [Op.eqFields, n0, t0, o0, n1, t1, o1]
  simp [Sem.run_bind, part_strP #[.string x, .string y] 0 (.string x) rfl, part_numP #[.string x, .string y] 1 (.string y) rfl,
    run_equalIn_string _ _ _ _ _ Tryz.underlying9, run_equalIn_string _ _ _ _ _ Tryz.underlying22]
theorem neq_massP (x y : ByteArray) (W : World) : (binOp .neq 38 (.agg #[.string x, .string y]) (.agg #[.string x, .string y])).run Tryz.prog W = .ok (.bool false) W := by
  rw [run_neq_struct, eqIn_massP]; rfl

theorem mass_formP {w : World} {base N : Nat} {v : Value} {xs : List Value} (h : w.ownsRow base 38 2 v N xs) (h0 : N ≠ 0) : ∃ g cap, v = .slice (some ⟨g, 0, none⟩) N cap ∧ g < w.heap.size := by
  rcases h.2 with ⟨_, h1⟩ | ⟨g, cap, cur, h1, hb, hg, _⟩
  · exact absurd h1 h0
  · exact ⟨g, cap, h1, (Array.getElem?_eq_some_iff.1 hg).1⟩
theorem mass_cellsP {w : World} {base cap g N : Nat} {L : List (ByteArray × ByteArray)} (h : w.ownsRow base 38 2 (.slice (some ⟨g, 0, none⟩) N cap) N (cellsI L)) {k : Nat} {x y : ByteArray} (hk : L[k]? = some (x, y)) :
    w.cell? ⟨g, k * 2, none⟩ = some (.string x) ∧ w.cell? ⟨g, k * 2 + 1, none⟩ = some (.string y) := by
  obtain ⟨h1, h2⟩ := cellsI_get L k (x, y) hk
  have a := h.cells (g := g) rfl (k * 2) _ h1
  have b := h.cells (g := g) rfl (k * 2 + 1) _ h2
  rw [Addr.add_lit, Nat.zero_add] at a b
  exact ⟨a, b⟩

set_option maxHeartbeats 3200000 in
set_option maxRecDepth 100000 in
theorem Same_massP {w : World} {b1 b2 : Nat} {v1 v2 : Value} {L : List (ByteArray × ByteArray)} (h1 : w.ownsRow b1 38 2 v1 L.length (cellsI L)) (h2 : w.ownsRow b2 38 2 v2 L.length (cellsI L)) (hN : L.length ≤ 1000) :
    Calls Tryz.prog 17 #[v1, v2] w fun e w' => e = .returned (.bool true) ∧ Below w.heap.size w w' := by
  obtain ⟨N, hL⟩ : ∃ N, L.length = N := ⟨_, rfl⟩
  rw [hL] at h1 h2 hN
  have hf1 : ∃ a m c, v1 = .slice a N c ∧ m = N := by
    rcases h1.2 with ⟨hv, h0⟩ | ⟨g, cap, cur, hv, _⟩
    · exact ⟨_, _, _, by rw [hv, h0], rfl⟩
    · exact ⟨_, _, _, hv, rfl⟩
  have hf2 : ∃ a m c, v2 = .slice a N c ∧ m = N := by
    rcases h2.2 with ⟨hv, h0⟩ | ⟨g, cap, cur, hv, _⟩
    · exact ⟨_, _, _, by rw [hv, h0], rfl⟩
    · exact ⟨_, _, _, hv, rfl⟩
  obtain ⟨a1, m1, k1, rfl, _⟩ := hf1
  obtain ⟨a2, m2, k2, rfl, _⟩ := hf2
  have HL := Lib.hid hL
  have H1 := Lib.hid h1
  have H2 := Lib.hid h2
  clear h1 h2 hL
  go_enter Tryz.func17, Tryz.ntmps17
  go_wp2_with fail
  go_loopw [5] (fun i wr => ∃ k : Nat, k ≤ N ∧ i = .int .i64 (k : Int) ∧ Below w.heap.size w wr) (fun i _ => N - (intOf i).toNat)
  case atStart => exact ⟨0, Nat.zero_le _, rfl, Below.refl _ _⟩
  case round =>
    obtain ⟨k, hk, rfl, hbr⟩ := hrel
    by_cases hlt : k < N
    · obtain ⟨m, hm⟩ : ∃ m, L[k]? = some m := ⟨L[k]'(by rw [HL.out]; exact hlt), List.getElem?_eq_getElem _⟩
      obtain ⟨x, y⟩ := m
      have r1 := row_belowP H1.out hbr
      have r2 := row_belowP H2.out hbr
      obtain ⟨g, cap, hg, _⟩ := mass_formP r1 (by omega)
      obtain ⟨g', cap', hg', _⟩ := mass_formP r2 (by omega)
      simp only [Value.slice.injEq, true_and] at hg hg'
      obtain ⟨rfl, rfl⟩ := hg
      obtain ⟨rfl, rfl⟩ := hg'
      obtain ⟨c0, c1⟩ := mass_cellsP r1 hm
      obtain ⟨d0, d1⟩ := mass_cellsP r2 hm
      have he := neq_massP x y
      have HB := Lib.hid hbr
      clear hbr r1 r2 hm H1 H2
      go_wp2_with fail
      go_quiet (fail)
      go_wp2_with fail
      go_roundw
      case rel => exact ⟨k + 1, by omega, by go_num, below_drewN HB.out _⟩
      case measure => simp [intOf]; omega
    · have HB := Lib.hid hbr
      clear hbr
      go_wp2_with fail
      go_ret
      exact ⟨rfl, HB.out⟩


/-- A draw has a result. -/
theorem pick_ex {f : Nat → Nat} {m : Nat} (l : List UInt8) : ∃ d v u, PickIs f m l d v u := by
  have key : ∀ n, n ≤ l.length + 1 → (∃ u v, u < n ∧ v < m ∧ inC f m (bv (l.take u)) u v ∧ ∀ j, j < u → ∀ x, x < m → ¬ inC f m (bv (l.take j)) j x) ∨ (∀ u, u < n → ∀ x, x < m → ¬ inC f m (bv (l.take u)) u x) := by
    intro n
    induction n with
    | zero => exact fun _ => .inr (fun u hu => absurd hu (Nat.not_lt_zero _))
    | succ n ih =>
      intro hn
      rcases ih (by omega) with ⟨u, v, hu, h⟩ | h
      · exact .inl ⟨u, v, by omega, h⟩
      · by_cases hx : ∃ x, x < m ∧ inC f m (bv (l.take n)) n x
        · obtain ⟨x, hx, hc⟩ := hx
          exact .inl ⟨n, x, by omega, hx, hc, h⟩
        · refine .inr fun u hu x hxm hc => ?_
          rcases Nat.lt_or_ge u n with h1 | h1
          · exact h u h1 x hxm hc
          · obtain rfl : u = n := by omega
            exact hx ⟨x, hxm, hc⟩
  rcases key (l.length + 1) (Nat.le_refl _) with ⟨u, v, hu, hv, hc, hn⟩ | h
  · exact ⟨true, v, u, .inl ⟨rfl, hv, by omega, hc, hn⟩⟩
  · refine ⟨false, 0, l.length, .inr ⟨rfl, rfl, rfl, fun x hx hc => h l.length (by omega) x hx (by rw [List.take_length]; exact hc)⟩⟩

/-- Is a weight longer than 300 bytes? -/
def wL (f : Nat → ByteArray) : Nat → Bool
  | 0 => false
  | k + 1 => wL f k || decide (300 < (f k).size)
def wLong (f : Nat → ByteArray) (N : Nat) : Bool := wL f N || decide (70 < N)
theorem wL_no {f : Nat → ByteArray} : ∀ {N : Nat}, wL f N = false → ∀ j, j < N → (f j).size ≤ 300
  | 0, _, j, hj => absurd hj (Nat.not_lt_zero _)
  | N + 1, h, j, hj => by
    have h' : (wL f N || decide (300 < (f N).size)) = false := h
    rw [Bool.or_eq_false_iff] at h'
    rcases Nat.lt_or_ge j N with h1 | h1
    · exact wL_no h'.1 j h1
    · obtain rfl : j = N := by omega
      have := of_decide_eq_false h'.2
      omega
theorem wLong_no {f : Nat → ByteArray} {N : Nat} (h : wLong f N = false) : (∀ j, j < N → (f j).size ≤ 300) ∧ N ≤ 70 := by
  unfold wLong at h
  rw [Bool.or_eq_false_iff] at h
  exact ⟨wL_no h.1, by have := of_decide_eq_false h.2; omega⟩
theorem wL_up {f : Nat → ByteArray} {k : Nat} (h : wL f k = true) : ∀ e, wL f (k + e) = true
  | 0 => h
  | e + 1 => by show (wL f (k + e) || _) = true; rw [wL_up h e]; rfl

set_option maxHeartbeats 1600000 in
set_option maxRecDepth 100000 in
theorem long_any {ao : Option Addr} {N cap : Nat} {f : Nat → ByteArray} {w : World} (h : PRow w ao N f) (hN : N ≤ 9223372036854775807) :
    Calls Tryz.prog 19 #[.slice ao N cap] w fun e w' => e = .returned (.bool (wLong f N)) ∧ w = w' := by
  have HC := Lib.hid (fun k (hk : k < N) => h.at hk)
  have HL := Lib.hid (fun k (hk : k < N) (h1 : wL f (k + 1) = true) => show wLong f N = true by
    obtain ⟨e, rfl⟩ : ∃ e, N = k + 1 + e := ⟨N - (k + 1), by omega⟩
    unfold wLong; rw [wL_up h1 e]; rfl)
  have HE := Lib.hid (fun (h1 : wL f N = false) => show wLong f N = decide (70 < N) by unfold wLong; rw [h1, Bool.false_or])
  have HST := Lib.hid (fun k => show wL f (k + 1) = (wL f k || decide (300 < (f k).size)) from rfl)
  have hcast : decide ((70 : Int) < (N : Int)) = decide (70 < N) := by
    by_cases h : 70 < N
    · rw [decide_eq_true h, decide_eq_true (by omega)]
    · rw [decide_eq_false h, decide_eq_false (by omega)]
  have HCA := Lib.hid hcast
  generalize wLong f N = T at *
  clear h hcast
  go_enter Tryz.func19, Tryz.ntmps19
  go_wp2_with fail
  go_loop [3] (fun iv => ∃ k : Nat, k ≤ N ∧ iv = .int .i64 (k : Int) ∧ Hid (wL f k = false)) (fun iv => N - (intOf iv).toNat)
  case atStart => exact ⟨0, Nat.zero_le _, rfl, Lib.hid rfl⟩
  case round =>
    obtain ⟨k, hk, rfl, hw⟩ := hrel
    by_cases hlt : k < N
    · obtain ⟨a, rfl, _, c0⟩ := HC.out k hlt
      by_cases h3 : 300 < (f k).size
      · have HR := Lib.hid (HL.out k hlt (by rw [HST.out, decide_eq_true h3, Bool.or_true]))
        have h3' : (300 : Int) < ((f k).size : Int) := by omega
        clear h3
        go_wp2_with fail
        go_ret
        exact ⟨ret_bool HR.out.symm, rfl⟩
      · have HW := Lib.hid (show wL f (k + 1) = false by rw [HST.out, hw.out, decide_eq_false h3]; rfl)
        have h3' : ¬ (300 : Int) < ((f k).size : Int) := by omega
        clear h3
        go_wp2_with fail
        go_round
        case rel => exact ⟨k + 1, by omega, by go_num, HW⟩
        case measure => simp [intOf]; omega
    · obtain rfl : k = N := by omega
      have HR := Lib.hid (HE.out hw.out)
      go_wp2_with fail
      go_ret
      exact ⟨ret_bool (by rw [HR.out, ← HCA.out]), rfl⟩

theorem neq_dr (d e : Bool) (u v x y : Int) (W : World) : (binOp .neq 26 (.agg #[.bool d, .int .i64 u, .int .i64 v]) (.agg #[.bool e, .int .i64 x, .int .i64 y])).run Tryz.prog W = .ok (.bool !(d == e && (u == x && v == y))) W := by
  rw [run_neq_struct, eqIn_dr]; rfl

open Go.RowKit NV
open Go.Lib (decDigits)

/-- The error of right texts. -/
theorem pickE_texts {f : Nat → ByteArray} {g : Nat → Nat} {N : Nat} (ht : ∀ j, j < N → f j = dstr (g j)) (og : ∀ j, j < N → Ok (g j)) (hs : ∀ j, j < N → (dstr (g j)).size ≤ 3800) : pickE f N = if N < 1 ∨ 64 < N then 2 else if wsum g N = 0 then 6 else 0 := by
  have h3 : ∀ k, k ≤ N → wEs f k = 0 := fun k => by
    induction k with
    | zero => exact fun _ => rfl
    | succ k ih => exact fun hk => wEs_step (ih (by omega)) (by rw [ht k hk]; exact wE_ok (og k hk) (hs k hk))
  unfold pickE
  rw [h3 N (Nat.le_refl _), if_neg (show ¬ (0 : Nat) ≠ 0 by omega)]
  have hz : wZ f N = decide (wsum g N = 0) := by
    by_cases h : wsum g N = 0
    · rw [decide_eq_true h]
      exact wZ_iff.2 fun j hj => by rw [ht j hj, wsum_zero.1 h j hj, zero_isP]; rfl
    · rw [decide_eq_false h]
      cases hz : wZ f N with
      | false => rfl
      | true =>
        exfalso; apply h
        refine wsum_zero.2 fun j hj => ?_
        have := wZ_iff.1 hz j hj
        rw [ht j hj, zero_isP] at this
        exact of_decide_eq_true this
  rw [hz]
  by_cases h : wsum g N = 0
  · rw [if_pos h, decide_eq_true h]; rfl
  · rw [if_neg h, decide_eq_false h]; rfl
theorem wN_texts {f : Nat → ByteArray} {g : Nat → Nat} {N : Nat} (ht : ∀ j, j < N → f j = dstr (g j)) : ∀ j, j < N → wN f j = g j := fun j hj => by unfold wN; rw [ht j hj, dstr_list, dv_dec]

theorem items_congr {g h : Nat → Nat} {all : Nat} : ∀ {m : Nat}, (∀ j, j < m → g j = h j) → itemsP g all m = itemsP h all m
  | 0, _ => rfl
  | m + 1, e => by
    show itemsP g all m ++ _ = itemsP h all m ++ _
    rw [items_congr (m := m) (fun j hj => e j (by omega)), e m (by omega)]
theorem law_congr {g h : Nat → Nat} {late all m : Nat} (e : ∀ j, j < m → g j = h j) : lawL g late all m = lawL h late all m := by unfold lawL; rw [items_congr e]

theorem chk_text {s : ByteArray} (h : chk s.data.toList = 0) : s = dstr (dv s.data.toList) ∧ Ok (dv s.data.toList) := by
  obtain ⟨a, rfl, oa⟩ := text_of_chkB h
  rw [dstr_list, dv_dec]; exact ⟨rfl, oa⟩
theorem small_dv {s : ByteArray} {K : Nat} (h : chk s.data.toList = 0) (hK : 0 < K) (hs : s.size ≤ K) : dv s.data.toList < 10 ^ K := by
  have h1 := (chk_text h).1
  have h2 : (dstr (dv s.data.toList)).size ≤ K := by rw [← h1]; exact hs
  rw [dstr_size] at h2
  exact (dec_len_le hK).1 h2
theorem small_dstr {n K : Nat} (hK : 0 < K) (h : n < 10 ^ K) : (dstr n).size ≤ K := by rw [dstr_size]; exact (dec_len_le hK).2 h

theorem prod_ok {s t : ByteArray} (h1 : chk s.data.toList = 0) (hs : s.size ≤ 300) (h2 : chk t.data.toList = 0) (ht : t.size ≤ 100) : Ok (dv s.data.toList * dv t.data.toList) ∧ (dstr (dv s.data.toList * dv t.data.toList)).size ≤ 3800 := by
  obtain ⟨A, hA⟩ : ∃ A, A = 300 := ⟨_, rfl⟩
  obtain ⟨C, hC⟩ : ∃ C, C = 100 := ⟨_, rfl⟩
  have e1 := small_dv (K := A) h1 (by omega) (by omega)
  have e2 := small_dv (K := C) h2 (by omega) (by omega)
  have e3 : dv s.data.toList * dv t.data.toList < 10 ^ (A + C) := by rw [Nat.pow_add]; exact Nat.mul_lt_mul_of_lt_of_lt e1 e2
  exact ⟨ok_smallP (k := A + C) (by omega) e3, Nat.le_trans (small_dstr (K := A + C) (by omega) e3) (by omega)⟩

/-- A list of ones, as it is filled. -/
def NArr (w : World) (g N : Nat) (f : Nat → ByteArray) : Prop :=
  ∃ cur, w.heap[g]? = some (.cells cur 22 (0, 0)) ∧ cur.size = N ∧ ∀ j, j < N → cur[j]? = some (.string (f j))
theorem NArr.cell {w : World} {g N : Nat} {f : Nat → ByteArray} (h : NArr w g N f) {j : Nat} (hj : j < N) : w.cell? ⟨g, j, none⟩ = some (.string (f j)) := by
  obtain ⟨cur, h1, h2, h3⟩ := h
  rw [cell_of_row w g j cur _ _ h1]
  exact h3 j hj
theorem NArr.free {w : World} {g N : Nat} {f : Nat → ByteArray} (h : NArr w g N f) (j : Nat) : w.frozen? ⟨g, j, none⟩ = false := by
  obtain ⟨cur, h1, h2, h3⟩ := h
  exact frozen_of_row w g j cur _ h1
theorem NArr.lt {w : World} {g N : Nat} {f : Nat → ByteArray} (h : NArr w g N f) : g < w.heap.size := by
  obtain ⟨cur, h1, _⟩ := h
  exact (Array.getElem?_eq_some_iff.1 h1).1
theorem NArr.store {w : World} {g N : Nat} {f : Nat → ByteArray} (h : NArr w g N f) (i : Nat) (x : ByteArray) : NArr (w.setCell ⟨g, i, none⟩ (.string x)) g N (fun j => if j = i then x else f j) := by
  obtain ⟨cur, h1, h2, h3⟩ := h
  refine ⟨cur.setIfInBounds i (.string x), heap_setCell_same w g i cur _ _ h1, by simpa using h2, fun j hj => ?_⟩
  rw [Array.getElem?_setIfInBounds]
  by_cases e : i = j
  · subst e
    rw [if_pos rfl, if_pos (by omega)]
    show _ = some (Value.string (if i = i then x else f i))
    rw [if_pos rfl]
  · rw [if_neg e]
    show _ = some (Value.string (if j = i then x else f j))
    rw [if_neg (fun h => e h.symm)]
    exact h3 j hj
theorem NArr.made {w : World} {base g N : Nat} (h : w.ownsRow base 22 1 (.slice (some ⟨g, 0, none⟩) N N) N (madeCells (Value.string ⟨#[]⟩).cells (N * 1)).toList) : NArr w g N (fun _ => ⟨#[]⟩) := by
  rcases h.2 with ⟨h', _⟩ | ⟨g', cap', cur, h', hb, hg, hnc, hcm, hcs, htake⟩
  · simp at h'
  · simp only [Value.slice.injEq, Option.some.injEq, Addr.mk.injEq, and_true, true_and] at h'
    obtain ⟨rfl, rfl⟩ := h'
    refine ⟨cur, hg, by omega, fun j hj => ?_⟩
    have e : (cur.toList.take (N * 1))[j]? = some (.string ⟨#[]⟩) := by
      rw [htake, Nat.mul_one]
      show (madeCells #[Value.string ⟨#[]⟩] N).toList[j]? = _
      rw [toList_madeCells_one, List.getElem?_replicate, if_pos hj]
    rw [List.getElem?_take, if_pos (by omega)] at e
    simpa using e
theorem NArr.prow {w : World} {g N : Nat} {f : Nat → ByteArray} (h : NArr w g N f) : PRow w (some ⟨g, 0, none⟩) N f :=
  .inr ⟨_, rfl, h.lt, fun j hj => by rw [Addr.add_lit, Nat.zero_add]; exact h.cell hj⟩

/-- N weights 1. -/
theorem ones_ok {N : Nat} (h1 : 1 ≤ N) (h2 : N ≤ 64) {f : Nat → ByteArray} (hf : ∀ j, j < N → f j = ⟨#[49]⟩) : WOk f N ∧ ∀ i, i ≤ N → wsum (wN f) i = i := by
  have ht : ∀ j, j < N → f j = dstr 1 := fun j hj => by rw [hf j hj]; exact one_str
  have hn : ∀ j, j < N → wN f j = 1 := wN_texts (g := fun _ => 1) ht
  have hs : ∀ i, i ≤ N → wsum (wN f) i = i := fun i => by
    induction i with
    | zero => exact fun _ => rfl
    | succ i ih => exact fun hi => by show wsum (wN f) i + wN f i = _; rw [ih (by omega), hn i hi]
  have o1 : Ok 1 := ok_two (n := 1) (by omega) (by omega)
  refine ⟨⟨h1, h2, fun j hj => by rw [hn j hj]; exact ht j hj, fun j hj => by rw [hn j hj]; exact o1, fun j hj => ?_, by rw [hs N (Nat.le_refl _)]; omega⟩, hs⟩
  rw [hn j hj]; exact (wE_of (n := 1) rfl (by omega)).2

end Go.Proofs.YteojekiocecdnaaGreatDoor
