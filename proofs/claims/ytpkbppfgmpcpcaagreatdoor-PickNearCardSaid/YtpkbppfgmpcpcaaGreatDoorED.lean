/-
  Distributions: share, add, indices, distribution. indices and distribution.
-/
import Derived.Test.YtpkbppfgmpcpcaaGreatDoorEC
import Derived.Test.YtpkbppfgmpcpcaaGreatDoorIter
import Derived.Maps.StringElems
import Derived.Sort.OwnSorted
namespace Go.Proofs.YtpkbppfgmpcpcaaGreatDoor
open Go.RowKit NV Go.Maps Go.Sort Go.Shelf
open Go.Lib (decDigits)

/-- A share of all cases. -/
def shQ (k d : Nat) : Rat := mkQ false k d
theorem make_sh {k d : Nat} (ok : Ok k) (od : Ok d) (h0 : d ≠ 0) (w : World) (htab : Tab w) :
    Calls Tryz.prog 94 #[.string (dstr k), .string (dstr d)] w fun e w' => e = .returned (.tuple #[.string (qstr (mkQ false k d)), .int .i64 0]) ∧ Below w.heap.size w w' :=
  rq_done (r := mkQ false k d) (Make_q (m := false) ok od h0 (by simp) w htab) rfl (qok_mk ok od h0)

set_option maxHeartbeats 1600000 in
theorem pshare_any {k d : Nat} (ok : Ok k) (od : Ok d) (h0 : d ≠ 0) (w : World) (htab : Tab w) :
    Calls Tryz.prog 136 #[.string (dstr k), .string (dstr d)] w fun e w' => e = .returned (.string (qstr (mkQ false k d))) ∧ Below w.heap.size w w' := by
  have HM := Lib.hid (make_sh ok od h0 w htab)
  generalize qstr (mkQ false k d) = s at *
  generalize dstr k = s1 at *
  generalize dstr d = s2 at *
  clear ok od h0 htab
  go_enter Tryz.func136, Tryz.ntmps136
  go_wp2_with fail
  refine HM.out.mono ?_
  rintro e w1 ⟨rfl, hb⟩
  have HB := Lib.hid hb
  clear hb HM
  go_wp2_with fail
  go_ret
  exact ⟨rfl, HB.out⟩

/-- Block b is a map that holds the items L. -/
def MapI (w : World) (b n : Nat) (L : List Item) : Prop := w.ownsMap Tryz.prog 9 (plainElem (H := Unit) Tryz.prog 23) b n (mapD L)
theorem keyedS : Keyed Tryz.prog 9 := string_keyed Tryz.underlying9
theorem MapI.keep {w w' : World} {b n : Nat} {L : List Item} (h : MapI w b n L) (hb : w'.heap[b]? = w.heap[b]?) : MapI w' b n L := by
  obtain ⟨es, clock, h1, h2, h3, h4⟩ := h
  exact ⟨es, clock, hb.trans h1, h2, h3, h4⟩
theorem MapI.lt {w : World} {b n : Nat} {L : List Item} (h : MapI w b n L) : b < w.heap.size := World.ownsMap.lt h
theorem MapI.below {w w' : World} {b n : Nat} {L : List Item} (h : MapI w b n L) (hb : Below w.heap.size w w') : MapI w' b n L := h.keep (hb.block b h.lt)
theorem MapI.mono {w : World} {b n n' : Nat} {L : List Item} (h : MapI w b n L) (hn : n ≤ n') : MapI w b n' L := World.ownsMap.mono h hn

set_option maxHeartbeats 1600000 in
theorem add_no {b : Nat} {key all : ByteArray} (w : World) :
    Calls Tryz.prog 140 #[.map (some b), .string key, .string (dstr 0), .string all] w fun e w' => e = .returned (.tuple #[]) ∧ w = w' := by
  have hz := zero_isP 0
  rw [decide_eq_true rfl] at hz
  generalize dstr 0 = s at *
  go_enter Tryz.func140, Tryz.ntmps140
  go_wp2_with fail
  go_end0
  exact ⟨rfl, rfl⟩

set_option maxHeartbeats 3200000 in
theorem add_yes {b n k d : Nat} {key : ByteArray} {L : List Item} {w : World} (h : MapI w b n L) (hn : n ≤ 1000000) (hk : key.size ≤ 1000000) (hk0 : k ≠ 0) (ok : Ok k) (od : Ok d) (h0 : d ≠ 0) (htab : Tab w) :
    Calls Tryz.prog 140 #[.map (some b), .string key, .string (dstr k), .string (dstr d)] w fun e w' => e = .returned (.tuple #[]) ∧ MapI w' b (n + 1) (L ++ [(key, qstr (mkQ false k d))]) ∧ Ch (fun j => j = b) w w' := by
  have HM := Lib.hid (pshare_any ok od h0 w htab)
  have hz := zero_isP k
  rw [decide_eq_false hk0] at hz
  have HV := Lib.hid (show (qstr (mkQ false k d)).size ≤ maxLen from Nat.le_trans (qstr_size (qok_mk ok od h0)) (by unfold maxLen; omega))
  have HKY := Lib.hid (Go.WideMaps.keyOf_string_mk Tryz.underlying9 (s := key) (by unfold maxLen; omega))
  have HSN := Lib.hid (mapD_snoc (H := Unit) L (key, qstr (mkQ false k d)))
  have HO := Lib.hid h
  generalize qstr (mkQ false k d) = s at *
  generalize dstr k = s1 at *
  generalize dstr d = s2 at *
  clear ok od h0 htab h hk0 hk
  go_enter Tryz.func140, Tryz.ntmps140
  go_wp2_with fail
  refine HM.out.mono ?_
  rintro e w1 ⟨rfl, hb⟩
  have hown := HO.out.below hb
  have HB := Lib.hid hb
  have HW := Lib.hid hown
  clear hb HM HO hown
  go_wp2_with (at_mapUpdate; refine wpList_mapUpdate_own _ rfl _ _ _ 144 rfl 9 23 keyedS Tryz.underlying144 _ b n _ rfl HW.out (by unfold maxLen; omega) _ _ _ rfl rfl HKY.out _ [] (plainElem_string Tryz.underlying23 HV.out) ?_)
  intro w6 hown6 hgrow6
  have HF := Lib.hid (And.intro hown6 ((Ch.below (S := fun j => j = b) HB.out).trans (Ch.grown hgrow6 (fun r hr => by cases hr; rfl))))
  clear hown6 hgrow6
  go_wp2_with fail
  go_end0
  exact ⟨rfl, by have := HF.out.1; unfold MapI; rw [HSN.out]; exact this, HF.out.2⟩

open Go.RowKit NV Go.Maps Go.Sort Go.Shelf
open Go.Lib (decDigits)

theorem itoaP (k : Nat) (hk : k ≤ 1000000) (w : World) (htab : Tab w) : Calls Tryz.prog 217 #[.int .i64 (k : Int)] w fun e w' => e = .returned (.string (dstr k)) ∧ Below w.heap.size w w' := by
  have H := Tryz.strconv_Itoa (k : Int) (by omega) (by omega) w htab
  rw [itoa_nat] at H
  exact H.mono fun e w' ⟨h1, q, os, h2⟩ => ⟨h1, h2 ▸ Lib.below_grow w.heap.size w (Nat.le_refl _) q os⟩

set_option maxHeartbeats 3200000 in
set_option maxRecDepth 100000 in
theorem indices_any {ao : Option Addr} {N cap d : Nat} {g : Nat → Nat} {w : World} (h : PRow w ao N (fun j => dstr (g j))) (h1 : 1 ≤ N) (hN : N ≤ 64) (og : ∀ j, j < N → Ok (g j)) (od : Ok d) (d0 : d ≠ 0) (htab : Tab w) :
    Calls Tryz.prog 139 #[.slice ao N cap, .string (dstr d)] w fun e w' => e = .returned (.map (some w.heap.size)) ∧ MapI w' w.heap.size N (itemsP g d N) ∧ Below w.heap.size w w' := by
  have hmm := @run_makeMap Tryz.prog
  obtain ⟨a, rfl, hal, hcell⟩ := h.form (by omega)
  have HC := Lib.hid (And.intro hal hcell)
  have HI := Lib.hid (fun k (hk : k < N) W (hb : Below w.heap.size w W) => itoaP k (by omega) W (htab.below hb))
  have HNO := Lib.hid (fun (key : ByteArray) W => add_no (b := w.heap.size) (key := key) (all := dstr d) W)
  have HYES := Lib.hid (fun k (hk : k < N) (hg : g k ≠ 0) W (hb : Below w.heap.size w W) (hm : MapI W w.heap.size k (itemsP g d k)) => add_yes (key := dstr k) hm (by omega) (by
    have ho : Ok k := ok_two (n := 20) (by omega) (by omega)
    rw [dstr_size]; unfold Ok at ho; omega) hg (og k hk) od d0 (htab.below hb))
  have HST := Lib.hid (fun k => show itemsP g d (k + 1) = itemsP g d k ++ (if g k = 0 then [] else [(dstr k, qstr (mkQ false (g k) d))]) from rfl)
  have HM0 := Lib.hid (show MapI (w.alloc (.map #[] 0)) w.heap.size 0 (itemsP g d 0) from World.ownsMap_made _ _ _ _)
  have HB0 := Lib.hid ((Below.refl w.heap.size w).alloc (Nat.le_refl _) (.map #[] 0))
  clear h og od d0 htab hal hcell
  generalize dstr d = sd at *
  go_enter Tryz.func139, Tryz.ntmps139
  go_wp2_with fail
  go_loopw [11] (fun iv wr => ∃ k : Nat, k ≤ N ∧ iv = .int .i64 (k : Int) ∧ MapI wr w.heap.size k (itemsP g d k) ∧ Below w.heap.size w wr) (fun iv _ => N - (intOf iv).toNat)
  case atStart => exact ⟨0, Nat.zero_le _, rfl, HM0.out, HB0.out⟩
  case round =>
    obtain ⟨k, hk, rfl, hm, hb⟩ := hrel
    clear HM0 HB0
    by_cases hlt : k < N
    · have c0 : wr.cell? (a.add k) = some (.string (dstr (g k))) := (hb.cell (p := a.add k) (by rw [add_blockP]; exact HC.out.1)).trans (HC.out.2 k hlt)
      have HI1 := Lib.hid (HI.out k hlt wr hb)
      have HMM := Lib.hid (And.intro hm hb)
      clear hm hb
      have hst := HST.out k
      by_cases hg : g k = 0
      · rw [if_pos hg, List.append_nil] at hst
        rw [hg] at c0
        have HS := Lib.hid hst
        clear hst hg
        go_wp2_with fail
        refine HI1.out.mono ?_
        rintro e w1 ⟨rfl, hb1⟩
        have HMM2 := Lib.hid (And.intro (HMM.out.1.below hb1) (HMM.out.2.trans (hb1.mono HMM.out.2.size)))
        clear hb1 HI1 HMM c0
        go_wp2_with fail
        refine (HNO.out _ _).mono ?_
        rintro e w2 ⟨rfl, rfl⟩
        go_wp2_with fail
        go_roundw
        case rel => exact ⟨k + 1, by omega, by go_num, by rw [HS.out]; exact HMM2.out.1.mono (by omega), HMM2.out.2⟩
        case measure => simp [intOf]; omega
      · rw [if_neg hg] at hst
        have HS := Lib.hid hst
        have HG := Lib.hid hg
        have HY := Lib.hid (fun W hb hm => HYES.out k hlt hg W hb hm)
        clear hst hg
        go_wp2_with fail
        refine HI1.out.mono ?_
        rintro e w1 ⟨rfl, hb1⟩
        have HMM2 := Lib.hid (And.intro (HMM.out.1.below hb1) (HMM.out.2.trans (hb1.mono HMM.out.2.size)))
        have HY2 := Lib.hid (HY.out w1 HMM2.out.2 HMM2.out.1)
        clear hb1 HI1 HMM c0 HY
        go_wp2_with fail
        refine HY2.out.mono ?_
        rintro e w2 ⟨rfl, hm2, hc2⟩
        have HF := Lib.hid (And.intro hm2 (HMM2.out.2.trans (hc2.to_below HMM2.out.2.size (fun j hj => by omega))))
        clear hm2 hc2 HY2
        go_wp2_with fail
        go_roundw
        case rel => exact ⟨k + 1, by omega, by go_num, by rw [HS.out]; exact HF.out.1, HF.out.2⟩
        case measure => simp [intOf]; omega
    · obtain rfl : k = N := by omega
      have HMM := Lib.hid (And.intro hm hb)
      clear hm hb
      go_wp2_with fail
      go_ret
      exact ⟨rfl, HMM.out.1, HMM.out.2⟩

/-- Items as cells. -/
def cellsI (l : List Item) : List Value := l.flatMap (fun m => [.string m.1, .string m.2])
theorem cellsI_app (l m : List Item) : cellsI (l ++ m) = cellsI l ++ cellsI m := by unfold cellsI; rw [List.flatMap_append]
theorem cellsI_get : ∀ (l : List Item) (k : Nat) (m : Item), l[k]? = some m → (cellsI l)[k * 2]? = some (.string m.1) ∧ (cellsI l)[k * 2 + 1]? = some (.string m.2)
  | [], k, m, h => by simp at h
  | a :: l, 0, m, h => by
    have e : cellsI (a :: l) = [.string a.1, .string a.2] ++ cellsI l := by unfold cellsI; rw [List.flatMap_cons]
    obtain rfl : a = m := by simpa using h
    rw [e]; exact ⟨rfl, rfl⟩
  | a :: l, k + 1, m, h => by
    have e : cellsI (a :: l) = [.string a.1, .string a.2] ++ cellsI l := by unfold cellsI; rw [List.flatMap_cons]
    have h2 := cellsI_get l k m (by simpa using h)
    rw [e, Nat.succ_mul]
    exact h2
theorem infoMassP : (Tryz.prog.info? 54).map (fun i => (i.zero, i.size, i.bytes)) = some (some (.agg #[.string ⟨#[]⟩, .string ⟨#[]⟩]), 2, 32) := by kernel_rfl
theorem row_belowP {w w' : World} {base n sz : Nat} {v : Value} {xs : List Value} {e : TypeId} (h : w.ownsRow base e sz v n xs) (hb : Below w.heap.size w w') : w'.ownsRow base e sz v n xs :=
  h.kept (row := none) ⟨hb.os, hb.tape, hb.output, hb.size, fun k hk _ => hb.block k hk⟩ (Classical.em _)
theorem row_baseP {w : World} {base base' n sz : Nat} {v : Value} {xs : List Value} {e : TypeId} (h : w.ownsRow base e sz v n xs) (hb : base' ≤ base) : w.ownsRow base' e sz v n xs := by
  refine ⟨h.1, ?_⟩
  rcases h.2 with hn | ⟨g, cap, cur, hv, hg, rest⟩
  · exact .inl hn
  · exact .inr ⟨g, cap, cur, hv, Nat.le_trans hb hg, rest⟩
theorem row_shape {w : World} {base n sz : Nat} {v : Value} {xs : List Value} {e : TypeId} (h : w.ownsRow base e sz v n xs) : ∃ ao c, v = .slice ao n c ∧ (n ≠ 0 → ∃ g, ao = some ⟨g, 0, none⟩ ∧ base ≤ g ∧ g < w.heap.size) := by
  rcases h.2 with ⟨hv, h0⟩ | ⟨g, cap, cur, hv, hg, hh, _⟩
  · exact ⟨_, _, by rw [h0]; exact hv, fun h => absurd h0 h⟩
  · exact ⟨_, _, hv, fun _ => ⟨g, rfl, hg, (Array.getElem?_eq_some_iff.1 hh).1⟩⟩

theorem zeroNum (w : World) : (zeroValue 23).run Tryz.prog w = .ok (.string ⟨#[]⟩) w := by kernel_rfl
/-- What a look-up finds. -/
theorem look_item {w : World} {b n : Nat} {L : List Item} {x : Item} (h : MapI w b n L) (hn : (L.map keyI).Nodup) (hx : x ∈ L) (hk : x.1.size ≤ maxLen) :
    (Instr.lookup 144 (.map (some b)) (.string x.1) false).run Tryz.prog w = .ok (.string x.2) w := by
  obtain ⟨v, ps, hrun, hv⟩ := World.ownsMap.lookup h keyedS Tryz.underlying144 (zeroNum w) (plainElem_string Tryz.underlying23 (s := ⟨#[]⟩) (by unfold maxLen; decide)) (Go.WideMaps.keyOf_string_mk Tryz.underlying9 hk)
  obtain ⟨s, rfl, hs, _⟩ := Go.plainElem_string_inv Tryz.underlying23 hv
  have hat := mapD_at (H := Unit) (z := .lit (.string (⟨#[]⟩ : ByteArray).data.toList)) hn hx
  simp only [Prod.mk.injEq] at hs
  have h3 := hat.symm.trans hs.1
  have h4 : x.2.data.toList = s.data.toList := by simpa using h3
  rw [ba_extP h4]; exact hrun

set_option maxHeartbeats 6400000 in
set_option maxRecDepth 100000 in
theorem distribution_any {b n : Nat} {L : List Item} {w : World} (h : MapI w b n L) (hL : (L.map keyI).Nodup) (hlen : L.length ≤ 1000) (hks : ∀ x, x ∈ L → x.1.size ≤ 1000000) :
    Calls Tryz.prog 141 #[.map (some b)] w fun e w' => ∃ v, e = .returned v ∧ w'.ownsRow w.heap.size 54 2 v L.length (cellsI (sortI L)) ∧ Below w.heap.size w w' := by
  obtain ⟨i0, hi, hz0, hz1, hz2⟩ := info_parts infoMassP
  have hsz : Maps.size (mapD L : DataW Unit) = L.length := mapD_size hL
  have HK := Lib.hid (callsIn_wide.1 (Tryz.maps_Keys_219 (some b) w))
  have HS := Lib.hid (callsIn_wide.1 (Tryz.slices_Sorted_keys_218_219 (H := Unit) b n (mapD L) _ w h (by rw [hsz]; unfold maxLen; omega) (by rw [hsz]; omega)))
  have HLK := Lib.hid (fun W (hb : Below w.heap.size w W) x (hx : x ∈ L) => look_item (h.below hb) hL hx (Nat.le_trans (hks x hx) (by unfold maxLen; omega)))
  have HPM := Lib.hid (fun x (hx : x ∈ sortI L) => (sortI_perm L).mem_iff.1 hx)
  have HKS := Lib.hid (fun (ss : List (List UInt8)) (hp : ss.Perm (strKeys (mapD L : DataW Unit))) => And.intro (keys_sorted (hp.trans (mapD_keys hL))) ((hp.trans (mapD_keys hL)).length_eq))
  have HSL := Lib.hid (sortI_len L)
  have HB := Lib.hid ((Below.refl w.heap.size w).alloc (Nat.le_refl _) (.cells #[.map (some b)] 144))
  clear h hL hks hsz
  go_enter Tryz.func141, Tryz.ntmps141
  go_wp2_with fail
  refine HK.out.mono ?_
  rintro e w1 ⟨rfl, rfl⟩
  clear HK
  go_wp2_with fail
  refine HS.out.mono ?_
  rintro e w2 ⟨v, ss, rfl, hp, hrow, _, hb⟩
  obtain ⟨hk1, hk2⟩ := HKS.out ss hp
  rw [hk1] at hrow
  rw [List.length_map] at hk2
  rw [hk2] at hrow
  have HB2 := Lib.hid (HB.out.trans (hb.mono HB.out.size))
  obtain ⟨ao, cc, rfl, hform⟩ := row_shape hrow
  have HROW := Lib.hid (And.intro hrow hform)
  clear hp hk1 hk2 hb hrow hform HS HKS HB
  obtain ⟨N, hN⟩ : ∃ N, L.length = N := ⟨_, rfl⟩
  rw [hN] at hlen HSL HROW ⊢
  have HN := Lib.hid hN
  clear hN
  go_wp2_with fail
  go_loopw [3, 10] (fun dv iv wr => ∃ k : Nat, k ≤ N ∧ iv = .int .i64 (k : Int) ∧ wr.ownsRow w2.heap.size 54 2 dv k (cellsI ((sortI L).take k)) ∧ Below w2.heap.size w2 wr) (fun _ iv _ => N - (intOf iv).toNat)
  case atStart => exact ⟨0, Nat.zero_le _, rfl, World.ownsRow_nil _ _ _ _, Below.refl _ _⟩
  case round =>
    obtain ⟨k, hk, rfl, hr, hb⟩ := hrel
    by_cases hlt : k < N
    · obtain ⟨g, rfl, _, hglt⟩ := HROW.out.2 (by omega)
      obtain ⟨x, hx⟩ : ∃ x, (sortI L)[k]? = some x := ⟨(sortI L)[k]'(by rw [HSL.out]; exact hlt), List.getElem?_eq_getElem _⟩
      have hkey : encStr (keyI x) = .string x.1 := by unfold encStr; rw [ba_extP (a := ⟨(keyI x).toArray⟩) (b := x.1) (by simp)]
      have c0 : wr.cell? ⟨g, k, none⟩ = some (.string x.1) := by
        have := HROW.out.1.cells (g := g) rfl k (.string x.1) (by rw [List.getElem?_map, List.getElem?_map, hx]; show some (encStr (keyI x)) = _; rw [hkey])
        rw [Addr.add_lit, Nat.zero_add] at this
        exact (hb.cell (p := ⟨g, k, none⟩) hglt).trans this
      have hlk := HLK.out wr (HB2.out.trans (hb.mono HB2.out.size)) x (HPM.out x (List.mem_of_getElem? hx))
      have HTK := Lib.hid (show cellsI ((sortI L).take (k + 1)) = cellsI ((sortI L).take k) ++ [.string x.1, .string x.2] by rw [List.take_add_one, hx, cellsI_app]; rfl)
      obtain ⟨xo, xc, rfl, _⟩ := row_shape hr
      have HRW := Lib.hid (And.intro hr hb)
      obtain ⟨x, y⟩ := x
      clear hr hb hx hkey hglt
      go_wp2_with (at_builtin; refine wpList_append_own _ rfl _ _ 49 rfl w2.heap.size 54 i0 (.agg #[.string ⟨#[]⟩, .string ⟨#[]⟩]) 2 32 Tryz.underlying49 hi hz0 hz1 hz2 rfl (by decide) _ _ _ rfl (HRW.out.1.alloc _) ⟨wr.heap.size, 0, none⟩ 1 1 [.string x, .string y] rfl rfl (World.news_of_block (heap_alloc_new _ _)) (fun u hu => by simp at hu; rcases hu with rfl | rfl <;> rfl) ?c3 ?c4 ?c5 ?_)
      case c3 => unfold maxLen; omega
      case c4 => omega
      case c5 => have := HRW.out.2.size; simp; omega
      intro v' w6 hown' hgrow _
      have hlt5 := HRW.out.1.lt
      have HF := Lib.hid (And.intro hown' ((HRW.out.2.alloc HRW.out.2.size _).grown hgrow (by have := HRW.out.2.size; simp; omega) (fun q hq => (hlt5 q hq).1)))
      obtain ⟨ao', c', rfl, _⟩ := row_shape hown'
      clear hown' hgrow hlt5 HRW c0 hlk
      go_wp2_with fail
      go_roundw
      case rel => exact ⟨k + 1, by omega, by go_num, by rw [HTK.out]; exact HF.out.1, HF.out.2⟩
      case measure => simp [intOf]; omega
    · obtain rfl : k = N := by omega
      have HR := Lib.hid (And.intro hr hb)
      have HTA := Lib.hid (show (sortI L).take k = sortI L from List.take_of_length_le (by rw [HSL.out]; exact Nat.le_refl _))
      clear hr hb
      go_wp2_with fail
      go_ret
      exact ⟨_, rfl, by rw [HTA.out] at HR; rw [HN.out]; exact row_baseP HR.out.1 HB2.out.size, HB2.out.trans (HR.out.2.mono HB2.out.size)⟩

end Go.Proofs.YtpkbppfgmpcpcaaGreatDoor
