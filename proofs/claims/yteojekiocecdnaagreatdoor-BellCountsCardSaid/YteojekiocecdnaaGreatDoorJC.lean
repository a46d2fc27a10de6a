/-
  BellCounts: the reference's Share and Int; what is counted. BellCounts: its walk. BellCounts returns true for any text and ints.
-/
import Derived.Test.YteojekiocecdnaaGreatDoorJB
import Derived.Test.YteojekiocecdnaaGreatDoorBU
namespace Go.Proofs.YteojekiocecdnaaGreatDoor
open Go.RowKit NV
open Go.Lib (decDigits)

set_option maxHeartbeats 1600000 in
theorem rShare7_ok {k n : Nat} (hn : n ≤ 256) (hk : k ≤ 2 ^ n) (hk2 : k ≤ 9223372036854775807) (w : World) :
    Calls Tryz.prog 48 #[.int .i64 (k : Int), .int .i64 (n : Int)] w fun e w' => e = .returned (.string (qstr (mkQ false k (2 ^ n)))) ∧ Below w.heap.size w w' := by
  have HI := Lib.hid (rInt_nat k hk2 w)
  have HR := Lib.hid (fun W => iread_d k W (ok_int k hk2))
  have HS := Lib.hid (fun W x (hx : INum W x k) => rShare_ok hn hk W hx)
  show Calls Tryz.prog 48 #[.int .i64 (k : Int), .int .i64 (n : Int)] w fun e w' => e = .returned (.string (qstr (cQ k n))) ∧ Below w.heap.size w w'
  generalize qstr (cQ k n) = sq at *
  go_enter Tryz.func48, Tryz.ntmps48
  go_wp2_with fail
  refine HI.out.mono ?_
  rintro e w1 ⟨rfl, hb⟩
  have HB := Lib.hid hb
  clear hb HI
  go_wp2_with fail
  refine (HR.out _).mono ?_
  rintro e w2 ⟨v, rfl, hv, hb⟩
  obtain ⟨a1, k1, rfl⟩ := islice_any hv
  replace HB := Lib.hid (HB.out.trans (hb.mono HB.out.size))
  have HV := Lib.hid (HS.out _ _ hv)
  clear hv hb HR HS
  go_wp2_with fail
  refine HV.out.mono ?_
  rintro e w3 ⟨rfl, hb⟩
  replace HB := Lib.hid (HB.out.trans (hb.mono HB.out.size))
  clear hb
  go_wp2_with fail
  go_ret
  exact ⟨rfl, HB.out⟩

theorem rInt7 {m : Int} (m0 : -9223372036854775808 ≤ m) (m1 : m ≤ 9223372036854775807) (w : World) :
    Calls Tryz.prog 47 #[.int .i64 m] w fun e w' => e = .returned (.string (kT m)) ∧ Below w.heap.size w w' := by
  rw [kT_str m m0 m1]
  by_cases h : 0 ≤ m
  · obtain ⟨k, rfl⟩ : ∃ k : Nat, m = (k : Int) := ⟨m.toNat, by omega⟩
    rw [qstr_natI k (by omega)]
    exact rInt_nat k (by omega) w
  · obtain ⟨k, rfl⟩ : ∃ k : Nat, m = -((k + 1 : Nat) : Int) := ⟨(-m).toNat - 1, by omega⟩
    rw [qstr_negnat (k + 1) (by omega) (by omega)]
    exact rInt_neg k (by omega) w

/-- A law is not empty. -/
theorem law_pos {f : Nat → Nat} {m n : Nat} (hs : ScF f m) : 0 < (lawL (cntP f m n) (lateP f m n) (2 ^ n) m).length := by
  rw [law_size]
  have h1 := late_all (n := n) hs
  have h2 : 0 < 2 ^ n := Nat.pow_pos (by omega)
  by_cases h0 : lateP f m n = 0
  · rw [if_pos h0]
    refine Classical.byContradiction fun hc => ?_
    have hz : wsum (cntP f m n) m = 0 := wsum_z m (fun j hj => Classical.byContradiction fun hne => by
      have := List.length_pos_of_mem (items_mem.2 ⟨j, hj, hne, rfl⟩ : _ ∈ itemsP (cntP f m n) (2 ^ n) m)
      omega)
    omega
  · rw [if_neg h0]; omega
theorem bSL_len {T : Nat} (L : List Item) : (sortI (mapI (vK T) L)).length = L.length := by rw [sortI_len]; unfold mapI; rw [List.length_map]
theorem bSL_mem {T : Nat} {L : List Item} {x : Item} (h : x ∈ L) : (vK T x.1, x.2) ∈ sortI (mapI (vK T) L) :=
  (sortI_perm _).mem_iff.2 (List.mem_map.2 ⟨x, h, rfl⟩)

open Go.RowKit NV
open Go.Lib (decDigits)

set_option maxHeartbeats 12800000 in
set_option maxRecDepth 100000 in
theorem bcounts_far1 {s : ByteArray} {t m : Int} (h1 : 20 < s.size) (w : World) (htab : Tab w) (hm : ML w) :
    Calls Tryz.prog 7 #[.string s, .int .i64 t, .int .i64 m] w fun e w' => e = .returned (.bool true) ∧ Below w.heap.size w w' := by
  have HL := Lib.hid (lives7_any w htab hm)
  clear htab hm
  go_enter Tryz.func7, Tryz.ntmps7
  go_wp2_with fail
  refine HL.out.mono ?_
  rintro e w1 ⟨rfl, hb⟩
  have HB := Lib.hid hb
  clear hb HL
  go_wp2_with fail
  go_ret
  exact ⟨rfl, HB.out⟩

set_option maxHeartbeats 12800000 in
set_option maxRecDepth 100000 in
theorem bcounts_far2 {s : ByteArray} {t m : Int} (h1 : ¬ 20 < s.size) (h2 : m < 0) (w : World) (htab : Tab w) (hm : ML w) :
    Calls Tryz.prog 7 #[.string s, .int .i64 t, .int .i64 m] w fun e w' => e = .returned (.bool true) ∧ Below w.heap.size w w' := by
  have HL := Lib.hid (lives7_any w htab hm)
  clear htab hm
  go_enter Tryz.func7, Tryz.ntmps7
  go_wp2_with fail
  refine HL.out.mono ?_
  rintro e w1 ⟨rfl, hb⟩
  have HB := Lib.hid hb
  clear hb HL
  go_wp2_with fail
  go_ret
  exact ⟨rfl, HB.out⟩

set_option maxHeartbeats 12800000 in
set_option maxRecDepth 100000 in
theorem bcounts_far3 {s : ByteArray} {t m : Int} (h1 : ¬ 20 < s.size) (h2 : ¬ m < 0) (h3 : 8 < m) (w : World) (htab : Tab w) (hm : ML w) :
    Calls Tryz.prog 7 #[.string s, .int .i64 t, .int .i64 m] w fun e w' => e = .returned (.bool true) ∧ Below w.heap.size w w' := by
  have HL := Lib.hid (lives7_any w htab hm)
  clear htab hm
  go_enter Tryz.func7, Tryz.ntmps7
  go_wp2_with fail
  refine HL.out.mono ?_
  rintro e w1 ⟨rfl, hb⟩
  have HB := Lib.hid hb
  clear hb HL
  go_wp2_with fail
  go_ret
  exact ⟨rfl, HB.out⟩

set_option maxHeartbeats 12800000 in
set_option maxRecDepth 100000 in
theorem bcounts_err {s : ByteArray} {t m : Int} (h1 : ¬ 20 < s.size) (h2 : ¬ m < 0) (h3 : ¬ 8 < m) (h : bwE s t ≠ 0) (w : World) (htab : Tab w) (hm : ML w) :
    Calls Tryz.prog 7 #[.string s, .int .i64 t, .int .i64 m] w fun e w' => e = .returned (.bool true) ∧ Below w.heap.size w w' := by
  have HL := Lib.hid (lives7_any w htab hm)
  have H1 := Lib.hid (fun W (hb : Below w.heap.size w W) => bLaw_w (m := m) (show s.size ≤ 1000000 by omega) h W (htab.below hb) (ml_keep hm (ml_pos hm) hb))
  have H2 := Lib.hid (fun W (hb : Below w.heap.size w W) => bLate_w (m := m) (show s.size ≤ 1000000 by omega) h W (htab.below hb) (ml_keep hm (ml_pos hm) hb))
  have hne := errneP h
  generalize bwE s t = c at *
  clear htab hm h
  go_enter Tryz.func7, Tryz.ntmps7
  go_wp2_with fail
  refine HL.out.mono ?_
  rintro e w1 ⟨rfl, hb⟩
  have HB := Lib.hid hb
  clear hb HL
  go_wp2_with fail
  refine (H1.out _ HB.out).mono ?_
  rintro e w3 ⟨rfl, hb⟩
  replace HB := Lib.hid (HB.out.trans (hb.mono HB.out.size))
  clear hb H1
  go_wp2_with fail
  refine (H2.out _ HB.out).mono ?_
  rintro e w4 ⟨rfl, hb⟩
  replace HB := Lib.hid (HB.out.trans (hb.mono HB.out.size))
  clear hb H2
  go_wp2_with fail
  go_ret
  exact ⟨ret_bool (by simp), HB.out⟩

set_option maxHeartbeats 12800000 in
set_option maxRecDepth 100000 in
theorem bcounts_walk {s : ByteArray} {T N n M lt M2 : Nat} {cf : Nat → Nat → Nat} {c FN : Nat → Nat} {SL : List Item} {sh ky : Nat → ByteArray} {w : World}
    (hs : ¬ 20 < s.size) (hT : T ≤ 16) (hN : (N : Int) = 2 * (T : Int) + 1) (hn : n ≤ 8) (hM : M2 ≤ 256 ∧ M2 ≠ 0)
    (hL : Calls Tryz.prog 32 #[] w fun e w' => e = .returned (.bool true) ∧ Below w.heap.size w w')
    (hLAW : ∀ W, Below w.heap.size w W → Calls Tryz.prog 37 #[.string s, .int .i64 (T : Int), .int .i64 (n : Int)] W fun e w' => ∃ v, e = .returned (.tuple #[v, .int .i64 0]) ∧ w'.ownsRow W.heap.size 38 2 v M (cellsI SL) ∧ Below W.heap.size W w')
    (hLATE : ∀ W, Below w.heap.size w W → Calls Tryz.prog 38 #[.string s, .int .i64 (T : Int), .int .i64 (n : Int)] W fun e w' => e = .returned (.tuple #[.string (sh lt), .int .i64 0]) ∧ Below W.heap.size W w')
    (hALL : ∀ W, Calls Tryz.prog 45 #[.int .i64 (n : Int)] W fun e w' => ∃ v, e = .returned (.tuple #[v, .int .i64 0]) ∧ w'.ownsRow W.heap.size 23 1 v M2 (wsLP n M2) ∧ Below W.heap.size W w')
    (hDR : ∀ i, i < M2 → ∃ (d : Bool) (x : Int) (v u : Nat), ((d = true ∧ v < N ∧ x + (T : Int) = (v : Int) ∧ cf (i + 1) v = cf i v + 1 ∧ ∀ j, j < N → j ≠ v → cf (i + 1) j = cf i j) ∨ (d = false ∧ x = 0 ∧ ∀ j, j < N → cf (i + 1) j = cf i j)) ∧
      ∀ W, Below w.heap.size w W → Calls Tryz.prog 34 #[.string s, .int .i64 (T : Int), .string (wstr i n)] W fun e w' => e = .returned (.tuple #[.agg #[.bool d, .int .i64 x, .int .i64 (u : Int)], .int .i64 0]) ∧ Below W.heap.size W w')
    (hSH : ∀ W (k : Nat), k ≤ M2 → Calls Tryz.prog 48 #[.int .i64 (k : Int), .int .i64 (n : Int)] W fun e w' => e = .returned (.string (sh k)) ∧ Below W.heap.size W w')
    (hKY : ∀ W (i : Nat), i < N → Calls Tryz.prog 47 #[.int .i64 ((i : Int) - (T : Int))] W fun e w' => e = .returned (.string (ky i)) ∧ Below W.heap.size W w')
    (hC0 : ∀ j, j < N → cf 0 j = 0) (hCB : ∀ i j, cf i j ≤ i) (hCE : ∀ j, j < N → cf M2 j = c j) (hCL : ∀ j, j < N → c j ≤ M2) (hLA : lt + wsum c N = M2)
    (hSLN : SL.length = M) (hML : M ≤ 65) (hF0 : FN 0 = 0) (hFz : ∀ k, c k = 0 → FN (k + 1) = FN k) (hFs : ∀ k, c k ≠ 0 → FN (k + 1) = FN k + 1) (hFl : ∀ k, FN k ≤ k) (hLL : M = FN N + if lt = 0 then 0 else 1)
    (hGE : ∀ j x y, SL[j]? = some x → SL[j + 1]? = some y → Op.bytesLess x.1.toList y.1.toList = true)
    (hMEM : ∀ i, i < N → c i ≠ 0 → (ky i, sh (c i)) ∈ SL) (hLTM : lt ≠ 0 → (lateS, sh lt) ∈ SL) :
    Calls Tryz.prog 7 #[.string s, .int .i64 (T : Int), .int .i64 (n : Int)] w fun e w' => e = .returned (.bool true) ∧ Below w.heap.size w w' := by
  have HL := Lib.hid hL
  have HLAW := Lib.hid hLAW
  have HLATE := Lib.hid hLATE
  have HALL := Lib.hid hALL
  have HDR := Lib.hid hDR
  have HSH := Lib.hid hSH
  have HKY := Lib.hid hKY
  have HC0 := Lib.hid hC0
  have HCB := Lib.hid hCB
  have HCE := Lib.hid hCE
  have HCL := Lib.hid hCL
  have HLA := Lib.hid hLA
  have HLM := Lib.hid (show lt ≤ M2 by omega)
  have HM := Lib.hid hM
  have HSLN := Lib.hid hSLN
  have HML := Lib.hid hML
  have HLL := Lib.hid hLL
  have HF := Lib.hid (And.intro hF0 (And.intro hFz (And.intro hFs hFl)))
  have HGE := Lib.hid hGE
  have HMEM := Lib.hid hMEM
  have HLTM := Lib.hid hLTM
  have HH := Lib.hid (fun (W : World) (b : Nat) (v : Value) (x : Item) (hr : W.ownsRow b 38 2 v M (cellsI SL)) (hx : x ∈ SL) => Has_any (by rw [hSLN]; exact hr) hx (by omega))
  obtain ⟨i0, hi0, hz0, hz1, hz2⟩ := info_parts infoIntK
  clear hL hLAW hLATE hALL hDR hSH hKY hC0 hCB hCE hCL hLA hM hSLN hML hLL hF0 hFz hFs hFl hGE hMEM hLTM
  go_enter Tryz.func7, Tryz.ntmps7
  go_wp2_with fail
  refine HL.out.mono ?_
  rintro e w1 ⟨rfl, hb⟩
  have HB := Lib.hid hb
  clear hb HL
  go_wp2_with fail
  refine (HLAW.out _ HB.out).mono ?_
  rintro e w2 ⟨v, rfl, hrow, hb⟩
  replace HB := Lib.hid (HB.out.trans (hb.mono HB.out.size))
  obtain ⟨vo, vc, rfl, _⟩ := row_shape hrow
  have HROW := Lib.hid hrow
  clear hb HLAW hrow
  go_wp2_with fail
  refine (HLATE.out _ HB.out).mono ?_
  rintro e w3 ⟨rfl, hb⟩
  replace HB := Lib.hid (HB.out.trans (hb.mono HB.out.size))
  replace HROW := Lib.hid (row_belowP HROW.out hb)
  clear hb HLATE
  go_wp2_with fail
  refine (HALL.out _).mono ?_
  rintro e w4 ⟨al, rfl, hal, hb⟩
  replace HB := Lib.hid (HB.out.trans (hb.mono HB.out.size))
  replace HROW := Lib.hid (row_belowP HROW.out hb)
  obtain ⟨ga, ca, rfl, _, hga⟩ := row_formP hal HM.out.2
  have HCELL := Lib.hid (show ∀ i, i < M2 → w4.cell? ⟨ga, i, none⟩ = some (.string (wstr i n)) from fun i hi => by
    have := hal.cells (g := ga) rfl i (.string (wstr i n)) (wsL_getP hi)
    rw [Addr.add_lit, Nat.zero_add] at this; exact this)
  have HGA := Lib.hid hga
  clear hb HALL hal hga
  go_wp2_with fail
  obtain ⟨w5, hrun, hown, hgrow⟩ := run_make_full (P := Tryz.prog) w4 w4.heap.size 59 3 i0 (.int .i64 0) 1 Tryz.underlying59 hi0 hz0 hz1 .i64 .i64 N (by rw [hz2]; omega) (by unfold maxLen; omega) (Nat.le_refl _)
  rw [hN] at hrun
  rw [hrun]
  simp only [Result.andThen]
  rw [Oper.upon_value]
  have HAR := Lib.hid (And.intro (KArr.made (base := w4.heap.size) hown) ((Below.refl w4.heap.size w4).grown hgrow (Nat.le_refl _) (fun k hk => by cases hk)))
  clear hrun hown hgrow hi0 hz0 hz1 hz2
  go_wp2_with fail
  go_loopw [14, 15] (fun nv iv wr => ∃ i nn : Nat, i ≤ M2 ∧ nv = .int .i64 (nn : Int) ∧ iv = .int .i64 (i : Int) ∧ KArr wr w4.heap.size N (cf i) ∧ Hid (nn + wsum (cf i) N = i) ∧ Below w4.heap.size w4 wr) (fun _ iv _ => M2 - (intOf iv).toNat)
  case atStart => exact ⟨0, 0, Nat.zero_le _, rfl, rfl, HAR.out.1.congr (fun j hj => (HC0.out j hj).symm), Lib.hid (by rw [wsum_z N HC0.out]), HAR.out.2⟩
  case round =>
    obtain ⟨i, nn, hi, rfl, rfl, hka, HNN, hbr⟩ := hrel
    clear HAR HC0
    by_cases hlt : i < M2
    · obtain ⟨d, x, v, u, hcase, hD⟩ := HDR.out i hlt
      have c0 : wr.cell? ⟨ga, i, none⟩ = some (.string (wstr i n)) := (hbr.cell (p := ⟨ga, i, none⟩) HGA.out).trans (HCELL.out i hlt)
      have HD := Lib.hid (show Calls Tryz.prog 34 #[.string s, .int .i64 (T : Int), .string (wstr i n)] wr fun e w' => e = .returned (.tuple #[.agg #[.bool d, .int .i64 x, .int .i64 u], .int .i64 0]) ∧ Below wr.heap.size wr w' from hD wr (HB.out.trans (hbr.mono HB.out.size)))
      have HK := Lib.hid hka
      have HBB := Lib.hid hbr
      have hnn : nn ≤ i := by have := HNN.out; omega
      have hM := HM.out.1
      clear hka hbr hD HDR HSH HGE HMEM HLTM HH HLL HML HSLN HLM HLA HCL HCE HKY HF
      rcases hcase with ⟨rfl, hv, hx, hup, hoth⟩ | ⟨rfl, rfl, hoth⟩
      · have HU := Lib.hid (And.intro hup hoth)
        have hcb := HCB.out i v
        have hx0 : -(T : Int) ≤ x := by omega
        have hx1 : x ≤ (T : Int) := by omega
        have hx2 : x + (T : Int) < (N : Int) := by omega
        clear hup hoth HCB
        generalize hcv : cf i v = a at hcb
        have HCV := Lib.hid hcv
        clear hcv
        go_wp2_with fail
        refine HD.out.mono ?_
        rintro e w6 ⟨rfl, hb6⟩
        have hbx := hb6.alloc hb6.size (drO true x u)
        obtain ⟨x0, x1, x2⟩ := (DR.new w6 true x u).c
        have hk6 := HK.out.below hbx
        have y0 := hk6.cell hv
        rw [HCV.out] at y0
        have f0 := hk6.free v
        have HK6 := Lib.hid hk6
        have HB6 := Lib.hid (HBB.out.trans (hbx.mono HBB.out.size))
        clear hb6 hbx hk6 HD HK HBB
        go_wp2_with fail
        go_roundw
        case rel => exact ⟨i + 1, nn, by omega, rfl, by go_num, (HK6.out.stI v (a + 1) _ (by omega)).congr (fun j hj => by
            by_cases e : j = v
            · show (if j = v then a + 1 else cf i j) = _
              rw [if_pos e, e, HU.out.1, HCV.out]
            · show (if j = v then a + 1 else cf i j) = _
              rw [if_neg e]; exact (HU.out.2 j hj e).symm), Lib.hid (by have h1 := HNN.out; rw [wsum_up hv HU.out.2 HU.out.1]; omega), HB6.out.setCell (p := ⟨w4.heap.size, v, none⟩) (Nat.le_refl _) _⟩
        case measure => simp [intOf]; omega
      · have HU := Lib.hid hoth
        clear hoth HCB
        go_wp2_with fail
        refine HD.out.mono ?_
        rintro e w6 ⟨rfl, hb6⟩
        have hbx := hb6.alloc hb6.size (drO false 0 u)
        obtain ⟨x0, x1, x2⟩ := (DR.new w6 false 0 u).c
        have HK6 := Lib.hid (HK.out.below hbx)
        have HB6 := Lib.hid (HBB.out.trans (hbx.mono HBB.out.size))
        clear hb6 hbx HD HK HBB
        go_wp2_with fail
        go_roundw
        case rel => exact ⟨i + 1, nn + 1, by omega, by go_num, by go_num, HK6.out.congr (fun j hj => (HU.out j hj).symm), Lib.hid (by have h1 := HNN.out; rw [wsum_congr HU.out]; omega), HB6.out⟩
        case measure => simp [intOf]; omega
    · obtain rfl : M2 = i := by omega
      obtain rfl : lt = nn := by
        have h1 := HNN.out
        rw [wsum_congr HCE.out] at h1
        have h2 := HLA.out
        omega
      have HKA := Lib.hid (hka.congr HCE.out)
      replace HROW := Lib.hid (row_belowP HROW.out hbr)
      replace HB := Lib.hid (HB.out.trans (hbr.mono HB.out.size))
      clear hka hbr HCE HNN HLA HDR HCELL HGA hlt hi HCB
      obtain ⟨wm, rfl⟩ : ∃ wm, wm = wr := ⟨_, rfl⟩
      go_wp2_with fail
      go_loopw [18, 19] (fun fv iv wr => ∃ k : Nat, k ≤ N ∧ fv = .int .i64 ((FN k : Nat) : Int) ∧ iv = .int .i64 (k : Int) ∧ Below wm.heap.size wm wr) (fun _ iv _ => N - (intOf iv).toNat)
      case atStart => exact ⟨0, Nat.zero_le _, by rw [HF.out.1]; rfl, rfl, Below.refl _ _⟩
      case round =>
        obtain ⟨k, hk, rfl, rfl, hb⟩ := hrel
        have hfl : FN k ≤ k := HF.out.2.2.2 k
        by_cases hlt : k < N
        · have y0 := (HKA.out.below hb).cell hlt
          by_cases hz : c k = 0
          · have HIT := Lib.hid (HF.out.2.1 k hz)
            rw [hz] at y0
            have HBQ := Lib.hid hb
            clear hb hz HSH HMEM HLTM HH HGE HCL HKY HF
            go_wp2_with fail
            go_roundw
            case rel => exact ⟨k + 1, by omega, by rw [HIT.out], by go_num, HBQ.out⟩
            case measure => simp [intOf]; omega
          · have HIT := Lib.hid (HF.out.2.2.1 k hz)
            have hpos : (0 : Int) < ((c k : Nat) : Int) := by omega
            have hmem := HMEM.out k hlt hz
            have hck := HCL.out k hlt
            have hM := HM.out.1
            have hky := fun W => HKY.out W k hlt
            obtain ⟨p, hp⟩ : ∃ p : World → Prop, p = fun W => Below wr.heap.size wr W := ⟨_, rfl⟩
            have hmk : ∀ W, Below wr.heap.size wr W → p W := fun W hW => by rw [hp]; exact hW
            have hpp : ∀ W, p W → Below wr.heap.size wr W := fun W hW => by rw [hp] at hW; exact hW
            have hpb : ∀ x : Wp p, Below wr.heap.size wr x.val := fun x => hpp _ x.holds
            have hx0 : ∀ x : Wp p, x.val.cell? ⟨w4.heap.size, k, none⟩ = some (.int .i64 ((c k : Nat) : Int)) := fun x => (HKA.out.below (hb.trans ((hpb x).mono hb.size))).cell hlt
            have HI2 := Lib.hid (fun (x : Wp p) => (hky x.val).mono (R' := fun e w' => e = .returned (.string (ky k)) ∧ ∃ y : Wp p, w' = y.val) (fun e w' ⟨h1, h2⟩ => ⟨h1, ⟨w', hmk _ ((hpb x).trans (h2.mono (hpb x).size))⟩, rfl⟩))
            have HS2 := Lib.hid (fun (x : Wp p) => (HSH.out x.val (c k) hck).mono (R' := fun e w' => e = .returned (.string (sh (c k))) ∧ ∃ y : Wp p, w' = y.val) (fun e w' ⟨h1, h2⟩ => ⟨h1, ⟨w', hmk _ ((hpb x).trans (h2.mono (hpb x).size))⟩, rfl⟩))
            have HH2 := Lib.hid (fun (x : Wp p) => (HH.out x.val _ _ _ (row_belowP HROW.out (hb.trans ((hpb x).mono hb.size))) hmem).mono (R' := fun e w' => e = .returned (.bool true) ∧ ∃ y : Wp p, w' = y.val) (fun e w' ⟨h1, h2⟩ => ⟨h1, ⟨w', hmk _ ((hpb x).trans (h2.mono (hpb x).size))⟩, rfl⟩))
            have HPB := Lib.hid hpb
            have hne : Nonempty (Wp p) := ⟨⟨wr, hmk _ (Below.refl _ _)⟩⟩
            have HD := Lib.hid (hmk wr.drew (Below.refl _ wr).drew)
            have HBQ := Lib.hid hb
            clear hb hz HSH HMEM HLTM HH HGE HCL hmem hck hp hmk hpp hpb HKY hky HF
            generalize sh (c k) = sq at *
            generalize c k = ck at *
            generalize ky k = sk at *
            go_wp2_with fail
            refine wp_region_quiet (C := fun W => ∃ x : Wp p, W = x.val) (by kernel_rfl) (by kernel_rfl) ⟨⟨wr.drew, HD.out⟩, rfl⟩ ?_
            change wpQuiet _ _ _ _ (_ :: _) _
            repeat (go_big_quiet_step (first
              | (go_at_call 47; exact HI2.out _)
              | (go_at_call 48; exact HS2.out _)
              | (go_at_call 46; exact HH2.out _)))
            refine wpQuiet_nil ?_
            rintro w6 ⟨x6, rfl⟩
            have HB6 := Lib.hid (HBQ.out.trans ((HPB.out x6).mono HBQ.out.size))
            generalize x6.val = w6 at HB6 ⊢
            clear hx0 hne HBQ HPB HD HI2 HS2 HH2 y0
            go_wp2_with fail
            go_roundw
            case rel => exact ⟨k + 1, by omega, by rw [HIT.out]; go_num, by go_num, HB6.out⟩
            case measure => simp [intOf]; omega
        · obtain rfl : N = k := by omega
          have HROW2 := Lib.hid (row_belowP HROW.out hb)
          have HB2 := Lib.hid (HB.out.trans (hb.mono HB.out.size))
          have HLL2 := Lib.hid HLL.out
          have hM := HM.out.1
          have hltM := HLM.out
          clear hb HROW HB HKA HMEM HCL hlt hk HKY HF
          by_cases hlz : lt = 0
          · have hMM : FN N = M := by have := HLL2.out; rw [if_pos hlz] at this; omega
            generalize FN N = F1 at hMM ⊢
            obtain rfl : M = F1 := hMM.symm
            subst hlz
            go_wp2_with fail
            have HBT := Lib.hid (HB2.out)
            have HRT := Lib.hid (HROW2.out)
            generalize wr = wt at HBT HRT ⊢
            clear HB2 HROW2 HLL HLL2 HH HLTM
            go_loopw [20] (fun iv wr => ∃ j : Nat, j ≤ M ∧ iv = .int .i64 ((j : Int) + 1) ∧ Below wt.heap.size wt wr) (fun iv _ => M + 1 - (intOf iv).toNat)
            case atStart => exact ⟨0, Nat.zero_le _, rfl, Below.refl _ _⟩
            case round =>
              obtain ⟨j, hj, rfl, hb⟩ := hrel
              by_cases hlt : j + 1 < M
              · obtain ⟨x, hx⟩ : ∃ x, SL[j]? = some x := ⟨SL[j]'(by rw [HSLN.out]; omega), List.getElem?_eq_getElem _⟩
                obtain ⟨y, hy⟩ : ∃ y, SL[j + 1]? = some y := ⟨SL[j + 1]'(by rw [HSLN.out]; omega), List.getElem?_eq_getElem _⟩
                have hge := HGE.out j x y hx hy
                have hrw := row_belowP HRT.out hb
                obtain ⟨gd, cd, hgd, _⟩ := mass_formP hrw (by omega)
                simp only [Value.slice.injEq, true_and] at hgd
                obtain ⟨rfl, rfl⟩ := hgd
                obtain ⟨x1, x2⟩ := x
                obtain ⟨y1, y2⟩ := y
                obtain ⟨c0, c1⟩ := mass_cellsP hrw hx
                obtain ⟨d0, d1⟩ := mass_cellsP hrw hy
                have HBB := Lib.hid hb
                have hMb : (M : Int) ≤ 1000 := by have := HML.out; omega
                clear hb hrw hx hy HRT HBT HGE HSH
                go_wp2_with fail
                go_quiet (fail)
                go_wp2_with fail
                go_roundw
                case rel => exact ⟨j + 1, by omega, by go_num, below_drewN HBB.out _⟩
                case measure => simp [intOf]; omega
              · have HBB := Lib.hid (HBT.out.trans (hb.mono HBT.out.size))
                have HS3 := Lib.hid (show Calls Tryz.prog 48 #[.int .i64 0, .int .i64 (n : Int)] wr (fun e w1 => e = .returned (.string (sh 0)) ∧ Below wr.heap.size wr w1) from HSH.out wr 0 (Nat.zero_le _))
                have hMb : (M : Int) ≤ 1000 := by have := HML.out; omega
                clear hb HRT HBT HGE HSH
                go_wp2_with fail
                refine HS3.out.mono ?_
                rintro e w9 ⟨rfl, hb⟩
                have HBF := Lib.hid (HBB.out.trans (hb.mono HBB.out.size))
                clear hb HS3 HBB
                go_wp2_with fail
                go_ret
                exact ⟨ret_bool (by simp), HBF.out⟩
          · have hMM : FN N + 1 = M := by have := HLL2.out; rw [if_neg hlz] at this; omega
            generalize FN N = F1 at hMM ⊢
            have hlz2 : (0 : Int) < (lt : Int) := by omega
            have hFN : (F1 : Int) ≤ 1000 := by have := HML.out; omega
            have HMM := Lib.hid (show (F1 : Int) + 1 = (M : Int) by omega)
            have HH2 := Lib.hid (HH.out wr _ _ _ HROW2.out (HLTM.out hlz))
            generalize hsl : sh lt = sL at *
            have HSL := Lib.hid hsl
            clear hsl
            go_wp2_with fail
            refine HH2.out.mono ?_
            rintro e w7 ⟨rfl, hb7⟩
            replace HB2 := Lib.hid (HB2.out.trans (hb7.mono HB2.out.size))
            replace HROW2 := Lib.hid (row_belowP HROW2.out hb7)
            clear hb7 HH2
            go_wp2_with fail
            rw [HMM.out]
            clear hMM HMM
            have HBT := Lib.hid (HB2.out)
            have HRT := Lib.hid (HROW2.out)
            generalize w7 = wt at HBT HRT ⊢
            clear HB2 HROW2 HLL HLL2 HH HLTM
            go_loopw [20] (fun iv wr => ∃ j : Nat, j ≤ M ∧ iv = .int .i64 ((j : Int) + 1) ∧ Below wt.heap.size wt wr) (fun iv _ => M + 1 - (intOf iv).toNat)
            case atStart => exact ⟨0, Nat.zero_le _, rfl, Below.refl _ _⟩
            case round =>
              obtain ⟨j, hj, rfl, hb⟩ := hrel
              by_cases hlt : j + 1 < M
              · obtain ⟨x, hx⟩ : ∃ x, SL[j]? = some x := ⟨SL[j]'(by rw [HSLN.out]; omega), List.getElem?_eq_getElem _⟩
                obtain ⟨y, hy⟩ : ∃ y, SL[j + 1]? = some y := ⟨SL[j + 1]'(by rw [HSLN.out]; omega), List.getElem?_eq_getElem _⟩
                have hge := HGE.out j x y hx hy
                have hrw := row_belowP HRT.out hb
                obtain ⟨gd, cd, hgd, _⟩ := mass_formP hrw (by omega)
                simp only [Value.slice.injEq, true_and] at hgd
                obtain ⟨rfl, rfl⟩ := hgd
                obtain ⟨x1, x2⟩ := x
                obtain ⟨y1, y2⟩ := y
                obtain ⟨c0, c1⟩ := mass_cellsP hrw hx
                obtain ⟨d0, d1⟩ := mass_cellsP hrw hy
                have HBB := Lib.hid hb
                have hMb : (M : Int) ≤ 1000 := by have := HML.out; omega
                clear hb hrw hx hy HRT HBT HGE HSH
                go_wp2_with fail
                go_quiet (fail)
                go_wp2_with fail
                go_roundw
                case rel => exact ⟨j + 1, by omega, by go_num, below_drewN HBB.out _⟩
                case measure => simp [intOf]; omega
              · have HBB := Lib.hid (HBT.out.trans (hb.mono HBT.out.size))
                have HS3 := Lib.hid (by have h := HSH.out wr lt HLM.out; rw [HSL.out] at h; exact h)
                have hMb : (M : Int) ≤ 1000 := by have := HML.out; omega
                clear hb HRT HBT HGE HSH
                go_wp2_with fail
                refine HS3.out.mono ?_
                rintro e w9 ⟨rfl, hb⟩
                have HBF := Lib.hid (HBB.out.trans (hb.mono HBB.out.size))
                clear hb HS3 HBB
                go_wp2_with fail
                go_ret
                exact ⟨ret_bool (by simp), HBF.out⟩

open Go.RowKit NV
open Go.Lib (decDigits)

theorem bcounts_ok {q : Rat} {T n : Nat} (op : QOk q) (hb : belE q = 0) (hT : T ≤ 16) (hO : bwO q.den T = 0) (hs : ¬ 20 < (qstr q).size) (hn : n ≤ 8) (w : World) (htab : Tab w) (hm : ML w) (hsv : SV w) :
    Calls Tryz.prog 7 #[.string (qstr q), .int .i64 (T : Int), .int .i64 (n : Int)] w fun e w' => e = .returned (.bool true) ∧ Below w.heap.size w w' := by
  have hw := wB_ok hb hT hO
  have hsc := hw.sc
  have hk := lawK (cntP (wsum (wN (wB q T))) (2 * T + 1) n) (lateP (wsum (wN (wB q T))) (2 * T + 1) n) (2 ^ n) (2 * T + 1)
  have hnd := law_nodup (cntP (wsum (wN (wB q T))) (2 * T + 1) n) (lateP (wsum (wN (wB q T))) (2 * T + 1) n) (2 ^ n) (2 * T + 1)
  have hlen := law_len (cntP (wsum (wN (wB q T))) (2 * T + 1) n) (lateP (wsum (wN (wB q T))) (2 * T + 1) n) (2 ^ n) (2 * T + 1)
  have htb := fun W (h : Below w.heap.size w W) => htab.below h
  have hml := fun W (h : Below w.heap.size w W) => ml_keep hm (ml_pos hm) h
  have hcE : ∀ j, j < 2 * T + 1 → cP (wsum (wN (wB q T))) (2 * T + 1) n (2 ^ n) j = cntP (wsum (wN (wB q T))) (2 * T + 1) n j := fun j hj => cP_all hsc hj
  have hcB : ∀ i j, cP (wsum (wN (wB q T))) (2 * T + 1) n i j ≤ i := fun i j => by unfold cP; omega
  have h256 : 2 ^ n ≤ 256 := Nat.pow_le_pow_right (n := 2) (by omega) hn
  refine bcounts_walk (T := T) (N := 2 * T + 1) (n := n) (M2 := 2 ^ n) (cf := cP (wsum (wN (wB q T))) (2 * T + 1) n) (c := cntP (wsum (wN (wB q T))) (2 * T + 1) n) (lt := lateP (wsum (wN (wB q T))) (2 * T + 1) n)
    (FN := fun k => (itemsP (cntP (wsum (wN (wB q T))) (2 * T + 1) n) (2 ^ n) k).length)
    (SL := sortI (mapI (vK T) (lawL (cntP (wsum (wN (wB q T))) (2 * T + 1) n) (lateP (wsum (wN (wB q T))) (2 * T + 1) n) (2 ^ n) (2 * T + 1))))
    (M := (lawL (cntP (wsum (wN (wB q T))) (2 * T + 1) n) (lateP (wsum (wN (wB q T))) (2 * T + 1) n) (2 ^ n) (2 * T + 1)).length)
    (sh := fun k => qstr (mkQ false k (2 ^ n))) (ky := fun i => kT ((i : Int) - (T : Int)))
    hs hT (by omega) hn ⟨h256, Nat.pos_iff_ne_zero.1 (Nat.pow_pos (by omega))⟩ (lives7_any w htab hm)
    (fun W h => bLaw_x op hb hT hO W (htb W h) (hml W h) (fun _ => hsv.keep h) hk hnd (law_pos hsc) (by omega) (fun W' ao cap hr ht => pLaw_ok hr hw (by omega) ht))
    (fun W h => bLate_x op hb hT hO W (htb W h) (hml W h) (fun W' ao cap hr ht => pLate_ok hr hw (by omega) ht))
    (fun W => rAll_okP n (by omega) W) (fun i hi => ?_) (fun W k hk => rShare7_ok (by omega) hk (by omega) W) (fun W i hi => rInt7 (by omega) (by omega) W)
    (fun j hj => by unfold cP; omega) hcB hcE (fun j hj => by rw [← hcE j hj]; exact hcB _ _) (late_all hsc) (bSL_len _) (by omega) rfl (fun k hz => ?_) (fun k hz => ?_) (fun k => items_len _ _ k) (law_size _ _ _ _)
    (fun j x y hx hy => sort_ge (mapI_nodup hT (by omega) hk hnd) hx hy) (fun i hi hc => ?_) (fun h0 => ?_)
  · obtain ⟨d, v, u, hp⟩ := pick_ex (f := wsum (wN (wB q T))) (m := 2 * T + 1) (wbits i n)
    have hP : ∀ W ao cap, PRow W ao (2 * T + 1) (wB q T) → Tab W → PDraws ao (2 * T + 1) cap (wstr i n) d (v : Int) (u : Int) 0 W := fun W ao cap hr ht =>
      pDraw_ok hr hw ht (by rw [wstr_listKP]; exact wbits_bits i n) (by rw [Go.Lib.size_eq, wstr_listKP, wbits_len]; omega) (by rw [wstr_listKP]; exact hp)
    rcases pick_class hsc hi hp with ⟨rfl, h1, h2, h3, h4⟩ | ⟨rfl, rfl, h4⟩
    · exact ⟨true, (v : Int) - (T : Int), v, u, .inl ⟨rfl, h1, by omega, cP_in h2 h3, fun j hj hne => cP_out (h4 j hj hne)⟩, fun W h => bDraw_true op hb hT hO (by omega) W (htb W h) (hml W h) hP⟩
    · exact ⟨false, 0, 0, u, .inr ⟨rfl, rfl, fun j hj => cP_out (h4 j hj)⟩, fun W h => bDraw_false op hb hT hO (by omega) W (htb W h) (hml W h) hP⟩
  · show (itemsP _ _ k ++ (if _ = 0 then [] else _)).length = _
    rw [if_pos hz, List.append_nil]
  · show (itemsP _ _ k ++ (if _ = 0 then [] else _)).length = _
    rw [if_neg hz, List.length_append]; rfl
  · have h1 := bSL_mem (T := T) (List.mem_append_left (if lateP (wsum (wN (wB q T))) (2 * T + 1) n = 0 then [] else [(lateS, qstr (mkQ false (lateP (wsum (wN (wB q T))) (2 * T + 1) n) (2 ^ n)))]) (items_mem (g := cntP (wsum (wN (wB q T))) (2 * T + 1) n) (all := 2 ^ n) (m := 2 * T + 1).2 ⟨i, hi, hc, rfl⟩))
    rw [show vK T (dstr i) = kT ((i : Int) - (T : Int)) from vK_num T i] at h1
    exact h1
  · have h1 := bSL_mem (T := T) (List.mem_append_right (itemsP (cntP (wsum (wN (wB q T))) (2 * T + 1) n) (2 ^ n) (2 * T + 1)) (show (lateS, qstr (mkQ false (lateP (wsum (wN (wB q T))) (2 * T + 1) n) (2 ^ n))) ∈ (if lateP (wsum (wN (wB q T))) (2 * T + 1) n = 0 then [] else [(lateS, qstr (mkQ false (lateP (wsum (wN (wB q T))) (2 * T + 1) n) (2 ^ n)))]) by rw [if_neg h0]; exact List.mem_singleton.2 rfl))
    rw [show vK T lateS = lateS from vK_late T] at h1
    exact h1

theorem bcounts_any (s : ByteArray) (t m : Int) (w : World) (htab : Tab w) (hm : ML w) (hsv : SV w) :
    Calls Tryz.prog 7 #[.string s, .int .i64 t, .int .i64 m] w fun e w' => e = .returned (.bool true) ∧ Below w.heap.size w w' := by
  by_cases h1 : 20 < s.size
  · exact bcounts_far1 h1 w htab hm
  by_cases h2 : m < 0
  · exact bcounts_far2 h1 h2 w htab hm
  by_cases h3 : 8 < m
  · exact bcounts_far3 h1 h2 h3 w htab hm
  by_cases h : bwE s t = 0
  · obtain ⟨q, T, rfl, rfl, op, hb, hT, hO⟩ := bw_cases h
    obtain ⟨n, rfl⟩ : ∃ n : Nat, m = (n : Int) := ⟨m.toNat, by omega⟩
    exact bcounts_ok op hb hT hO h1 (by omega) w htab hm hsv
  · exact bcounts_err h1 h2 h3 h w htab hm

end Go.Proofs.YteojekiocecdnaaGreatDoor
