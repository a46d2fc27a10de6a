/-
  CoinCounts returns true for any text and int.
-/
import Derived.Test.YtgeohcpmoleocaaGreatDoorKE
import Derived.Test.YtgeohcpmoleocaaGreatDoorKC
namespace Go.Proofs.YtgeohcpmoleocaaGreatDoor
open Go.RowKit NV
open Go.Lib (decDigits)

/-- What the i-th of all bit strings leads to. -/
theorem toss_class {q : Rat} {n i : Nat} (hi : i < 2 ^ n) :
    (i < cOne q n → (tossF q.den (wbits i n) (tp q) 0).1 = true ∧ (tossF q.den (wbits i n) (tp q) 0).2.1 = 1) ∧
    (cOne q n + cLate q n ≤ i → (tossF q.den (wbits i n) (tp q) 0).1 = true ∧ (tossF q.den (wbits i n) (tp q) 0).2.1 = 0) ∧
    (cOne q n ≤ i → i < cOne q n + cLate q n → (tossF q.den (wbits i n) (tp q) 0).1 = false ∧ (tossF q.den (wbits i n) (tp q) 0).2.1 = 0) := by
  have hd : 0 < q.den := q.den_pos
  obtain ⟨t1, t2, t3⟩ := toss_val hd (wbits i n) (tp q) 0 (wbits_bits _ _)
  rw [wbits_len, wbits_val hi] at t1 t2 t3
  have hdm := Nat.div_add_mod (tp q * 2 ^ n) q.den
  have hml := Nat.mod_lt (tp q * 2 ^ n) hd
  have h1 : cOne q n = tp q * 2 ^ n / q.den := rfl
  have h2 : cLate q n = if tp q * 2 ^ n % q.den = 0 then 0 else 1 := rfl
  rw [← h1] at hdm
  obtain ⟨X, hX⟩ : ∃ X, X = tp q * 2 ^ n := ⟨_, rfl⟩
  rw [← hX] at t1 t2 t3 hdm hml h2
  obtain ⟨R, hR⟩ : ∃ R, R = X % q.den := ⟨_, rfl⟩
  rw [← hR] at hdm hml h2
  obtain ⟨O, hO⟩ : ∃ O, O = cOne q n := ⟨_, rfl⟩
  rw [← hO] at hdm ⊢
  generalize q.den = D at *
  generalize cLate q n = L at *
  have e1 : (i + 1) * D = i * D + D := Nat.succ_mul _ _
  have e2 : (O + 1) * D = O * D + D := Nat.succ_mul _ _
  have e3 : D * O = O * D := Nat.mul_comm _ _
  refine ⟨fun h => ?_, fun h => ?_, fun h h' => ?_⟩
  · have h3 : (i + 1) * D ≤ O * D := Nat.mul_le_mul_right _ h
    exact t2 (by omega) (by omega)
  · refine t1 ?_
    by_cases h0 : R = 0
    · rw [if_pos h0] at h2
      have h3 : O * D ≤ i * D := Nat.mul_le_mul_right _ (by omega)
      omega
    · rw [if_neg h0] at h2
      have h3 : (O + 1) * D ≤ i * D := Nat.mul_le_mul_right _ (by omega)
      omega
  · by_cases h0 : R = 0
    · rw [if_pos h0] at h2; omega
    · rw [if_neg h0] at h2
      obtain rfl : i = O := by omega
      exact t3 (by omega) (by omega)

/-- How many of the first i bit strings have each result. -/
def n0F (q : Rat) (n i : Nat) : Nat := i - (cOne q n + cLate q n)
def n1F (q : Rat) (n i : Nat) : Nat := min i (cOne q n)
def n2F (q : Rat) (n i : Nat) : Nat := min (i - cOne q n) (cLate q n)

/-- Block g holds three counts. -/
def CI (w : World) (g : Nat) (a b c : Nat) : Prop := w.heap[g]? = some (.cells #[.int .i64 (a : Int), .int .i64 (b : Int), .int .i64 (c : Int)] 3 (0, 0))
theorem CI.lt {w : World} {g a b c : Nat} (h : CI w g a b c) : g < w.heap.size := (Array.getElem?_eq_some_iff.1 h).1
theorem CI.below {w w1 : World} {g a b c : Nat} (h : CI w g a b c) (hb : Below w.heap.size w w1) : CI w1 g a b c := (hb.block g h.lt).trans h
theorem CI.c {w : World} {g a b c : Nat} (h : CI w g a b c) : w.cell? ⟨g, 0, none⟩ = some (.int .i64 (a : Int)) ∧ w.cell? ⟨g, 1, none⟩ = some (.int .i64 (b : Int)) ∧ w.cell? ⟨g, 2, none⟩ = some (.int .i64 (c : Int)) :=
  ⟨by rw [Lib.cell_of_heap h]; rfl, by rw [Lib.cell_of_heap h]; rfl, by rw [Lib.cell_of_heap h]; rfl⟩
theorem CI.f {w : World} {g a b c : Nat} (h : CI w g a b c) (j : Nat) : w.frozen? ⟨g, j, none⟩ = false := Lib.frozen_of_heap h j
theorem CI.s0 {w : World} {g a b c : Nat} (h : CI w g a b c) : CI (w.setCell ⟨g, 0, none⟩ (.int .i64 ((a : Int) + 1))) g (a + 1) b c := heap_setCell_same w g 0 _ _ _ h
theorem CI.s1 {w : World} {g a b c : Nat} (h : CI w g a b c) : CI (w.setCell ⟨g, 1, none⟩ (.int .i64 ((b : Int) + 1))) g a (b + 1) c := heap_setCell_same w g 1 _ _ _ h
theorem CI.s2 {w : World} {g a b c : Nat} (h : CI w g a b c) : CI (w.setCell ⟨g, 2, none⟩ (.int .i64 ((c : Int) + 1))) g a b (c + 1) := heap_setCell_same w g 2 _ _ _ h

def cntF (q : Rat) (n : Nat) : Nat → Nat
  | 0 => cZero q n
  | 1 => cOne q n
  | _ => cLate q n
def keyF : Nat → ByteArray
  | 0 => ⟨#[48]⟩
  | 1 => ⟨#[49]⟩
  | _ => sLate
theorem lawM_get {q : Rat} {n k : Nat} (h : k < 3) : (lawM q n)[k]? = some (keyF k, qstr (cQ (cntF q n k) n)) := by
  match k, h with
  | 0, _ => rfl
  | 1, _ => rfl
  | 2, _ => rfl
theorem cntF_le {q : Rat} (hle : tp q ≤ q.den) (n k : Nat) : cntF q n k ≤ 2 ^ n := by
  obtain ⟨g1, g2⟩ := counts_le hle n
  match k with
  | 0 => exact Nat.le_trans (Nat.sub_le _ _) (Nat.sub_le _ _)
  | 1 => exact g1
  | k + 2 => exact Nat.le_trans g2 (Nat.sub_le _ _)
theorem CI.cnt {w : World} {g : Nat} {q : Rat} {n : Nat} (h : CI w g (cZero q n) (cOne q n) (cLate q n)) {k : Nat} (hk : k < 3) : w.cell? ⟨g, k, none⟩ = some (.int .i64 ((cntF q n k : Nat) : Int)) := by
  match k, hk with
  | 0, _ => exact h.c.1
  | 1, _ => exact h.c.2.1
  | 2, _ => exact h.c.2.2
theorem keys_cell {w : World} {g : Nat} (h : w.heap[g]? = some (.cells #[.string ⟨#[48]⟩, .string ⟨#[49]⟩, .string sLate] 9 (0, 0))) {k : Nat} (hk : k < 3) : w.cell? ⟨g, k, none⟩ = some (.string (keyF k)) := by
  match k, hk with
  | 0, _ => rw [Lib.cell_of_heap h]; rfl
  | 1, _ => rw [Lib.cell_of_heap h]; rfl
  | 2, _ => rw [Lib.cell_of_heap h]; rfl

theorem cQ_zero (n : Nat) : qstr (cQ 0 n) = ⟨#[48]⟩ := by
  have h : cQ 0 n = 0 := by unfold cQ mkQ; simp
  rw [h, zero_str]; exact qstr_int rfl rfl
theorem cQ_nz {k n : Nat} (h : ((qstr (cQ k n)).toList == [48]) = true) : k = 0 := by
  have h1 : qstr (cQ k n) = qstr 0 := by
    have h2 : (qstr (cQ k n)).data.toList = [48] := by rw [← Go.Lib.toList_data]; exact beq_iff_eq.1 h
    have h3 : qstr (0 : Rat) = ⟨#[48]⟩ := (qstr_int (q := 0) rfl rfl).trans zero_str.symm
    rw [h3]; exact ba_ext h2
  have h4 := qstr_inj h1
  unfold cQ mkQ at h4
  simp only [Bool.false_eq_true, if_false] at h4
  have h5 := (Rat.mkRat_eq_zero (n := (k : Int)) (d := 2 ^ n) (Nat.pos_iff_ne_zero.1 (Nat.pow_pos (by omega)))).1 h4
  omega
theorem cQ_is (k n : Nat) : ((qstr (cQ k n)).toList == [48]) = decide (k = 0) := by
  by_cases h : k = 0
  · subst h; rw [cQ_zero, decide_eq_true rfl]; exact lit_eq [48] _ rfl
  · rw [decide_eq_false h]
    cases hb : ((qstr (cQ k n)).toList == [48]) with
    | false => rfl
    | true => exact absurd (cQ_nz hb) h

set_option maxHeartbeats 3200000 in
set_option maxRecDepth 100000 in
theorem counts_far1 (p : ByteArray) (n : Int) (hp : 100 < p.size) (w : World) (htab : Tab w) (hm : ML w) :
    Calls Tryz.prog 12 #[.string p, .int .i64 n] w fun e w' => e = .returned (.bool true) ∧ Below w.heap.size w w' := by
  have HL := Lib.hid (lives4_any w htab hm)
  clear htab hm
  go_enter Tryz.func12, Tryz.ntmps12
  go_wp2_with fail
  refine HL.out.mono ?_
  rintro e w1 ⟨rfl, hb1⟩
  have HB := Lib.hid hb1
  clear hb1 HL
  go_wp2_with fail
  go_ret
  exact ⟨rfl, HB.out⟩

set_option maxHeartbeats 3200000 in
set_option maxRecDepth 100000 in
theorem counts_far2 (p : ByteArray) (n : Int) (hp : ¬ 100 < p.size) (hn : n < 0) (w : World) (htab : Tab w) (hm : ML w) :
    Calls Tryz.prog 12 #[.string p, .int .i64 n] w fun e w' => e = .returned (.bool true) ∧ Below w.heap.size w w' := by
  have HL := Lib.hid (lives4_any w htab hm)
  clear htab hm
  go_enter Tryz.func12, Tryz.ntmps12
  go_wp2_with fail
  refine HL.out.mono ?_
  rintro e w1 ⟨rfl, hb1⟩
  have HB := Lib.hid hb1
  clear hb1 HL
  go_wp2_with fail
  go_ret
  exact ⟨rfl, HB.out⟩

set_option maxHeartbeats 3200000 in
set_option maxRecDepth 100000 in
theorem counts_far3 (p : ByteArray) (n : Int) (hp : ¬ 100 < p.size) (hn : ¬ n < 0) (h9 : 9 < n) (w : World) (htab : Tab w) (hm : ML w) :
    Calls Tryz.prog 12 #[.string p, .int .i64 n] w fun e w' => e = .returned (.bool true) ∧ Below w.heap.size w w' := by
  have HL := Lib.hid (lives4_any w htab hm)
  clear htab hm
  go_enter Tryz.func12, Tryz.ntmps12
  go_wp2_with fail
  refine HL.out.mono ?_
  rintro e w1 ⟨rfl, hb1⟩
  have HB := Lib.hid hb1
  clear hb1 HL
  go_wp2_with fail
  go_ret
  exact ⟨rfl, HB.out⟩

set_option maxHeartbeats 3200000 in
set_option maxRecDepth 100000 in
theorem counts_err (p : ByteArray) (n : Int) (hp : ¬ 100 < p.size) (hn0 : ¬ n < 0) (hn9 : ¬ 9 < n) (hE : prE p ≠ 0) (w : World) (htab : Tab w) (hm : ML w) :
    Calls Tryz.prog 12 #[.string p, .int .i64 n] w fun e w' => e = .returned (.bool true) ∧ Below w.heap.size w w' := by
  have HL := Lib.hid (lives4_any w htab hm)
  have H1 := Lib.hid (fun W (h : Below w.heap.size w W) => Law_p (s := p) (by omega) hE n W (ml_keep hm (ml_pos hm) h))
  have H2 := Lib.hid (fun W (h : Below w.heap.size w W) => Late_p (s := p) (by omega) hE n W (ml_keep hm (ml_pos hm) h))
  have hne := errne hE
  generalize prE p = c at *
  clear htab hm hE
  go_enter Tryz.func12, Tryz.ntmps12
  go_wp2_with fail
  refine HL.out.mono ?_
  rintro e w1 ⟨rfl, hb1⟩
  have HB := Lib.hid hb1
  clear hb1 HL
  go_wp2_with fail
  refine (H1.out _ HB.out).mono ?_
  rintro e w2 ⟨rfl, hb⟩
  replace HB := Lib.hid (HB.out.trans (hb.mono HB.out.size))
  clear hb H1
  go_wp2_with fail
  refine (H2.out _ HB.out).mono ?_
  rintro e w3 ⟨rfl, hb⟩
  replace HB := Lib.hid (HB.out.trans (hb.mono HB.out.size))
  clear hb H2
  go_wp2_with fail
  go_ret
  exact ⟨ret_bool (by simp), HB.out⟩

set_option maxHeartbeats 12800000 in
set_option maxRecDepth 100000 in
theorem counts_yes {q : Rat} (op : QOk q) (hpe : probE q = 0) {n : Nat} (hp : ¬ 100 < (qstr q).size) (hn9 : n ≤ 9) (w : World) (htab : Tab w) (hm : ML w) :
    Calls Tryz.prog 12 #[.string (qstr q), .int .i64 (n : Int)] w fun e w' => e = .returned (.bool true) ∧ Below w.heap.size w w' := by
  obtain ⟨_, hle, _⟩ := probE_ok hpe
  obtain ⟨hg1, hg2⟩ := counts_le hle n
  have HL := Lib.hid (lives4_any w htab hm)
  have HLAW := Lib.hid (fun W (h : Below w.heap.size w W) => Law_ok op hpe (n := n) (by omega) W (htab.below h) (ml_keep hm (ml_pos hm) h))
  have HLATE := Lib.hid (fun W (h : Below w.heap.size w W) => Late_ok op hpe (n := n) (by omega) W (htab.below h) (ml_keep hm (ml_pos hm) h))
  have HALL := Lib.hid (fun W => rAll_ok n (by omega) W)
  have HDR := Lib.hid (fun W (h : Below w.heap.size w W) i d v u (hT : tossF q.den (wbits i n) (tp q) 0 = (d, v, u)) => draw_is (b := wstr i n) (d := d) (v := v) (u := u) op hpe (by rw [wstr_listK]; exact wbits_bits _ _) (by rw [Go.Lib.size_eq, wstr_listK, wbits_len]; omega) (by rw [wstr_listK]; exact hT) W (htab.below h) (ml_keep hm (ml_pos hm) h))
  have HCL := Lib.hid (fun i (hi : i < 2 ^ n) => toss_class (q := q) hi)
  have HSH := Lib.hid (fun W k => share4_ok (k := cntF q n k) (n := n) (by omega) (cntF_le hle n k) W)
  have HGE := Lib.hid (fun k (hk : k < 3) => lawM_get (q := q) (n := n) hk)
  have HLM := Lib.hid (show (lawM q n).length = 3 from rfl)
  have HLC := Lib.hid (show cntF q n 2 = cLate q n from rfl)
  have HCZ := Lib.hid (fun k => cQ_is (cntF q n k) n)
  obtain ⟨N, hN⟩ : ∃ N, N = 2 ^ n := ⟨_, rfl⟩
  have hN4 : N ≤ 512 := by
    rw [hN]; exact Nat.le_trans (Nat.pow_le_pow_right (n := 2) (by omega) hn9) (by decide)
  have hN0 : N ≠ 0 := by rw [hN]; exact Nat.pos_iff_ne_zero.1 (Nat.pow_pos (by omega))
  rw [← hN] at HALL HCL hg1 hg2
  have HG := Lib.hid (And.intro hg1 hg2)
  have HZ := Lib.hid (show cZero q n = N - cOne q n - cLate q n by rw [hN]; rfl)
  clear htab hm op hpe hle hg1 hg2 hN
  generalize hs : qstr q = s at *
  clear hs
  go_enter Tryz.func12, Tryz.ntmps12
  go_wp2_with fail
  refine HL.out.mono ?_
  rintro e w1 ⟨rfl, hb1⟩
  have HB := Lib.hid hb1
  clear hb1 HL
  go_wp2_with fail
  refine (HLAW.out _ HB.out).mono ?_
  rintro e w2 ⟨v, rfl, hrow, hb⟩
  replace HB := Lib.hid (HB.out.trans (hb.mono HB.out.size))
  have HROW := Lib.hid hrow
  obtain ⟨vo, vm, vc, rfl⟩ := slice_of_row hrow
  clear hb HLAW hrow
  go_wp2_with fail
  refine (HLATE.out _ HB.out).mono ?_
  rintro e w3 ⟨rfl, hb⟩
  replace HB := Lib.hid (HB.out.trans (hb.mono HB.out.size))
  replace HROW := Lib.hid (row_below2 HROW.out hb)
  clear hb HLATE
  go_wp2_with fail
  refine (HALL.out _).mono ?_
  rintro e w4 ⟨al, rfl, hal, hb⟩
  replace HB := Lib.hid (HB.out.trans (hb.mono HB.out.size))
  replace HROW := Lib.hid (row_below2 HROW.out hb)
  obtain ⟨ga, ca, rfl, _, hga⟩ := row_form hal hN0
  have HCELL := Lib.hid (show ∀ i, i < N → w4.cell? ⟨ga, i, none⟩ = some (.string (wstr i n)) from fun i hi => by
    have := hal.cells (g := ga) rfl i (.string (wstr i n)) (wsL_get hi)
    rw [Addr.add_lit, Nat.zero_add] at this; exact this)
  have HGA := Lib.hid hga
  have hci : CI (w4.alloc (.cells #[.int .i64 0, .int .i64 0, .int .i64 0] 3)) w4.heap.size 0 0 0 := heap_alloc_new w4 _
  have HCI := Lib.hid (And.intro hci ((Below.refl w4.heap.size w4).alloc (Nat.le_refl _) (.cells #[.int .i64 0, .int .i64 0, .int .i64 0] 3)))
  clear hb HALL hal hga hci
  go_wp2_with fail
  have HPN := Lib.hid (And.intro hp hN0)
  clear hp hN0
  go_loopw [12] (fun iv wr => ∃ i : Nat, i ≤ N ∧ iv = .int .i64 (i : Int) ∧ CI wr w4.heap.size (n0F q n i) (n1F q n i) (n2F q n i) ∧ Below w4.heap.size w4 wr) (fun iv _ => N - (intOf iv).toNat)
  case atStart => exact ⟨0, Nat.zero_le _, rfl, by rw [show n0F q n 0 = 0 by unfold n0F; omega, show n1F q n 0 = 0 by unfold n1F; omega, show n2F q n 0 = 0 by unfold n2F; omega]; exact HCI.out.1, HCI.out.2⟩
  case round =>
    obtain ⟨i, hi, rfl, hci, hb⟩ := hrel
    clear HCI
    by_cases hlt : i < N
    · obtain ⟨k1, k2, k3⟩ := HCL.out i hlt
      have c0 : wr.cell? ⟨ga, i, none⟩ = some (.string (wstr i n)) := (hb.cell (p := ⟨ga, i, none⟩) HGA.out).trans (HCELL.out i hlt)
      obtain ⟨d, v, u, hT⟩ : ∃ d v u, tossF q.den (wbits i n) (tp q) 0 = (d, v, u) := ⟨_, _, _, rfl⟩
      rw [hT] at k1 k2 k3
      have HD := Lib.hid (HDR.out wr (HB.out.trans (hb.mono HB.out.size)) i d v u hT)
      obtain ⟨vi, hvi⟩ : ∃ vi : Int, vi = (v : Int) := ⟨_, rfl⟩
      obtain ⟨ui, hui⟩ : ∃ ui : Int, ui = (u : Int) := ⟨_, rfl⟩
      rw [← hvi, ← hui] at HD
      have hcase : (i < cOne q n ∧ d = true ∧ vi = 1) ∨ (cOne q n + cLate q n ≤ i ∧ d = true ∧ vi = 0) ∨ (cOne q n ≤ i ∧ i < cOne q n + cLate q n ∧ d = false ∧ vi = 0) := by
        rw [hvi]
        rcases Nat.lt_or_ge i (cOne q n) with h | h
        · exact .inl ⟨h, (k1 h).1, by have h2 : v = 1 := (k1 h).2; omega⟩
        · rcases Nat.lt_or_ge i (cOne q n + cLate q n) with h' | h'
          · exact .inr (.inr ⟨h, h', (k3 h h').1, by have h2 : v = 0 := (k3 h h').2; omega⟩)
          · exact .inr (.inl ⟨h', (k2 h').1, by have h2 : v = 0 := (k2 h').2; omega⟩)
      have ha0 : n0F q n i ≤ 512 := by unfold n0F; omega
      have ha1 : n1F q n i ≤ 512 := by unfold n1F; omega
      have ha2 : n2F q n i ≤ 512 := by unfold n2F; omega
      have HN1 := Lib.hid (show (i < cOne q n → n0F q n (i + 1) = n0F q n i ∧ n1F q n (i + 1) = n1F q n i + 1 ∧ n2F q n (i + 1) = n2F q n i) ∧ (cOne q n + cLate q n ≤ i → n0F q n (i + 1) = n0F q n i + 1 ∧ n1F q n (i + 1) = n1F q n i ∧ n2F q n (i + 1) = n2F q n i) ∧ (cOne q n ≤ i → i < cOne q n + cLate q n → n0F q n (i + 1) = n0F q n i ∧ n1F q n (i + 1) = n1F q n i ∧ n2F q n (i + 1) = n2F q n i + 1) by unfold n0F n1F n2F; omega)
      have HC := Lib.hid hci
      have HBB := Lib.hid hb
      have HCS := Lib.hid hcase
      clear hci hb k1 k2 k3 hT hcase hvi hui
      generalize n0F q n i = a0 at *
      generalize n1F q n i = a1 at *
      generalize n2F q n i = a2 at *
      go_wp2_with fail
      refine HD.out.mono ?_
      rintro e w5 ⟨rfl, hb5⟩
      have hbx := hb5.alloc hb5.size (dObj d vi ui)
      obtain ⟨x0, x1, x2⟩ := (DB.newv w5 d vi ui).cells
      have hc5 := HC.out.below hbx
      obtain ⟨y0, y1, y2⟩ := hc5.c
      have z0 := hc5.f 0
      have z1 := hc5.f 1
      have z2 := hc5.f 2
      have HC5 := Lib.hid hc5
      have HB5 := Lib.hid (HBB.out.trans (hbx.mono HBB.out.size))
      clear hb5 hbx hc5 HD HC
      rcases HCS.out with ⟨hA, rfl, rfl⟩ | ⟨hA, rfl, rfl⟩ | ⟨hA, hA', rfl, rfl⟩
      · have HK := Lib.hid (HN1.out.1 hA)
        clear hA HCS HN1
        go_wp2_with fail
        go_roundw
        case rel => exact ⟨i + 1, by omega, by go_num, by rw [HK.out.1, HK.out.2.1, HK.out.2.2]; exact HC5.out.s1, HB5.out.setCell (p := ⟨w4.heap.size, 1, none⟩) (Nat.le_refl _) _⟩
        case measure => simp [intOf]; omega
      · have HK := Lib.hid (HN1.out.2.1 hA)
        clear hA HCS HN1
        go_wp2_with fail
        go_roundw
        case rel => exact ⟨i + 1, by omega, by go_num, by rw [HK.out.1, HK.out.2.1, HK.out.2.2]; exact HC5.out.s0, HB5.out.setCell (p := ⟨w4.heap.size, 0, none⟩) (Nat.le_refl _) _⟩
        case measure => simp [intOf]; omega
      · have HK := Lib.hid (HN1.out.2.2 hA hA')
        clear hA hA' HCS HN1
        go_wp2_with fail
        go_roundw
        case rel => exact ⟨i + 1, by omega, by go_num, by rw [HK.out.1, HK.out.2.1, HK.out.2.2]; exact HC5.out.s2, HB5.out.setCell (p := ⟨w4.heap.size, 2, none⟩) (Nat.le_refl _) _⟩
        case measure => simp [intOf]; omega
    · obtain rfl : i = N := by omega
      have hg := HG.out
      rw [show n0F q n i = cZero q n by unfold n0F; rw [HZ.out]; omega, show n1F q n i = cOne q n by unfold n1F; omega, show n2F q n i = cLate q n by unfold n2F; omega] at hci
      clear hg HDR HCL HCELL HGA HZ HG
      obtain ⟨wm, rfl⟩ : ∃ wm, wm = wr := ⟨_, rfl⟩
      have hbk : Below wm.heap.size wm (wm.alloc (.cells #[.string ⟨#[48]⟩, .string ⟨#[49]⟩, .string sLate] 9)) := (Below.refl _ _).alloc (Nat.le_refl _) _
      have hkk : (wm.alloc (.cells #[.string ⟨#[48]⟩, .string ⟨#[49]⟩, .string sLate] 9)).heap[wm.heap.size]? = some (.cells #[.string ⟨#[48]⟩, .string ⟨#[49]⟩, .string sLate] 9 (0, 0)) := heap_alloc_new wm _
      have hsz : (wm.alloc (.cells #[.string ⟨#[48]⟩, .string ⟨#[49]⟩, .string sLate] 9)).heap.size = wm.heap.size + 1 := by simp
      have hci2 := hci.below hbk
      have HF := Lib.hid (And.intro hkk (And.intro hci2 (And.intro (row_below2 HROW.out (hb.trans (hbk.mono hb.size))) (And.intro (HB.out.trans ((hb.trans (hbk.mono hb.size)).mono HB.out.size)) (And.intro (show w4.heap.size < wm.heap.size from hci.lt) hsz)))))
      obtain ⟨i0, hi0, hz0, hz1, hz2⟩ := info_parts infoMass
      clear hbk hkk hsz hci2 hci hb HROW HB
      go_wp2_with fail
      generalize hgk : wm.heap.size = gk at HF ⊢
      generalize hwk : wm.alloc (.cells #[.string ⟨#[48]⟩, .string ⟨#[49]⟩, .string sLate] 9) = wk at HF ⊢
      clear hgk hwk
      go_loopw [18, 16] (fun kv wv wr => ∃ k : Nat, k ≤ 3 ∧ kv = .int .i64 (k : Int) ∧ wr.ownsRow wk.heap.size 70 2 wv (fltM ((lawM q n).take k)).length (cellsM (fltM ((lawM q n).take k))) ∧ Below wk.heap.size wk wr) (fun kv _ _ => 3 - (intOf kv).toNat)
      case atStart => exact ⟨0, by omega, rfl, World.ownsRow_nil _ _ _ _, Below.refl _ _⟩
      case round =>
        obtain ⟨k, hk, rfl, hrw, hb⟩ := hrel
        have hgw := HF.out.2.2.2.2.1
        have hgs := HF.out.2.2.2.2.2
        by_cases hlt : k < 3
        · have HKP := Lib.hid (show ∀ W, Below wk.heap.size wk W → W.cell? ⟨w4.heap.size, k, none⟩ = some (.int .i64 ((cntF q n k : Nat) : Int)) ∧ W.cell? ⟨gk, k, none⟩ = some (.string (keyF k)) from fun W h =>
            ⟨(h.cell (p := ⟨w4.heap.size, k, none⟩) (by show w4.heap.size < _; omega)).trans (HF.out.2.1.cnt hlt), (h.cell (p := ⟨gk, k, none⟩) (by show gk < _; omega)).trans (keys_cell HF.out.1 hlt)⟩)
          obtain ⟨c0, c1⟩ := HKP.out wr hb
          have htk : (lawM q n).take (k + 1) = (lawM q n).take k ++ [(keyF k, qstr (cQ (cntF q n k) n))] := by rw [List.take_add_one, HGE.out k hlt]; rfl
          have hcz := HCZ.out k
          have hfl : (fltM ((lawM q n).take k)).length ≤ 3 := Nat.le_trans (fltM_len _) (by rw [List.length_take]; omega)
          have HS1 := Lib.hid (fun W => HSH.out W k)
          have HTK := Lib.hid htk
          obtain ⟨xo, xm, xc, rfl⟩ := slice_of_row hrw
          have HRW := Lib.hid hrw
          have HBR := Lib.hid hb
          clear hrw hb htk
          by_cases hz : cntF q n k = 0
          · rw [decide_eq_true hz] at hcz
            have HZZ := Lib.hid (show fltM ((lawM q n).take (k + 1)) = fltM ((lawM q n).take k) by rw [HTK.out, fltM_app, fltM_no hcz, List.append_nil])
            rw [hz] at c0
            clear hz hcz
            go_wp2_with fail
            go_roundw
            case rel => exact ⟨k + 1, by omega, by go_num, by rw [HZZ.out]; exact HRW.out, HBR.out⟩
            case measure => simp [intOf]; omega
          · rw [decide_eq_false hz] at hcz
            have HZZ := Lib.hid (show fltM ((lawM q n).take (k + 1)) = fltM ((lawM q n).take k) ++ [(keyF k, qstr (cQ (cntF q n k) n))] by rw [HTK.out, fltM_app, fltM_yes hcz])
            have hpos : (0 : Int) < ((cntF q n k : Nat) : Int) := by omega
            clear hz hcz HTK
            generalize cntF q n k = cc at *
            generalize keyF k = ky at *
            generalize qstr (cQ cc n) = pq at *
            have hD0 := (Below.refl wr.heap.size wr).drew
            have HKR := Lib.hid (fun W (h : Below wr.heap.size wr W) => HKP.out W (HBR.out.trans (h.mono HBR.out.size)))
            have HFL := Lib.hid hfl
            clear hfl
            go_wp2_with fail
            go_region_held3 (fun W => W.cell? ⟨w4.heap.size, k, none⟩ = some (.int .i64 ((cc : Nat) : Int)) ∧ W.cell? ⟨gk, k, none⟩ = some (.string ky))
              (first | with_reducible exact HKR.out _ hD0 | with_reducible exact HKR.out _ (by assumption) | exact hk6 | exact HKR.out _ (hB1.alloc hB1.size _).drew | exact HKR.out _ (hB1.alloc hB1.size _))
              (first
                | (go_at_call 68; refine (lift_sh (w0 := wr) (by assumption) (HS1.out _)).mono ?_; rintro e u1 ⟨rfl, hb1, hB1⟩)
                | (refine step_append_lies _ rfl _ _ _ rfl wk.heap.size 70 i0 (.agg #[.string ⟨#[]⟩, .string ⟨#[]⟩]) 2 32 Tryz.underlying65 hi0 hz0 hz1 hz2 rfl (by decide) _ _ _ rfl ((row_below2 HRW.out hB1).alloc _) ⟨_, 0, none⟩ 1 1 [.string ky, .string pq] rfl rfl (World.news_of_block (heap_alloc_new _ _)) (fun u hu => by simp at hu; rcases hu with rfl | rfl <;> rfl) (by omega) (by unfold maxLen; have := HFL.out; omega) (by have := HFL.out; omega) (by have h1 := HBR.out.size; have h2 := hB1.size; simp; omega) _ rfl ?_; intro gg c6 w6 hown hgrow hat hlt6; have hlt5 := (row_below2 HRW.out hB1).lt; have hbf := (((HBR.out.trans (hB1.mono HBR.out.size)).alloc (Nat.le_trans HBR.out.size hB1.size) (mObj ky pq))).grown hgrow (by have h1 := HBR.out.size; have h2 := hB1.size; simp; omega) (fun q hq => (hlt5 q hq).1); have hk6 := HKP.out _ hbf))
            have HFF := Lib.hid (And.intro hown hbf)
            clear hown hgrow hat hlt6 hlt5 hbf hk6 hb1 hB1 c0 c1 hD0
            go_wp2_with fail
            go_roundw
            case rel => exact ⟨k + 1, by omega, by go_num, by rw [HZZ.out, cellsM_app, List.length_append]; exact HFF.out.1, HFF.out.2⟩
            case measure => simp [intOf]; omega
        · obtain rfl : k = 3 := by omega
          rw [show (lawM q n).take 3 = lawM q n from rfl] at hrw
          have HCK := Lib.hid (show ∀ W, Below wk.heap.size wk W → W.cell? ⟨w4.heap.size, 2, none⟩ = some (.int .i64 ((cLate q n : Nat) : Int)) from fun W h => (h.cell (p := ⟨w4.heap.size, 2, none⟩) (by show w4.heap.size < _; omega)).trans HF.out.2.1.c.2.2)
          have HSM := Lib.hid (Same_mass (row_below2 HF.out.2.2.1 hb) hrw (Nat.le_trans (fltM_len _) (by rw [HLM.out]; omega)))
          have hs2 := fun W => HSH.out W 2
          rw [HLC.out] at hs2
          have HS2 := Lib.hid hs2
          have HBR := Lib.hid hb
          have HBW := Lib.hid HF.out.2.2.2.1
          obtain ⟨xo, xm, xc, rfl⟩ := slice_of_row hrw
          have c2 := HCK.out wr hb
          clear hrw hb hs2 hgw hgs
          go_wp2_with fail
          refine HSM.out.mono ?_
          rintro e w8 ⟨rfl, hb8⟩
          have hb9 := HBR.out.trans (hb8.mono HBR.out.size)
          have d2 := HCK.out w8 hb9
          have HB9 := Lib.hid (HBW.out.trans (hb9.mono HBW.out.size))
          clear hb8 hb9 HSM c2
          go_wp2_with fail
          refine (HS2.out _).mono ?_
          rintro e w9 ⟨rfl, hb9⟩
          have HB10 := Lib.hid (HB9.out.trans (hb9.mono HB9.out.size))
          clear hb9 HS2
          go_wp2_with fail
          go_ret
          exact ⟨ret_bool (by simp), HB10.out⟩

theorem counts_any (p : ByteArray) (n : Int) (w : World) (htab : Tab w) (hm : ML w) :
    Calls Tryz.prog 12 #[.string p, .int .i64 n] w fun e w' => e = .returned (.bool true) ∧ Below w.heap.size w w' := by
  by_cases h1 : 100 < p.size
  · exact counts_far1 p n h1 w htab hm
  by_cases h2 : n < 0
  · exact counts_far2 p n h1 h2 w htab hm
  by_cases h3 : 9 < n
  · exact counts_far3 p n h1 h2 h3 w htab hm
  by_cases hE : prE p = 0
  · obtain ⟨q, rfl, op, _, _, _, hpe⟩ := prob_cases hE
    obtain ⟨m, rfl⟩ : ∃ m : Nat, n = (m : Int) := ⟨n.toNat, by omega⟩
    exact counts_yes op hpe h1 (by omega) w htab hm
  · exact counts_err p n h1 h2 h3 hE w htab hm

end Go.Proofs.YtgeohcpmoleocaaGreatDoor
