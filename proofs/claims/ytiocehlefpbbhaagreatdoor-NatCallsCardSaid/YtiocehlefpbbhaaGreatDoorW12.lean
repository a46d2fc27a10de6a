/-
  The contracts of Digits and Text.
-/
import Derived.Test.YtiocehlefpbbhaaGreatDoorW11
import Derived.StillTailTactics
namespace Go.Proofs.YtiocehlefpbbhaaGreatDoor
open Go.RowKit NV
open Go.Lib (decDigits)
open Go.Sort (putRow cell?_putRow)

theorem Tab.below {w w' : World} (h : Tab w) (hb : Below w.heap.size w w') : Tab w' := Lib.tabBelow_of_tabIs h w' hb

/-- Has n at most MaxDigits digits? -/
def fitB (n : Nat) : Bool := decide ((decDigits n).length ≤ 4000)
theorem fitB_yes {n : Nat} (h : (decDigits n).length ≤ 4000) : fitB n = true := by simp [fitB, h]
theorem fitB_no {n : Nat} (h : ¬ (decDigits n).length ≤ 4000) : fitB n = false := by simp [fitB]; omega

/-- How many digits a limb has, 0 for 0. -/
def nd (t : Nat) : Nat := if t = 0 then 0 else (decDigits t).length
theorem nd_zero : nd 0 = 0 := rfl
theorem nd_pos {t : Nat} (h : t ≠ 0) : nd t = (decDigits t).length := if_neg h
theorem nd_step {t : Nat} (h : t ≠ 0) : nd t = nd (t / 10) + 1 := by
  rw [nd_pos h]
  by_cases h10 : t < 10
  · rw [show t / 10 = 0 by omega, nd_zero, dec_small h10]; rfl
  · rw [nd_pos (by omega), dec_big (by omega), List.length_append]; rfl

set_option maxHeartbeats 800000 in
set_option maxRecDepth 100000 in
/-- Digits counts the decimal digits. -/
theorem digits_any {w : World} {v : Value} {n : Nat} (h : Num w v n) (hn : ln n ≤ 1073741824) :
    Calls Tryz.prog 49 #[v] w fun e w' => e = .returned (.int .i64 ((decDigits n).length : Int)) ∧ w = w' := by
  by_cases h0 : ln n = 0
  · obtain ⟨a, c, rfl⟩ := slice_any h
    have hn0 := ln_eq_zero h0
    have HR := Lib.hid (show (1 : Int) = ((decDigits n).length : Int) by rw [hn0, dec_small (by omega)]; rfl)
    rw [h0]
    clear h h0 hn0
    go_enter Tryz.func49, Tryz.ntmps49
    go_wp2_with fail
    go_ret
    exact ⟨ret_int HR.out, rfl⟩
  · obtain ⟨b, c, rfl, hb, hc⟩ := slice_form h (by omega)
    obtain ⟨m, hm⟩ : ∃ m, ln n = m + 1 := ⟨ln n - 1, by omega⟩
    have c1 := h.cell (j := m) (by omega)
    have ht := dg_top hm
    have hlt := dg_lt n m
    have hl := dec_length hm
    rw [hm]
    rw [hm] at hn
    have HL := Lib.hid (show (decDigits n).length = 9 * m + nd (dg n m) by rw [nd_pos ht, hl])
    clear h h0 hm hl ht
    go_enter Tryz.func49, Tryz.ntmps49
    go_wp2_with fail
    go_loop [3, 4] (fun c t => ∃ C T : Nat, c = .int .i64 (C : Int) ∧ t = .int .u64 (T : Int) ∧ T < 1000000000 ∧ C ≤ 9663676416 + 1000000000 ∧ C + T ≤ 9 * m + 1000000000 ∧ Hid (C + nd T = (decDigits n).length)) (fun _ t => (intOf t).toNat)
    case atStart => exact ⟨9 * m, dg n m, by go_num, rfl, by omega, by omega, by omega, Lib.hid HL.out.symm⟩
    case round =>
      obtain ⟨C, T, rfl, rfl, hT, hC, hCT, hs⟩ := hrel
      by_cases hT0 : 0 < T
      · have HS := Lib.hid (show C + 1 + nd (T / 10) = (decDigits n).length by rw [← hs.out, nd_step (t := T) (by omega)]; omega)
        go_wp2_with fail
        go_round
        case rel => exact ⟨C + 1, T / 10, by go_num, by go_num, by omega, by omega, by omega, HS⟩
        case measure => simp [intOf]; omega
      · obtain rfl : T = 0 := by omega
        have HS := Lib.hid (show C = (decDigits n).length by rw [← hs.out, nd_zero]; rfl)
        go_wp2_with fail
        go_ret
        exact ⟨ret_int (by rw [HS.out]), rfl⟩

/-- The same behind some draws. -/
theorem digits_quiet {w : World} {v : Value} {n : Nat} (h : Num w v n) (hn : ln n ≤ 1073741824) (k : Nat) :
    Calls Tryz.prog 49 #[v] (w.drewN k) fun e w'' => e = .returned (.int .i64 ((decDigits n).length : Int)) ∧ ∃ m, w'' = w.drewN m :=
  (digits_any (h.below (below_drewN (Below.refl _ _) k)) hn).mono (by rintro e w' ⟨rfl, rfl⟩; exact ⟨rfl, k, rfl⟩)

/-- What stands while text writes: the builder holds l, the array is there, nothing older has turned. -/
def TS (w w' : World) (l : List UInt8) : Prop :=
  Bd w' w.heap.size (w.heap.size + 2) (Lib.byteCells l) ∧ Buf w' (w.heap.size + 1) [] ∧ Below w.heap.size w w' ∧ w.heap.size + 2 ≤ w'.heap.size ∧ Tab w'

theorem Kept.below' {b R : Nat} {w w' : World} (h : Kept b R w w') {B : Nat} (hb : B ≤ b) (hR : B ≤ R) : Below B w w' := h.below hb hR

theorem ts_append {w w4 w5 : World} {l d : List UInt8} (htab : Tab w) (h : TS w w4 l) (hb5 : Buf w5 (w.heap.size + 1) d) (hk : Kept (w.heap.size + 1) w4.heap.size w4 w5) : TS w w5 l := by
  obtain ⟨⟨v, h1, h2⟩, _, h4, h5, _⟩ := h
  have hbe : Below w.heap.size w w5 := h4.trans (hk.below (by omega) (by omega))
  refine ⟨⟨v, (hk.block _ (by omega) (by omega)).trans h1, ⟨h2.1, ?_⟩⟩, hb5.nil, hbe, Nat.le_trans h5 hk.size, htab.below hbe⟩
  rcases h2.2 with h' | ⟨g, cap, cur, rfl, hbg, hg, rest⟩
  · exact .inl h'
  · exact .inr ⟨g, cap, cur, rfl, hbg, (hk.block g (Array.getElem?_eq_some_iff.1 hg).1 (by omega)).trans hg, rest⟩

theorem ts_write {w w5 w6 : World} {l l2 : List UInt8} (htab : Tab w) (h : TS w w5 l) (hbd : Bd w6 w.heap.size (w.heap.size + 2) (Lib.byteCells l ++ Lib.byteCells l2)) (hk : Kept w.heap.size (w.heap.size + 2) w5 w6) : TS w w6 (l ++ l2) := by
  obtain ⟨_, h3, h4, h5, _⟩ := h
  have hbe : Below w.heap.size w w6 := h4.trans (hk.below (by omega) (by omega))
  refine ⟨?_, h3.same (hk.block _ (by omega) (by omega)), hbe, Nat.le_trans h5 hk.size, htab.below hbe⟩
  have e : Lib.byteCells (l ++ l2) = Lib.byteCells l ++ Lib.byteCells l2 := by simp [Lib.byteCells]
  rw [e]; exact hbd

theorem bytes_oneCell (l : List UInt8) : ∀ u ∈ Lib.byteCells l, u.oneCell' = true := by
  intro u hu; simp only [Lib.byteCells, List.mem_map] at hu; obtain ⟨b, _, rfl⟩ := hu; rfl

/-- The array's cells from off on are those of the text's rest. -/
theorem buf_cells {w : World} {g off : Nat} {l : List UInt8} (h : Buf w g l) : ∀ j u, (Lib.byteCells (l.drop off))[j]? = some u → w.cell? ((⟨g, off, none⟩ : Addr).add j) = some u := by
  intro j u hj
  rw [Lib.add_plain]
  simp only [Lib.byteCells, List.getElem?_map, Option.map_eq_some_iff] at hj
  obtain ⟨c, hc, rfl⟩ := hj
  rw [List.getElem?_drop] at hc
  exact h.cell hc

set_option maxHeartbeats 3200000 in
set_option maxRecDepth 100000 in
/-- text returns the number's numeral. -/
theorem text_any {w : World} {v : Value} {n : Nat} (h : Num w v n) (hn : ln n ≤ 1000000) (htab : Tab w) :
    Calls Tryz.prog 40 #[v] w fun e w' => e = .returned (.string ⟨(decDigits n).toArray⟩) ∧ Below w.heap.size w w' := by
  by_cases h0 : ln n = 0
  · obtain ⟨a, c, rfl⟩ := slice_any h
    have hn0 := ln_eq_zero h0
    have HR := Lib.hid (show (⟨#[48]⟩ : ByteArray) = ⟨(decDigits n).toArray⟩ by rw [hn0, dec_small (by omega)]; rfl)
    rw [h0]
    clear h0 hn0
    go_enter Tryz.func40, Tryz.ntmps40
    go_wp2_with fail
    go_ret
    exact ⟨by rw [← HR.out]; rfl, Below.refl _ _⟩
  · obtain ⟨b, c, rfl, hb, hc⟩ := slice_form h (by omega)
    obtain ⟨m, hm⟩ : ∃ m, ln n = m + 1 := ⟨ln n - 1, by omega⟩
    have ht := top_eq hm
    rw [hm]
    have hmn : m + 1 ≤ 1000000 := by omega
    have hml : m + 1 ≤ ln n := by omega
    have HM := Lib.hid hm
    have hal : Tryz.prog.arrayLen 82 = 10 := by kernel_rfl
    have hsl : ∀ W, (Instr.sliceAt 82 (.pointer (some ⟨w.heap.size + 1, 0, none⟩)) none (some (.int .i64 0)) none).run Tryz.prog W = .ok (.slice (some ⟨w.heap.size + 1, 0, none⟩) 0 10) W := fun W => by
      rw [run_sliceAt_array_h W 82 ⟨w.heap.size + 1, 0, none⟩ (by kernel_rfl) .i64 0 (by omega) (by rw [hal]; omega), hal]
      rfl
    clear h0 hm hn hal
    go_enter Tryz.func40, Tryz.ntmps40
    go_wp2_with fail
    rw [show (9 * ((m : Int) + 1)) = ((9 * (m + 1) : Nat) : Int) by omega]
    obtain ⟨z, hz⟩ : ∃ z : Array Value, z = #[Value.int IntKind.u8 0, Value.int IntKind.u8 0, Value.int IntKind.u8 0, Value.int IntKind.u8 0, Value.int IntKind.u8 0, Value.int IntKind.u8 0, Value.int IntKind.u8 0, Value.int IntKind.u8 0, Value.int IntKind.u8 0, Value.int IntKind.u8 0] := ⟨_, rfl⟩
    rw [← hz]
    have hz10 : z.size = 10 := by rw [hz]; rfl
    clear hz
    have hbb : ((w.alloc (Obj.cells #[Value.pointer none, Value.slice none 0 0] 81)).alloc (Obj.cells z 82)).heap[w.heap.size]? = some (.cells #[.pointer none, .slice none 0 0] 81 (0, 0)) := (Lib.alloc_old _ _ _ (by simp)).trans (heap_alloc_new w _)
    have hbf : Buf ((w.alloc (Obj.cells #[Value.pointer none, Value.slice none 0 0] 81)).alloc (Obj.cells z 82)) (w.heap.size + 1) [] := by
      refine ⟨z, ?_, hz10, fun j c hj => by simp at hj⟩
      have := heap_alloc_new (w.alloc (Obj.cells #[Value.pointer none, Value.slice none 0 0] 81)) (Obj.cells z 82)
      simpa using this
    have hsz2 : ((w.alloc (Obj.cells #[Value.pointer none, Value.slice none 0 0] 81)).alloc (Obj.cells z 82)).heap.size = w.heap.size + 2 := by simp
    have hbe : Below w.heap.size w ((w.alloc (Obj.cells #[Value.pointer none, Value.slice none 0 0] 81)).alloc (Obj.cells z 82)) := ((Below.refl _ _).alloc (Nat.le_refl _) _).alloc (by simp) _
    generalize (w.alloc (Obj.cells #[Value.pointer none, Value.slice none 0 0] 81)).alloc (Obj.cells z 82) = w2 at hbb hbf hsz2 hbe ⊢
    have hgr := Grow_fresh w.heap.size (w.heap.size + 2) (9 * (m + 1)) w2 (by omega) (by omega) hbb (by omega) (by omega)
    refine hgr.mono ?_
    rintro e w3 ⟨rfl, hbd, hk3⟩
    have hbf3 : Buf w3 (w.heap.size + 1) [] := hbf.same (hk3.block _ (by omega) (by omega))
    have hbe3 : Below w.heap.size w w3 := hbe.trans (hk3.below (by omega) (by omega))
    have hsz3 : w.heap.size + 2 ≤ w3.heap.size := by have := hk3.size; omega
    have HBD := Lib.hid hbd
    have HBF := Lib.hid hbf3
    have hn3 := h.below hbe3
    have c1 := hn3.cell (j := m) hml
    have HT3 := Lib.hid (htab.below hbe3)
    clear hgr hbb hbf hsz2 hbe hk3 hbd hbf3 hz10 hn3
    go_wp2_with fail
    have e1 : (m : Int) + 1 - 1 = (m : Int) := by omega
    have e2 : IntKind.i64.wrap (m : Int) = (m : Int) := IntWalk.i64_in _ (by omega)
    have e3 : (m : Int) < (m : Int) + 1 := by omega
    go_still_tail 7, (by kernel_rfl)
    clear e1 e2
    change wpList _ _ _ _ _ w3.drew
    have hts : TS w w3.drew [] := ⟨HBD.out, HBF.out, hbe3.drew, hsz3, HT3.out⟩
    generalize w3.drew = w4 at hts ⊢
    have hu := dg_lt n m
    have hlen0 := dec_len10 (u := dg n m) (by omega)
    have HU := Lib.hid (AppendUint_any (w.heap.size + 1) (dg n m) (by omega) w4 hts.2.1 (by have := hts.2.2.2.1; omega) hts.2.2.2.2)
    have HTS := Lib.hid hts
    have HTAB := Lib.hid htab
    have HN := Lib.hid h
    clear HBD HBF hbe3 HT3 hsz3 c1 hts htab h
    go_wp2_with fail
    refine HU.out.mono ?_
    rintro e w5 ⟨rfl, hbf5, hk5⟩
    have hts5 := ts_append HTAB.out HTS.out hbf5 hk5
    have HW := Lib.hid (Write_used w.heap.size (w.heap.size + 2) (decDigits (dg n m)).length 10 (Lib.byteCells []) (Lib.byteCells (decDigits (dg n m))) ⟨w.heap.size + 1, 0, none⟩ w5 (by omega) (by have := hts5.2.2.2.1; omega) hts5.1 (Lib.byteCells_length _) (by have := buf_cells (off := 0) hbf5; simpa using this) (bytes_oneCell _) (by simp [Lib.byteCells]; omega))
    have HTS5 := Lib.hid hts5
    clear hbf5 hk5 hts5 HU HTS
    go_wp2_with fail
    refine HW.out.mono ?_
    rintro e w6 ⟨rfl, hbd6, hk6⟩
    have HTS6 := Lib.hid (ts_write (l := []) HTAB.out HTS5.out hbd6 hk6)
    clear hbd6 hk6 HW HTS5
    go_wp2_with fail
    go_loopw [5] (fun i wr => ∃ k : Nat, k ≤ m ∧ i = .int .i64 ((k : Int) - 1) ∧ TS w wr (decDigits (n / B ^ k))) (fun i _ => ((intOf i) + 1).toNat)
    case atStart => exact ⟨m, Nat.le_refl _, by go_num, by rw [ht]; simpa using HTS6.out⟩
    case round =>
      obtain ⟨k, hk, rfl, hts⟩ := hrel
      clear HTS6
      by_cases hk0 : 0 < k
      · obtain ⟨q, rfl⟩ : ∃ q, k = q + 1 := ⟨k - 1, by omega⟩
        have hnr := HN.out.below hts.2.2.1
        have c1 := hnr.cell (j := q) (by omega)
        have hr := dg_lt n q
        have hd := dec_base hr
        have hl := dec_limb (div_pos_of_ln HM.out hk)
        have HU := Lib.hid (AppendUint_any (w.heap.size + 1) (1000000000 + dg n q) (by omega) wr.drew hts.2.1 (by have := hts.2.2.2.1; exact this) hts.2.2.2.2)
        rw [hd] at HU
        have HTS := Lib.hid (show TS w wr.drew (decDigits (n / B ^ (q + 1))) from ⟨hts.1, hts.2.1, hts.2.2.1.drew, hts.2.2.2.1, hts.2.2.2.2⟩)
        have hll : (49 :: pad 9 (dg n q)).length = 10 := by rw [List.length_cons, pad_length]
        rw [hll] at HU
        have HL := Lib.hid hl
        have HBL := Lib.hid (show (Lib.byteCells (decDigits (n / B ^ (q + 1)))).length ≤ 999999000 by
          rw [Lib.byteCells_length]
          have h1 := dec_len_mono (Nat.div_le_self n (B ^ (q + 1)))
          have h2 := dec_length HM.out
          have h3 := dec_len10 (u := dg n m) (by have := dg_lt n m; omega)
          omega)
        clear hts hd hl hll hnr
        go_wp2_with fail
        have e2 : IntKind.u64.wrap (1000000000 + ((dg n q : Nat) : Int)) = 1000000000 + ((dg n q : Nat) : Int) := IntWalk.u64_in _ (by omega)
        have e3 : IntKind.i64.wrap (q : Int) = (q : Int) := IntWalk.i64_in _ (by omega)
        have e4 : (q : Int) < (m : Int) + 1 := by omega
        go_still_tail 6, (by kernel_rfl)
        clear e2 e3 e4
        change wpList _ _ _ _ _ wr.drew
        generalize wr.drew = w7 at HU HTS ⊢
        go_wp2_with fail
        rw [show (1000000000 : Int) + ((dg n q : Nat) : Int) = ((1000000000 + dg n q : Nat) : Int) by omega]
        refine HU.out.mono ?_
        rintro e w8 ⟨rfl, hbf8, hk8⟩
        have hts8 := ts_append HTAB.out HTS.out hbf8 hk8
        have HW := Lib.hid (Write_used w.heap.size (w.heap.size + 2) 9 9 (Lib.byteCells (decDigits (n / B ^ (q + 1)))) (Lib.byteCells (pad 9 (dg n q))) ⟨w.heap.size + 1, 1, none⟩ w8 (by omega) (by have := hts8.2.2.2.1; omega) hts8.1 (by rw [Lib.byteCells_length, pad_length]) (by have := buf_cells (off := 1) hbf8; simpa using this) (bytes_oneCell _) (by have := HBL.out; omega))
        have HTS8 := Lib.hid hts8
        clear hbf8 hk8 hts8 HU HTS
        go_wp2_with fail
        refine HW.out.mono ?_
        rintro e w9 ⟨rfl, hbd9, hk9⟩
        have HTS9 := Lib.hid (ts_write HTAB.out HTS8.out hbd9 hk9)
        clear hbd9 hk9 HW HTS8
        go_wp2_with fail
        go_roundw
        case rel => exact ⟨q, by omega, by go_num, by rw [HL.out]; exact HTS9.out⟩
        case measure => simp [intOf]
      · obtain rfl : k = 0 := by omega
        have HS := Lib.hid (String_used w.heap.size (w.heap.size + 2) (decDigits (n / B ^ 0)) wr (by omega) (by have := hts.2.2.2.1; omega) hts.1)
        have HBE := Lib.hid hts.2.2.1
        clear hts
        go_wp2_with fail
        refine HS.out.mono ?_
        rintro e w9 ⟨rfl, hb9⟩
        have HB9 := Lib.hid hb9
        clear hb9 HS
        go_wp2_with fail
        go_ret
        exact ⟨by simp, HBE.out.trans HB9.out⟩

end Go.Proofs.YtiocehlefpbbhaaGreatDoor
