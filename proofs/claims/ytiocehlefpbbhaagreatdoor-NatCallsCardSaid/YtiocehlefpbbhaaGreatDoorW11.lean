/-
  strconv.AppendUint at base 10 for every number of at most ten digits; strconv.FormatUint.
-/
import Derived.Test.YtiocehlefpbbhaaGreatDoorW10
namespace Go.Proofs.YtiocehlefpbbhaaGreatDoor
open Go.RowKit NV
open Go.Lib (decDigits)
open Go.Sort (putRow cell?_putRow)

/-- The table of powers of ten that internal/strconv reads is as the program's text lays it. -/
def Tab (w : World) : Prop := Lib.TabIs Tryz.prog w "internal/strconv.uint64pow10" .u64 Lib.pow10Tab

set_option maxHeartbeats 12800000 in
set_option maxRecDepth 100000 in
theorem append_big (g u : Nat) (h100 : 100 ≤ u) (hu : u < 10000000000) (w : World) (hb : Buf w g []) (hg : g < w.heap.size) (htab : Tab w) :
    Calls Tryz.prog 87 #[.slice (some ⟨g, 0, none⟩) 0 10, .int .u64 u, .int .i64 10] w fun e w' => e = .returned (.slice (some ⟨g, 0, none⟩) (decDigits u).length 10) ∧ Buf w' g (decDigits u) ∧ Kept g w.heap.size w w' := by
  obtain ⟨i0, hi, hz0, hz1, hz2⟩ := info_parts info5
  have hu1 : 1 ≤ u := by omega
  have hu64 : u < 18446744073709551616 := by omega
  have hnd20 : Lib.nDigits u ≤ 10 := by have := dec_len10 hu; rwa [Lib.decDigits_length] at this
  have hal : Tryz.prog.arrayLen 115 = 24 := by kernel_rfl
  -- 'a[:nd]', for the walk to take
  have hsl : ∀ W, (Instr.sliceAt 115 (.pointer (some ⟨w.heap.size, 0, none⟩)) none (some (.int .i64 (Lib.nDigits u : Int))) none).run Tryz.prog W = .ok (.slice (some ⟨w.heap.size, 0, none⟩) (Lib.nDigits u) 24) W := fun W => by
    rw [run_sliceAt_array_h W 115 ⟨w.heap.size, 0, none⟩ (by kernel_rfl) .i64 (Lib.nDigits u : Int) (by omega) (by rw [hal]; omega)]
    go_simp
  -- formatBase10's contract at the new block's row of zeros
  have hH0 := Lib.holds_zero0 w 115 (Lib.nDigits u) (by omega)
  have hfmt := Tryz.internal_strconv_formatBase10 w.heap.size 0 24 u (Array.replicate (Lib.nDigits u) 0) (w.alloc (.cells Lib.zeros24 115)) hH0 (by rw [Array.size_replicate]; exact Lib.lt_pow_nDigits u) hu64 (by rw [Array.size_replicate]; omega)
  rw [Array.size_replicate] at hfmt
  have HH0 := Lib.hid hH0
  have HFM := Lib.hid hfmt
  have iu : (100 : Int) ≤ (u : Int) := by omega
  have HT := Lib.hid htab
  have HB := Lib.hid hb
  clear hH0 hal hfmt htab hb
  go_enter Tryz.func87, Tryz.ntmps87
  go_wp2_with fail
  refine (Tryz.internal_strconv_numDigits u hu1 hu64 _ (Lib.tabIs_alloc HT.out _)).mono ?_
  rintro e w' ⟨rfl, rfl⟩
  go_wp2_with fail
  refine HFM.out.mono ?_
  rintro e w' ⟨rfl, k, v', dk, rfl, hF⟩
  have hcells : ∀ j u', (Lib.byteCells (decDigits u))[j]? = some u' → ((putRow (fun (b : UInt8) => Value.int .u8 (b.toNat : Int)) (w.alloc (.cells Lib.zeros24 115)) w.heap.size 0 dk).drewN k).cell? ((⟨w.heap.size, 0, none⟩ : Addr).add j) = some u' := by
    intro j u' hj
    have hjl : j < (decDigits u).length := by
      have h5 := (List.getElem?_eq_some_iff.1 hj).1
      rwa [Lib.byteCells_length] at h5
    have e5 : (Lib.byteCells (decDigits u))[j]? = some (Value.int .u8 ((decDigits u)[j].toNat : Int)) := by simp [Lib.byteCells, hjl]
    rw [e5] at hj
    cases hj
    rw [Lib.row_is_numeral hF j hjl, Lib.add_plain, World.cell?_drewN]
    exact cell?_putRow (fun (b : UInt8) => Value.int .u8 (b.toNat : Int)) _ w.heap.size 0 _ dk HH0.out (by rw [hF.size, Array.size_replicate]) j (by rw [hF.size]; rw [Lib.decDigits_length] at hjl; exact hjl)
  obtain ⟨os, eo⟩ := Lib.fin_at w (.cells Lib.zeros24 115) dk k 0
  have hbel : Below w.heap.size w ((putRow (fun (b : UInt8) => Value.int .u8 (b.toNat : Int)) (w.alloc (.cells Lib.zeros24 115)) w.heap.size 0 dk).drewN k) := by rw [eo]; exact Lib.below_grow w.heap.size w (Nat.le_refl _) k os
  generalize (putRow (fun (b : UInt8) => Value.int .u8 (b.toNat : Int)) (w.alloc (.cells Lib.zeros24 115)) w.heap.size 0 dk).drewN k = W2 at hcells hbel ⊢
  obtain ⟨cur, hc1, hc2, _⟩ := HB.out
  have hc3 : W2.heap[g]? = some (.cells cur 82 (0, 0)) := (hbel.block g hg).trans hc1
  have hlen : (Lib.byteCells (decDigits u)).length = Lib.nDigits u := by rw [Lib.byteCells_length, Lib.decDigits_length]
  have hr := run_room (P := Tryz.prog) W2 79 79 5 82 i0 Tryz.underlying79 hi hz1 g 0 10 cur hc3 ⟨w.heap.size, 0, none⟩ (Lib.nDigits u) 24 (Lib.byteCells (decDigits u)) hlen hcells (by intro u' hu'; simp only [Lib.byteCells, List.mem_map] at hu'; obtain ⟨b, _, rfl⟩ := hu'; rfl) (by omega) (by rw [hlen]; omega)
  have hbr := buf_row hc3 hc2 (decDigits u) (dec_len10 hu)
  rw [Nat.zero_add] at hr
  simp only [List.take_zero, List.nil_append, Nat.zero_add, hlen] at hbr
  have HR := Lib.hid hr
  have HBR := Lib.hid hbr
  clear eo HH0 HFM hr hbr hc1 hc3 hcells
  go_wp2_with (at_builtin; refine wpList_append_run _ rfl _ _ 79 79 rfl _ _ _ _ rfl rfl HR.out ?_)
  go_ret
  refine ⟨by rw [Lib.decDigits_length]; rfl, HBR.out, Kept.trans ⟨hbel.os, hbel.tape, hbel.output, hbel.size, fun k h1 _ => hbel.block k h1⟩ (kept_setRow _)⟩

set_option maxHeartbeats 400000 in
/-- strconv.AppendUint at base 10 into an array of ten bytes. -/
theorem AppendUint_any (g u : Nat) (hu : u < 10000000000) (w : World) (hb : Buf w g []) (hg : g < w.heap.size) (htab : Tab w) :
    Calls Tryz.prog 65 #[.slice (some ⟨g, 0, none⟩) 0 10, .int .u64 u, .int .i64 10] w fun e w' => e = .returned (.slice (some ⟨g, 0, none⟩) (decDigits u).length 10) ∧ Buf w' g (decDigits u) ∧ Kept g w.heap.size w w' := by
  have hc : Calls Tryz.prog 87 #[.slice (some ⟨g, 0, none⟩) 0 10, .int .u64 u, .int .i64 10] w fun e w' => e = .returned (.slice (some ⟨g, 0, none⟩) (decDigits u).length 10) ∧ Buf w' g (decDigits u) ∧ Kept g w.heap.size w w' := by
    by_cases h : u < 100
    · exact append_small g u h w hb hg
    · exact append_big g u (by omega) hu w hb hg htab
  have HC := Lib.hid hc
  clear hc hb htab
  go_enter Tryz.func65, Tryz.ntmps65
  go_wp2_with fail
  refine HC.out.mono ?_
  rintro e w' ⟨rfl, h⟩
  have H := Lib.hid h
  clear h
  go_wp2_with fail
  go_ret
  exact ⟨rfl, H.out⟩

end Go.Proofs.YtiocehlefpbbhaaGreatDoor
