/-
  The writer of bits: a strings.Builder within a struct. The last digits of an int, written.
-/
import Derived.Test.YtpkbppfgmpcpcaaGreatDoorGC
import Derived.Lib.Builder
import Derived.Test.YtpkbppfgmpcpcaaGreatDoorB4
import Derived.Deep.RegionWith
import Derived.Lib.RabinKarpLaws
namespace Go.Proofs.YtpkbppfgmpcpcaaGreatDoor
open Go.RowKit NV
open Go.Lib (decDigits)

theorem wlies : liesAt Tryz.prog Tryz.prog.depth 93 (2 / Tryz.prog.cellsOf 93) 0 91 1 = true := by kernel_rfl

set_option maxHeartbeats 1000000 in
set_option maxRecDepth 100000 in
theorem wcheck_fresh (b : Nat) (w : World) (h0 : w.cell? ⟨b, 0, none⟩ = some (.pointer none)) (hsh : w.shape? b = some (93, 2)) (hfz : w.frozen? ⟨b, 0, none⟩ = false) :
    Calls Tryz.prog 190 #[.pointer (some ⟨b, 0, none⟩)] w fun e w' => e = .returned (.tuple #[]) ∧ w.setCell ⟨b, 0, none⟩ (.pointer (some ⟨b, 0, none⟩)) = w' := by
  obtain ⟨j, hj, hjs⟩ := Option.map_eq_some_iff.1 bsize
  go_enter Tryz.func190, Tryz.ntmps190
  go_wp2
  rw [Lib.run_to_unsafe w ⟨b, 0, none⟩ Tryz.underlying89 Tryz.underlying269 hj (by rw [hjs]; decide) hsh (Nat.zero_lt_succ 1)]
  simp only [Result.andThen]
  rw [Oper.upon_value]
  go_wp2
  rw [run_callFunc_extern Tryz.func266 (by kernel_rfl) (by kernel_rfl) (by kernel_rfl) (e := Extern.AbiNoEscape.same) (by kernel_rfl)]
  rw [Lib.run_noEscape]
  simp only [Result.andThen]
  rw [Oper.upon_value]
  go_wp2
  rw [Lib.run_from_unsafe w ⟨b, 0, none⟩ Tryz.underlying269 Tryz.underlying89 hj hsh wlies]
  simp only [Result.andThen]
  rw [Oper.upon_value]
  go_wp2
  go_end0
  exact ⟨rfl, rfl⟩

/-- Block b is a writer that holds bs; its row lies from B on. -/
abbrev Wr (B b : Nat) (bs : List Value) (w : World) : Prop := Lib.IsBuilder 93 5 B b bs w
abbrev WrU (B b : Nat) (bs : List Value) (w : World) : Prop := Lib.BuilderAt 93 5 B b (.pointer (some ⟨b, 0, none⟩)) bs w

theorem wcheck (B b : Nat) (bs : List Value) (w : World) (h : Wr B b bs w) :
    Calls Tryz.prog 190 #[.pointer (some ⟨b, 0, none⟩)] w fun e w' => e = .returned (.tuple #[]) ∧ WrU B b bs w' ∧ Below B w w' := by
  rcases h with h | h
  · refine (wcheck_fresh b w h.cell0 h.shape ?_).mono ?_
    · obtain ⟨_, v, hb, _⟩ := h
      exact Lib.frozen_of_heap hb 0
    · rintro e w' ⟨rfl, rfl⟩
      exact ⟨rfl, h.used _, (Below.refl B w).setCell (p := ⟨b, 0, none⟩) h.1 _⟩
  · refine (copyCheck_used b w h.cell0).mono ?_
    rintro e w' ⟨rfl, rfl⟩
    exact ⟨rfl, h, Below.refl B w⟩

set_option maxHeartbeats 2000000 in
set_option maxRecDepth 100000 in
theorem WriteByte_w (B b : Nat) (bs : List Value) (c : Int) (w : World) (h : Wr B b bs w) (hlen : bs.length + 1 ≤ 140737488355328) (hBw : B ≤ w.heap.size) :
    Calls Tryz.prog 188 #[.pointer (some ⟨b, 0, none⟩), .int .u8 c] w fun e w' => e = .returned .nilIface ∧ WrU B b (bs ++ [.int .u8 c]) w' ∧ Below B w w' := by
  obtain ⟨i0, hi, hz0, hz1, hz2⟩ := info_parts info5
  go_enter Tryz.func188, Tryz.ntmps188
  go_wp2_with fail
  refine (wcheck B b bs w h).mono ?_
  rintro e w1 ⟨rfl, h1, hb1⟩
  obtain ⟨hB, v, hbk, hown, hne⟩ := h1
  have c0 : w1.cell? ⟨b, 0, none⟩ = some (.pointer (some ⟨b, 0, none⟩)) := by rw [Lib.cell_of_heap hbk]; rfl
  have c1 : w1.cell? ⟨b, 1, none⟩ = some v := by rw [Lib.cell_of_heap hbk]; rfl
  go_wp2_with (at_builtin; refine wpList_append_own _ rfl _ _ 24 rfl B 5 i0 (.int .u8 0) 1 1 Tryz.underlying24 hi hz0 hz1 hz2 rfl (by decide) _ _ _ rfl (hown.alloc _) ⟨w1.heap.size, 0, none⟩ 1 1 [.int .u8 c] rfl rfl ?c1 ?c2 ?c3 ?c4 ?c5 ?_)
  case c1 =>
    intro j u hj
    match j, hj with
    | 0, hj => simp at hj; subst hj; simp [Addr.add]
  case c2 => intro u hu; simp at hu; subst hu; rfl
  case c3 => unfold maxLen; omega
  case c4 => omega
  case c5 => have := hb1.size; simp; omega
  intro v' w2 hown' hgrow _
  have hlt : b < w1.heap.size := (Array.getElem?_eq_some_iff.1 hbk).1
  have hb2 : w2.heap[b]? = some (.cells #[.pointer (some ⟨b, 0, none⟩), v] 93 (0, 0)) := by
    rw [hgrow.block b (by simp; omega) (fun e => hne e.symm), Lib.alloc_old w1 _ b hlt]
    exact hbk
  have d0 : w2.cell? ⟨b, 0, none⟩ = some (.pointer (some ⟨b, 0, none⟩)) := by rw [Lib.cell_of_heap hb2]; rfl
  have d1 : w2.cell? ⟨b, 1, none⟩ = some v := by rw [Lib.cell_of_heap hb2]; rfl
  have f1 : w2.frozen? ⟨b, 1, none⟩ = false := Lib.frozen_of_heap hb2 1
  obtain ⟨g, cap, rfl⟩ : ∃ g cap, v' = .slice (some ⟨g, 0, none⟩) (bs.length + 1) cap := by
    rcases hown'.2 with ⟨_, h0⟩ | ⟨g, cap, cur, hv, _⟩
    · omega
    · exact ⟨g, cap, hv⟩
  have hF := Lib.BuilderAt.put (T := 93) (e := 5) hB hb2 (bs' := bs ++ [.int .u8 c]) (by simpa using hown') (by decide)
  have hrow := hown.lt
  have hbel : Below B w (w2.setCell ⟨b, 1, none⟩ (.slice (some ⟨g, 0, none⟩) (bs.length + 1) cap)) := by
    refine Below.setCell (p := ⟨b, 1, none⟩) ((hb1.alloc (by have := hb1.size; omega) _).grown hgrow (by have := hb1.size; simp; omega) (fun k hk => (hrow k hk).1)) hB _
  have HF := Lib.hid (And.intro hF hbel)
  clear hF hbel hown hown' hgrow hbk hb2 hrow
  go_wp2_with fail
  go_ret
  exact ⟨rfl, HF.out.1, HF.out.2⟩

theorem cells8 : Tryz.prog.cellsOf 5 = 1 := by kernel_rfl

set_option maxHeartbeats 2000000 in
set_option maxRecDepth 100000 in
/-- String of a writer that holds some bits. -/
theorem String_w (B b : Nat) (l : List UInt8) (w : World) (h : Wr B b (Lib.byteCells l) w) (h0 : l ≠ []) :
    Calls Tryz.prog 186 #[.pointer (some ⟨b, 0, none⟩)] w fun e w' => e = .returned (.string ⟨l.toArray⟩) ∧ Below B w w' := by
  obtain ⟨p, hB, v, hbk, hown, hne⟩ : ∃ p, Lib.BuilderAt 93 5 B b p (Lib.byteCells l) w := by
    rcases h with h | h
    · exact ⟨_, h⟩
    · exact ⟨_, h⟩
  have hl0 : l.length ≠ 0 := by simpa using h0
  rw [Lib.byteCells_length] at hown
  obtain ⟨g, cap, cur, rfl, hbg, hg, hnc, hcm, hcs, htake⟩ : ∃ g cap cur, v = .slice (some ⟨g, 0, none⟩) l.length cap ∧ B ≤ g ∧ w.heap[g]? = some (.cells cur 5 (0, 0)) ∧ l.length ≤ cap ∧ cap ≤ maxLen ∧ cur.size = cap * 1 ∧ cur.toList.take (l.length * 1) = Lib.byteCells l := by
    rcases hown.2 with ⟨_, hz⟩ | ⟨g, cap, cur, hv, r⟩
    · exact absurd hz hl0
    · exact ⟨g, cap, cur, hv, r⟩
  have c1 : w.drew.cell? ⟨b, 1, none⟩ = some (.slice (some ⟨g, 0, none⟩) l.length cap) := by
    have : w.drew.heap[b]? = some (.cells #[p, .slice (some ⟨g, 0, none⟩) l.length cap] 93 (0, 0)) := hbk
    rw [Lib.cell_of_heap this]; rfl
  have hSD : (Builtin.unsafeSliceData_ #[24] 268 #[.slice (some ⟨g, 0, none⟩) l.length cap]).run Tryz.prog w.drew = .ok (.pointer (some ⟨g, 0, none⟩)) w.drew :=
    Lib.run_unsafeSliceData_row _ _ _ _ _ _ (by omega)
  have hUS : (Builtin.unsafeString_ #[268, 3] 9 #[.pointer (some ⟨g, 0, none⟩), .int .i64 l.length]).run Tryz.prog w.drew = .ok (.string ⟨l.toArray⟩) (w.drew.freeze ⟨g, 0, none⟩ l.length) := by
    refine Lib.run_unsafeString_row w.drew 268 3 9 5 Tryz.underlying268 cells8 g cur.size (by have hg' : w.drew.heap[g]? = some (.cells cur 5 (0, 0)) := hg; simp [World.shape?, hg']) l h0 (by omega) (by unfold maxLen at hcm; omega) ?_
    intro j x hx
    have := hown.cells (g := g) rfl j (.int .u8 x.toNat) (by simp [Lib.byteCells, hx])
    exact this
  clear htake hbk hown hg
  go_enter Tryz.func186, Tryz.ntmps186
  go_wp2
  go_region
  all_goals (go_wp2; go_ret; exact ⟨rfl, Lib.below_freeze (Below.drew (Below.refl B w)) (p := ⟨g, 0, none⟩) hbg _⟩)

set_option maxHeartbeats 2000000 in
set_option maxRecDepth 100000 in
/-- String of a writer in which nothing has been written. -/
theorem String_fresh (b : Nat) (w : World) (hbk : w.heap[b]? = some (.cells #[.pointer none, .slice none 0 0] 93 (0, 0))) :
    Calls Tryz.prog 186 #[.pointer (some ⟨b, 0, none⟩)] w fun e w' => e = .returned (.string ⟨#[]⟩) ∧ Below w.heap.size w w' := by
  have c1 : w.drew.cell? ⟨b, 1, none⟩ = some (.slice none 0 0) := by
    have : w.drew.heap[b]? = _ := hbk
    rw [Lib.cell_of_heap this]; rfl
  have hSD : (Builtin.unsafeSliceData_ #[24] 268 #[.slice none 0 0]).run Tryz.prog w.drew = .ok (.pointer none) w.drew := rfl
  have hUS : (Builtin.unsafeString_ #[268, 3] 9 #[.pointer none, .int .i64 0]).run Tryz.prog w.drew = .ok (.string .empty) w.drew := Lib.run_unsafeString_none w.drew _ _ _ _
  clear hbk
  go_enter Tryz.func186, Tryz.ntmps186
  go_wp2
  go_region
  all_goals (go_wp2; go_ret; exact ⟨rfl, (Below.refl _ w).drew⟩)

set_option maxHeartbeats 800000 in
theorem text_w (B b : Nat) (l : List UInt8) (w : World) (h : Wr B b (Lib.byteCells l) w) (h0 : l ≠ []) :
    Calls Tryz.prog 100 #[.pointer (some ⟨b, 0, none⟩)] w fun e w' => e = .returned (.string ⟨l.toArray⟩) ∧ Below B w w' := by
  have HS := Lib.hid (String_w B b l w h h0)
  have c0 : ∃ p, w.cell? ⟨b, 0, none⟩ = some p := by rcases h with h | h <;> exact ⟨_, h.cell0⟩
  clear h
  go_enter Tryz.func100, Tryz.ntmps100
  go_wp2_with fail
  refine HS.out.mono ?_
  rintro e w1 ⟨rfl, hb⟩
  have HB := Lib.hid hb
  clear hb HS
  go_wp2_with fail
  go_ret
  exact ⟨rfl, HB.out⟩

set_option maxHeartbeats 800000 in
theorem text_fresh (b : Nat) (w : World) (h : w.heap[b]? = some (.cells #[.pointer none, .slice none 0 0] 93 (0, 0))) :
    Calls Tryz.prog 100 #[.pointer (some ⟨b, 0, none⟩)] w fun e w' => e = .returned (.string ⟨#[]⟩) ∧ Below w.heap.size w w' := by
  have HS := Lib.hid (String_fresh b w h)
  clear h
  go_enter Tryz.func100, Tryz.ntmps100
  go_wp2_with fail
  refine HS.out.mono ?_
  rintro e w1 ⟨rfl, hb⟩
  have HB := Lib.hid hb
  clear hb HS
  go_wp2_with fail
  go_ret
  exact ⟨rfl, HB.out⟩

open Go.RowKit NV
open Go.Lib (decDigits)

/-- The digit of k at place i. -/
def bitB (k i : Nat) : UInt8 := UInt8.ofNat (48 + k / 2 ^ i % 2)
/-- The first m of the last n binary digits of k. -/
def topBits (k n : Nat) : Nat → List UInt8
  | 0 => []
  | m + 1 => topBits k n m ++ [bitB k (n - 1 - m)]
/-- The last n binary digits of k. -/
def wbits (k n : Nat) : List UInt8 := topBits k n n

theorem bitB_nat (k i : Nat) : (bitB k i).toNat = 48 + k / 2 ^ i % 2 := by
  unfold bitB
  have : k / 2 ^ i % 2 < 2 := Nat.mod_lt _ (by omega)
  rw [UInt8.toNat_ofNat']
  omega
theorem top_len (k n : Nat) : ∀ m, (topBits k n m).length = m
  | 0 => rfl
  | m + 1 => by rw [topBits, List.length_append, top_len k n m]; rfl
theorem top_bits (k n : Nat) : ∀ m, IsBits (topBits k n m)
  | 0 => fun _ h => by simp [topBits] at h
  | m + 1 => fun c h => by
    rw [topBits] at h
    rcases List.mem_append.1 h with h | h
    · exact top_bits k n m c h
    · rw [List.mem_singleton] at h
      have h2 : k / 2 ^ (n - 1 - m) % 2 < 2 := Nat.mod_lt _ (by omega)
      rw [h, bitB]
      rcases (show k / 2 ^ (n - 1 - m) % 2 = 0 ∨ k / 2 ^ (n - 1 - m) % 2 = 1 by omega) with h3 | h3
      · left; rw [h3]; rfl
      · right; rw [h3]; rfl
theorem top_val {k n : Nat} (hk : k < 2 ^ n) : ∀ m, m ≤ n → bv (topBits k n m) = k / 2 ^ (n - m)
  | 0, _ => by rw [Nat.sub_zero, Nat.div_eq_of_lt hk]; rfl
  | m + 1, h => by
    rw [topBits, bv_append, top_val hk m (by omega)]
    have h1 : bv [bitB k (n - 1 - m)] = k / 2 ^ (n - 1 - m) % 2 := by
      show 2 * 0 + ((bitB k (n - 1 - m)).toNat - 48) = _
      rw [bitB_nat]; omega
    rw [h1, show n - (m + 1) = n - 1 - m by omega, show n - m = (n - 1 - m) + 1 by omega, Nat.pow_succ, ← Nat.div_div_eq_div_mul]
    simp only [List.length_cons, List.length_nil]
    omega
theorem wbits_len (k n : Nat) : (wbits k n).length = n := top_len k n n
theorem wbits_bits (k n : Nat) : IsBits (wbits k n) := top_bits k n n
theorem wbits_val {k n : Nat} (hk : k < 2 ^ n) : bv (wbits k n) = k := by unfold wbits; rw [top_val hk n (Nat.le_refl _), Nat.sub_self, Nat.pow_zero, Nat.div_one]

theorem Wr.drew {B b : Nat} {bs : List Value} {w : World} (h : Wr B b bs w) : Wr B b bs w.drew := h
theorem bit_val (k i : Nat) (hk : k < 9223372036854775808) : IntKind.u8.wrap (48 + IntKind.u8.wrap (bits BinOp.and IntKind.i64 ((k : Int) / 2 ^ i) 1)) = (((bitB k i).toNat : Nat) : Int) := by
  have h1 : ((k : Int) / 2 ^ i) = ((k / 2 ^ i : Nat) : Int) := by simp
  rw [h1, and_one _ (Nat.lt_of_le_of_lt (Nat.div_le_self _ _) hk), bitB_nat]
  have h2 : k / 2 ^ i % 2 < 2 := Nat.mod_lt _ (by omega)
  simp [IntKind.wrap, IntKind.signed, IntKind.bits]
  omega

set_option maxHeartbeats 3200000 in
set_option maxRecDepth 100000 in
theorem writeLast_any (B b k n : Nat) (l : List UInt8) (w : World) (h : Wr B b (Lib.byteCells l) w) (hk : k < 9223372036854775808) (hn : n ≤ 63) (hl : l.length ≤ 1000000) (hBw : B ≤ w.heap.size) :
    Calls Tryz.prog 106 #[.pointer (some ⟨b, 0, none⟩), .int .i64 (k : Int), .int .i64 (n : Int)] w fun e w' =>
      e = .returned (.tuple #[]) ∧ Wr B b (Lib.byteCells (l ++ wbits k n)) w' ∧ (n = 0 → w' = w) ∧ Below B w w' := by
  have HH := Lib.hid h
  have HB0 := Lib.hid hBw
  clear h
  go_enter Tryz.func106, Tryz.ntmps106
  go_wp2_with fail
  go_loopw [6] (fun i wr => ∃ j : Nat, j ≤ n ∧ i = .int .i64 ((j : Int) - 1) ∧ Wr B b (Lib.byteCells (l ++ topBits k n (n - j))) wr ∧ Hid (j = n → wr = w) ∧ Below B w wr) (fun i _ => (intOf i + 1).toNat)
  case atStart => exact ⟨n, Nat.le_refl _, rfl, by rw [Nat.sub_self]; simpa [topBits] using HH.out, Lib.hid (fun _ => rfl), Below.refl _ _⟩
  case round =>
    obtain ⟨j, hj, rfl, hw, hs, hb⟩ := hrel
    cases j with
    | zero =>
      have HW := Lib.hid hw
      have HB := Lib.hid hb
      clear hw hb
      go_wp2_with fail
      go_end0
      exact ⟨rfl, by rw [Nat.sub_zero] at HW; exact HW.out, fun e => hs.out e.symm, HB.out⟩
    | succ i =>
      have hi : (((i + 1 : Nat) : Int) - 1) = (i : Int) := by omega
      rw [hi]
      have c0 : ∃ p, wr.cell? ⟨b, 0, none⟩ = some p := by rcases hw with h | h <;> exact ⟨_, h.cell0⟩
      have HWB := Lib.hid (fun (W : World) (hW : Wr B b (Lib.byteCells (l ++ topBits k n (n - (i + 1)))) W) (hB : B ≤ W.heap.size) => WriteByte_w B b (Lib.byteCells (l ++ topBits k n (n - (i + 1)))) (((bitB k i).toNat : Nat) : Int) W hW (by rw [Lib.byteCells_length, List.length_append, top_len]; omega) hB)
      have HW := Lib.hid hw
      have HB := Lib.hid hb
      have HI := Lib.hid hi
      have HBW := Lib.hid (show B ≤ wr.drew.heap.size from Nat.le_trans HB0.out hb.size)
      clear hw hb hi
      go_wp2_with fail
      go_region_with (rw [bit_val _ _ hk]; refine (HWB.out _ HW.out.drew HBW.out).mono ?_; rintro e w2 ⟨rfl, hw2, hb2⟩)
      all_goals (
        have HW2 := Lib.hid hw2
        have HB2 := Lib.hid (HB.out.drew.trans hb2)
        clear hw2 hb2
        go_wp2_with fail
        go_roundw
        case rel => exact ⟨i, by omega, rfl, .inr (by
          have h1 := HW2.out
          rw [show n - i = (n - (i + 1)) + 1 by omega, topBits, ← List.append_assoc, show n - 1 - (n - (i + 1)) = i by omega]
          have h2 : Lib.byteCells (l ++ topBits k n (n - (i + 1)) ++ [bitB k i]) = Lib.byteCells (l ++ topBits k n (n - (i + 1))) ++ [.int .u8 (((bitB k i).toNat : Nat) : Int)] := by simp [Lib.byteCells]
          rw [h2]; exact h1), Lib.hid (fun e => by omega), HB2.out⟩
        case measure => simp [intOf])

end Go.Proofs.YtpkbppfgmpcpcaaGreatDoor
