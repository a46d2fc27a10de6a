/-
  Package bell: the key of a value; how outcomes are compared. Package bell: outcomes sorted. Package bell: the distribution of the values. Package bell: Exact and Law. Same of numbers; lives of layer 7.
-/
import Derived.Test.YteojekiocecdnaaGreatDoorJA
import Derived.Test.YteojekiocecdnaaGreatDoorGO
import Derived.Test.YteojekiocecdnaaGreatDoorSf
import Derived.Test.YteojekiocecdnaaGreatDoorEE
import Derived.Test.YteojekiocecdnaaGreatDoorY1
import Derived.Test.YteojekiocecdnaaGreatDoorHR
import Derived.Shelf.SlSortCmp.NoneTotal
import Derived.Test.YteojekiocecdnaaGreatDoorEC
import Derived.Test.YteojekiocecdnaaGreatDoorHL
namespace Go.Proofs.YteojekiocecdnaaGreatDoor
open Go.RowKit NV
open Go.Lib (decDigits)

/-- The text of an int. -/
def kT (k : Int) : ByteArray := ⟨(Lib.itoa k).toArray⟩
theorem kT_nat (k : Nat) : kT (k : Int) = dstr k := by
  unfold kT
  rw [Lib.itoa, if_neg (by omega)]
  rfl

theorem itoaJ (k : Int) (h0 : -1000 ≤ k) (h1 : k ≤ 1000) (w : World) (htab : Tab w) : Calls Tryz.prog 150 #[.int .i64 k] w fun e w' => e = .returned (.string (kT k)) ∧ Below w.heap.size w w' :=
  (Tryz.strconv_Itoa k (by omega) (by omega) w htab).mono fun e w' ⟨h, k, os, hw⟩ => ⟨h, hw ▸ Lib.below_grow w.heap.size w (Nat.le_refl _) k os⟩
theorem atoiJ (i : Nat) (hi : i ≤ 1000) (w : World) : Calls Tryz.prog 216 #[.string (dstr i)] w fun e w' => e = .returned (.tuple #[.int .i64 (i : Int), .nilIface]) ∧ Below w.heap.size w w' := by
  have hs : (dstr i).size ≤ 9223372036854775806 := by
    have := small_str (ok_smallP (n := i) (k := 4) (by omega) (by omega))
    omega
  refine (Tryz.strconv_Atoi_ok (dstr i) hs (i : Int) (by rw [dstr_list]; exact atoi_dec i (by omega)) w).mono ?_
  rintro e w' ⟨h, hw⟩
  refine ⟨h, ?_⟩
  rcases hw with rfl | ⟨t, rfl⟩
  · exact Below.refl _ _
  · exact Lib.bytesWorld_below _ _ _

set_option maxHeartbeats 1600000 in
theorem valueOf_num {i n : Nat} (hi : i ≤ 100) (hn : n ≤ 16) (w : World) (htab : Tab w) :
    Calls Tryz.prog 167 #[.string (dstr i), .int .i64 (n : Int)] w fun e w' => e = .returned (.string (kT ((i : Int) - (n : Int)))) ∧ Below w.heap.size w w' := by
  have HA := Lib.hid (atoiJ i (by omega) w)
  have HI := Lib.hid (fun W (h : Below w.heap.size w W) => itoaJ ((i : Int) - (n : Int)) (by omega) (by omega) W (htab.below h))
  generalize kT ((i : Int) - (n : Int)) = s2 at *
  generalize dstr i = s at *
  clear htab
  go_enter Tryz.func167, Tryz.ntmps167
  go_wp2_with fail
  refine HA.out.mono ?_
  rintro e w1 ⟨rfl, hb⟩
  have HB := Lib.hid hb
  clear hb HA
  go_wp2_with fail
  refine (HI.out _ HB.out).mono ?_
  rintro e w2 ⟨rfl, hb⟩
  replace HB := Lib.hid (HB.out.trans (hb.mono HB.out.size))
  clear hb HI
  go_wp2_with fail
  go_ret
  exact ⟨rfl, HB.out⟩

open Go.RowKit NV
open Go.Lib (decDigits)
open Go.Sort (grow grow_grow alloc_eq_grow HoldsK putRowK SWO SortedIn PermIn flatK)

/-- An outcome's two cells. -/
def encI (x : Item) : List Value := [.string x.1, .string x.2]
abbrev cfI (x y : Item) : Int := Lib.compareBytes x.1.data.toList y.1.data.toList
theorem cmpB_lt : ∀ (l m : List UInt8), Lib.compareBytes l m < 0 ↔ l < m
  | [], [] => by simp [Lib.compareBytes]
  | [], b :: m => by simp [Lib.compareBytes]
  | a :: l, [] => by simp [Lib.compareBytes]
  | a :: l, b :: m => by
    rw [Lib.compareBytes, List.cons_lt_cons_iff]
    by_cases h1 : a < b
    · rw [if_pos h1]; simp [h1]
    · rw [if_neg h1]
      by_cases h2 : b < a
      · rw [if_pos h2]
        constructor
        · intro h; omega
        · rintro (h | ⟨h, _⟩)
          · exact absurd h h1
          · subst h; exact absurd h2 h1
      · rw [if_neg h2, cmpB_lt l m]
        have e : a = b := UInt8.le_antisymm (UInt8.not_lt.1 h2) (UInt8.not_lt.1 h1)
        subst e; simp [UInt8.lt_irrefl]
theorem ltI (x y : Item) : ltOf cfI x y = decide (keyI x < keyI y) := by
  unfold ltOf
  exact decide_eq_decide.2 (cmpB_lt _ _)
theorem swoI : SWO (ltOf cfI) where
  irrefl x := by rw [ltI]; exact decide_eq_false (List.lt_irrefl _)
  trans x y z h1 h2 := by
    rw [ltI, decide_eq_true_eq] at *
    exact List.lt_trans h1 h2
  ntrans x y z h1 h2 := by
    rw [ltI, decide_eq_false_iff_not, List.not_lt] at *
    exact List.le_trans h2 h1

set_option maxHeartbeats 1600000 in
set_option maxRecDepth 100000 in
theorem ocompare_any (x y : Item) (W : World) :
    Calls Tryz.prog 169 #[.agg #[.string x.1, .string x.2], .agg #[.string y.1, .string y.2]] W fun e w' => e = .returned (.int .i64 (Lib.compareBytes x.1.data.toList y.1.data.toList)) ∧ ∃ q os', w' = grow (W.drewN q) os' := by
  have HC := Lib.hid (fun W' => Tryz.strings_Compare x.1 y.1 W')
  generalize Lib.compareBytes x.1.data.toList y.1.data.toList = r at *
  go_enter Tryz.func169, Tryz.ntmps169
  go_wp2_with fail
  refine (HC.out _).mono ?_
  rintro e w1 ⟨rfl, rfl⟩
  go_wp2_with fail
  go_ret
  exact ⟨rfl, 0, _, by rw [alloc_eq_grow, alloc_eq_grow, grow_grow]; rfl⟩


theorem isAgg_out (w : World) : (isAgg 198).run Tryz.prog w = .ok true w := Tryz.isAgg198 w
theorem sizeOf_out (w : World) : (Go.sizeOf 198).run Tryz.prog w = .ok 2 w := Tryz.sizeOf198 w

/-- Outcomes in memory. -/
def OA (w : World) (g : Nat) (L : List Item) : Prop := HoldsK encI 2 w g 0 L.toArray ∧ g < w.heap.size ∧ ∃ cur, w.heap[g]? = some (.cells cur 198 (0, 0))
theorem OA.c {w : World} {g : Nat} {L : List Item} (h : OA w g L) {k : Nat} {x y : ByteArray} (hk : L[k]? = some (x, y)) : w.cell? ⟨g, k * 2, none⟩ = some (.string x) ∧ w.cell? ⟨g, k * 2 + 1, none⟩ = some (.string y) := by
  have hl := (List.getElem?_eq_some_iff.1 hk).1
  have e : L.toArray[k]! = (x, y) := by
    rw [getElem!_pos L.toArray k (by simpa using hl)]
    exact (List.getElem?_eq_some_iff.1 hk).2
  have h0 := (Go.Sort.HoldsK.cell h.1 (i := k) (c := 0) (by simpa using hl) (by omega)).1
  have h1 := (Go.Sort.HoldsK.cell h.1 (i := k) (c := 1) (by simpa using hl) (by omega)).1
  rw [e] at h0 h1
  rw [Nat.zero_add] at h0 h1
  exact ⟨h0, h1⟩
theorem OA.below {w w' : World} {g : Nat} {L : List Item} (h : OA w g L) (hb : Below w.heap.size w w') : OA w' g L :=
  ⟨fun j hj => ⟨(hb.cell (p := ⟨g, 0 + j, none⟩) h.2.1).trans (h.1 j hj).1, (hb.frozen (p := ⟨g, 0 + j, none⟩) h.2.1).trans (h.1 j hj).2⟩, Nat.lt_of_lt_of_le h.2.1 hb.size, by obtain ⟨cur, hc⟩ := h.2.2; exact ⟨cur, (hb.block g h.2.1).trans hc⟩⟩
theorem OA.row {w : World} {base g cap : Nat} {L : List Item} (h : w.ownsRow base 198 2 (.slice (some ⟨g, 0, none⟩) L.length cap) L.length (cellsI L)) : OA w g L := by
  refine ⟨fun j hj => ?_, row_blt h, by rcases h.2 with ⟨hv, _⟩ | ⟨g', cap', cur, hv, hb, hg, _⟩
                                        · cases hv
                                        · cases hv; exact ⟨cur, hg⟩⟩
  have hj2 : j < L.length * 2 := by simpa using hj
  have hk : j / 2 < L.length := by omega
  obtain ⟨c0, c1⟩ := cellsI_get L (j / 2) L[j / 2] (List.getElem?_eq_getElem hk)
  have e : L.toArray[j / 2]! = L[j / 2] := by
    rw [getElem!_pos L.toArray (j / 2) (by simpa using hk)]; rfl
  obtain ⟨x, hx⟩ : ∃ x, x = L[j / 2] := ⟨_, rfl⟩
  rw [← hx] at c0 c1 e
  clear hx
  rw [Go.Sort.get_flatK _ _ _ _ (by simpa using hj2), e]
  refine ⟨?_, by rw [Nat.zero_add]; exact h.frozenAt j⟩
  have hc := fun u (hu : (cellsI L)[j]? = some u) => h.cells (g := g) rfl j u hu
  rw [Addr.add_lit] at hc
  rcases Nat.mod_two_eq_zero_or_one j with hm | hm
  · rw [hm]
    rw [show j / 2 * 2 = j by omega] at c0
    exact hc _ c0
  · rw [hm]
    rw [show j / 2 * 2 + 1 = j by omega] at c1
    exact hc _ c1

theorem OA.other {w w' : World} {row : Option Nat} {g : Nat} {L : List Item} (h : OA w g L) (hg : w.grownBy w' row) (hne : some g ≠ row) : OA w' g L :=
  ⟨fun j hj => ⟨(hg.cell_far ⟨g, 0 + j, none⟩ h.2.1 hne).trans (h.1 j hj).1, (hg.frozen_far ⟨g, 0 + j, none⟩ h.2.1 hne).trans (h.1 j hj).2⟩, Nat.lt_of_lt_of_le h.2.1 hg.size, by obtain ⟨cur, hc⟩ := h.2.2; exact ⟨cur, (hg.block g h.2.1 hne).trans hc⟩⟩
theorem OA.not_row {w : World} {g base n : Nat} {v : Value} {xs : List Value} {L : List Item} (h : OA w g L) (hr : w.ownsRow base 38 2 v n xs) : v.ownBlock ≠ some g := by
  intro e
  obtain ⟨cur, hc⟩ := h.2.2
  rcases hr.2 with ⟨hv, _⟩ | ⟨g', cap', cur', hv, hb, hg, _⟩
  · rw [hv] at e; cases e
  · rw [hv] at e
    simp [Value.ownBlock] at e
    subst e
    rw [hc] at hg
    simp at hg

set_option maxHeartbeats 3200000 in
set_option maxRecDepth 100000 in
theorem osort_any {w : World} {g cap : Nat} {L : List Item} (h : OA w g L) (hl : L.length ≤ 1000) (hn : (L.map keyI).Nodup) :
    Calls Tryz.prog 168 #[.slice (some ⟨g, 0, none⟩) L.length cap, .func (.func 169) #[] #[]] w fun e w' => (∃ v, e = .returned v) ∧ OA w' g (sortI L) ∧ Ch (fun j => j = g) w w' := by
  have eg : ∀ args w, (callFunc 169 args).run Tryz.prog w = .ok (.enter 169 args) w := enters_of Tryz.func169 (by kernel_rfl) rfl
  have hcon := AnyQ.slices_SortFunc Tryz.sort168 2 isAgg_out sizeOf_out encI (fun _ => rfl) (fun x v hv => by simp [encI] at hv; rcases hv with rfl | rfl <;> rfl) cfI swoI 169 #[] g 0 cap L.toArray w eg (fun _ _ _ _ x y => ocompare_any x y _) h.1 h.2.1 (by simp; omega)
  change Calls Tryz.prog 168 _ _ _ at hcon
  rw [show L.toArray.size = L.length by simp] at hcon
  refine hcon.mono ?_
  rintro e w' ⟨rfl, d', n, os, ⟨hs, _, hp⟩, hsort, rfl⟩
  have hs' : d'.size = L.length := by simpa using hs
  have hd : d'.toList = sortI L := by
    refine sortI_eq ?_ hn ?_
    · have h1 : (d'.extract 0 L.length).toList = d'.toList := by rw [← hs']; simp
      have h2 : (L.toArray.extract 0 L.length).toList = L := by simp
      rw [h1, h2] at hp; exact hp
    · rw [List.pairwise_iff_getElem]
      intro i j hi hj hij
      have hi' : i < d'.size := by simpa using hi
      have hj' : j < d'.size := by simpa using hj
      have h3 := hsort i j (Nat.zero_le _) hij (by omega)
      rw [ltI, decide_eq_false_iff_not, List.not_lt, getElem!_pos d' i hi', getElem!_pos d' j hj'] at h3
      simpa using h3
  have hA : d' = (sortI L).toArray := by rw [← hd]
  refine ⟨⟨_, rfl⟩, ⟨?_, by have := h.2.1; simp [sortWorldK, Go.Sort.putRowK]; omega, ?_⟩, ?_⟩
  · rw [← hA]
    exact Go.Sort.holdsK_grow encI 2 _ _ _ _ _ (by have := h.2.1; simpa [Go.Sort.putRowK] using this) (Go.Sort.holdsK_putRowK encI 2 _ _ _ L.toArray d' (Go.Sort.holdsK_ahead encI 2 _ _ _ _ _ h.1) (by simpa using hs'))
  · obtain ⟨cur, hc⟩ := h.2.2
    refine ⟨Go.Sort.putCells id 0 (flatK encI 2 d') cur, ?_⟩
    rw [sortWorldK, Go.Sort.heap_grow_old _ _ (by have := h.2.1; simpa [Go.Sort.putRowK] using this)]
    simp [Go.Sort.putRowK, Go.Sort.putRow, Go.Sort.mapBlock, Go.Sort.ahead, Array.getElem?_modify, hc, Go.Sort.onCells]
  · refine ⟨rfl, rfl, rfl, by simp [sortWorldK, Go.Sort.putRowK], fun k hk hne => ?_⟩
    rw [sortWorldK, Go.Sort.heap_grow_old _ _ (by simpa [Go.Sort.putRowK] using hk)]
    have : g ≠ k := fun e => hne e.symm
    simp [Go.Sort.putRowK, Go.Sort.putRow, Go.Sort.mapBlock, Go.Sort.ahead, Array.getElem?_modify, this]

open Go.RowKit NV
open Go.Lib (decDigits)

theorem infoOut : (Tryz.prog.info? 198).map (fun i => (i.zero, i.size, i.bytes)) = some (some (.agg #[.string ⟨#[]⟩, .string ⟨#[]⟩]), 2, 32) := by kernel_rfl
theorem infoMassJ : (Tryz.prog.info? 38).map (fun i => (i.zero, i.size, i.bytes)) = some (some (.agg #[.string ⟨#[]⟩, .string ⟨#[]⟩]), 2, 32) := by kernel_rfl

/-- Masses in memory. -/
def MR (w : World) (ao : Option Addr) (L : List Item) : Prop :=
  L.length = 0 ∨ ∃ g, ao = some ⟨g, 0, none⟩ ∧ g < w.heap.size ∧ ∀ (k : Nat) (x y : ByteArray), L[k]? = some (x, y) → w.cell? ⟨g, k * 2, none⟩ = some (.string x) ∧ w.cell? ⟨g, k * 2 + 1, none⟩ = some (.string y)
theorem MR.row {w : World} {base cap : Nat} {ao : Option Addr} {L : List Item} (h : w.ownsRow base 38 2 (.slice ao L.length cap) L.length (cellsI L)) : MR w ao L := by
  rcases h.2 with ⟨hv, h0⟩ | ⟨g, cap', cur, hv, hb, hg, _⟩
  · exact .inl h0
  · cases hv
    refine .inr ⟨g, rfl, (Array.getElem?_eq_some_iff.1 hg).1, fun k x y hk => ?_⟩
    obtain ⟨h1, h2⟩ := cellsI_get L k (x, y) hk
    have a := h.cells (g := g) rfl (k * 2) _ h1
    have b := h.cells (g := g) rfl (k * 2 + 1) _ h2
    rw [Addr.add_lit, Nat.zero_add] at a b
    exact ⟨a, b⟩

/-- In the middle of a round of centred: the mass at hand, the outcomes so far. -/
def CenS (w : World) (B : Nat) (x1 x2 : ByteArray) (s5 : Value) (k : Nat) (xs : List Value) (W : World) : Prop :=
  W.cell? ⟨B, 0, none⟩ = some (.string x1) ∧ W.cell? ⟨B, 1, none⟩ = some (.string x2) ∧ W.ownsRow w.heap.size 198 2 s5 k xs ∧ Below w.heap.size w W
theorem cell_lt {w : World} {a : Addr} {v : Value} (h : w.cell? a = some v) : a.block < w.heap.size := World.block_lt_of_cell? w a h
theorem CenS.drewC {w : World} {B k : Nat} {x1 x2 : ByteArray} {s5 : Value} {xs : List Value} {W : World} (h : CenS w B x1 x2 s5 k xs W) : CenS w B x1 x2 s5 k xs W.drew := ⟨h.1, h.2.1, h.2.2.1, h.2.2.2.drew⟩
theorem CenS.below {w : World} {B k : Nat} {x1 x2 : ByteArray} {s5 : Value} {xs : List Value} {W W' : World} (h : CenS w B x1 x2 s5 k xs W) (hb : Below W.heap.size W W') : CenS w B x1 x2 s5 k xs W' :=
  ⟨(hb.cell (p := ⟨B, 0, none⟩) (cell_lt h.1)).trans h.1, (hb.cell (p := ⟨B, 1, none⟩) (cell_lt h.2.1)).trans h.2.1, row_same h.2.2.1 (fun g hg => hb.block g (h.2.2.1.lt g hg).2), h.2.2.2.trans (hb.mono h.2.2.2.size)⟩

/-- The items with other keys. -/
def mapI (V : ByteArray → ByteArray) (L : List Item) : List Item := L.map (fun x => (V x.1, x.2))
theorem mapI_take (V : ByteArray → ByteArray) {L : List Item} {k : Nat} {x : Item} (h : L[k]? = some x) : cellsI (mapI V (L.take (k + 1))) = cellsI (mapI V (L.take k)) ++ [.string (V x.1), .string x.2] := by
  rw [List.take_add_one, h]
  unfold mapI
  rw [List.map_append, cellsI_app]
  rfl

set_option maxHeartbeats 12800000 in
set_option maxRecDepth 100000 in
theorem centred_ok {ao : Option Addr} {cap n : Nat} {L : List Item} {V : ByteArray → ByteArray} {w : World} (h : MR w ao L) (hl : L.length ≤ 100) (h0 : 0 < L.length) (hn : ((mapI V L).map keyI).Nodup)
    (hV : ∀ x ∈ L, ∀ W, Below w.heap.size w W → Calls Tryz.prog 167 #[.string x.1, .int .i64 (n : Int)] W fun e w' => e = .returned (.string (V x.1)) ∧ Below W.heap.size W w') :
    Calls Tryz.prog 99 #[.slice ao L.length cap, .int .i64 (n : Int)] w fun e w' => ∃ v, e = .returned v ∧ w'.ownsRow w.heap.size 38 2 v L.length (cellsI (sortI (mapI V L))) ∧ Below w.heap.size w w' := by
  obtain ⟨i0, hi, hz0, hz1, hz2⟩ := info_parts infoMassJ
  obtain ⟨j0, hj, hy0, hy1, hy2⟩ := info_parts infoOut
  have HMR := Lib.hid h
  have HV0 := Lib.hid hV
  have HND := Lib.hid hn
  obtain ⟨N, hN⟩ : ∃ N, N = L.length := ⟨_, rfl⟩
  have HN := Lib.hid hN
  rw [← hN] at hl h0 ⊢
  clear h hV hn hN
  go_enter Tryz.func99, Tryz.ntmps99
  go_wp2_with fail
  go_loopw [5, 13] (fun s5 s13 wr => ∃ k : Nat, k ≤ N ∧ s13 = .int .i64 (k : Int) ∧ wr.ownsRow w.heap.size 198 2 s5 k (cellsI (mapI V (L.take k))) ∧ Below w.heap.size w wr) (fun _ s13 _ => N - (intOf s13).toNat)
  case atStart => exact ⟨0, Nat.zero_le _, rfl, World.ownsRow_nil _ _ _ _, Below.refl _ _⟩
  case round =>
    obtain ⟨k, hk, rfl, hrow, hb⟩ := hrel
    by_cases hlt : k < N
    · obtain ⟨x, hx⟩ : ∃ x, L[k]? = some x := ⟨L[k]'(by rw [← HN.out]; exact hlt), List.getElem?_eq_getElem _⟩
      obtain ⟨g, rfl, c0, c1⟩ : ∃ g, ao = some ⟨g, 0, none⟩ ∧ wr.cell? ⟨g, k * 2, none⟩ = some (.string x.1) ∧ wr.cell? ⟨g, k * 2 + 1, none⟩ = some (.string x.2) := by
        rcases HMR.out with h0 | ⟨g, h1, h2, h3⟩
        · have := HN.out; omega
        · exact ⟨g, h1, (hb.cell (p := ⟨g, k * 2, none⟩) h2).trans (h3 k x.1 x.2 hx).1, (hb.cell (p := ⟨g, k * 2 + 1, none⟩) h2).trans (h3 k x.1 x.2 hx).2⟩
      have HNX := Lib.hid (mapI_take V hx)
      have HV := Lib.hid (HV0.out x (List.mem_of_getElem? hx))
      obtain ⟨x1, x2⟩ := x
      obtain ⟨w3, hw3⟩ : ∃ w3, wr.alloc (.cells #[.string x1, .string x2] 38) = w3 := ⟨_, rfl⟩
      have HM := Lib.hid (show CenS w wr.heap.size x1 x2 u5 k (cellsI (mapI V (L.take k))) w3 by
        rw [← hw3]
        have hh := heap_alloc_new wr (.cells #[.string x1, .string x2] 38)
        exact ⟨by rw [Lib.cell_of_heap hh]; rfl, by rw [Lib.cell_of_heap hh]; rfl, hrow.alloc _, hb.alloc hb.size _⟩)
      clear hrow hb hx HMR HV0 HND
      go_wp2_with fail
      clear hw3 c0 c1
      generalize wr.heap.size = B at *
      generalize u5 = s5 at *
      refine wp_region_any (by kernel_rfl) ?_
      change wpAny _ _ _ _ 11 _ _ (World.drew _)
      have HA := Lib.hid HM.out.drewC
      clear HM
      generalize World.drew w3 = W5 at *
      refine wpAny_takeD (i := 0) (d := 17) (v := s5) rfl rfl (by kernel_rfl) (by kernel_rfl) (by kernel_rfl) (fun _ _ _ h => h) rfl (fun W => by go_simp) ?_
      simp only [Act.put, List.setIfInBounds_toArray, List.set_cons_zero, List.set_cons_succ]
      refine wpAny_takeD (i := 1) (d := 18) (v := .pointer (some ⟨B, 0, none⟩)) rfl rfl (by kernel_rfl) (by kernel_rfl) (by kernel_rfl) (fun _ _ _ h => h) rfl (fun W => by go_simp) ?_
      simp only [Act.put, List.setIfInBounds_toArray, List.set_cons_zero, List.set_cons_succ]
      refine wpAny_takeD (i := 3) (d := 20) (v := .int .i64 (n : Int)) rfl rfl (by kernel_rfl) (by kernel_rfl) (by kernel_rfl) (fun _ _ _ h => h) rfl (fun W => by go_simp) ?_
      simp only [Act.put, List.setIfInBounds_toArray, List.set_cons_zero, List.set_cons_succ]
      refine wpAny_takeD (i := 5) (d := 22) (v := .pointer (some ⟨B, 1, none⟩)) rfl rfl (by kernel_rfl) (by kernel_rfl) (by kernel_rfl) (fun _ _ _ h => h) rfl (fun W => by go_simp) ?_
      simp only [Act.put, List.setIfInBounds_toArray, List.set_cons_zero, List.set_cons_succ]
      refine wpAny_two (i := 2) (j := 6) (by kernel_rfl) ?_ ?_
      · have c9 := HA.out.1
        refine wpOp_run rfl rfl (wp_read (d := 19) (v := .string x1) rfl (by go_simp) ?_)
        clear c9
        simp only [Act.put, List.setIfInBounds_toArray, List.set_cons_zero, List.set_cons_succ]
        refine wpAny_two (i := 4) (j := 6) (by kernel_rfl) ?_ ?_
        · refine wpOp_run rfl rfl (wp_enter (d := 21) rfl (by go_simp) ((HV.out _ HA.out.2.2.2).mono ?_))
          rintro e W6 ⟨rfl, hb⟩
          refine ⟨_, rfl, ?_⟩
          simp only [Act.put, List.setIfInBounds_toArray, List.set_cons_zero, List.set_cons_succ]
          replace HA := Lib.hid (CenS.below HA.out hb)
          clear hb HV
          refine wpAny_one (i := 6) (by kernel_rfl) ?_
          have c9 := HA.out.2.1
          refine wpOp_run rfl rfl (wp_read (d := 23) (v := .string x2) rfl (by go_simp) ?_)
          clear c9
          simp only [Act.put, List.setIfInBounds_toArray, List.set_cons_zero, List.set_cons_succ]
          refine wpAny_takeD (i := 7) (d := 24) (v := .agg #[.string (V x1), .string x2]) rfl rfl (by kernel_rfl) (by kernel_rfl) (by kernel_rfl) (fun _ _ _ h => h) rfl (fun W => by go_simp) ?_
          simp only [Act.put, List.setIfInBounds_toArray, List.set_cons_zero, List.set_cons_succ]
          refine wpAny_one (i := 8) (by kernel_rfl) ?_
          refine wpOp_run rfl rfl (wp_value (d := 25) (v := .slice (some ⟨W6.heap.size, 0, none⟩) 1 1) (w' := W6.alloc (.cells #[.string (V x1), .string x2] 198)) rfl (by go_simp) ?_)
          simp only [Act.put, List.setIfInBounds_toArray, List.set_cons_zero, List.set_cons_succ]
          refine wpAny_one (i := 9) (by kernel_rfl) ?_
          refine wpOp_run rfl rfl (wp_append_rowX (.tmp 17) (.tmp 25) 196 (d := 26) rfl rfl w.heap.size 198 j0 (.agg #[.string ⟨#[]⟩, .string ⟨#[]⟩]) 2 32 Tryz.underlying196 hj hy0 hy1 hy2 rfl (by decide) _ k _ rfl (HA.out.2.2.1.alloc _) (some ⟨_, 0, none⟩) 1 1 [Value.string (V x1), Value.string x2] rfl rfl (fun ad had => by cases had; exact World.news_of_block (heap_alloc_new _ _)) (fun h => by cases h) (by intro u hu; simp at hu; rcases hu with rfl | rfl <;> rfl) (by unfold maxLen; omega) (by omega) (by have := HA.out.2.2.2.size; simp; omega) ?_)
          intro v2 W7 hown2 hgr2 _
          simp only [Act.put, List.setIfInBounds_toArray, List.set_cons_zero, List.set_cons_succ]
          have HC := Lib.hid (And.intro hown2 ((HA.out.2.2.2.alloc HA.out.2.2.2.size _).grown hgr2 (by have := HA.out.2.2.2.size; simp; omega) (fun b hb => (HA.out.2.2.1.lt b hb).1)))
          clear hown2 hgr2 HA
          refine wpAny_takeD (i := 10) (d := 5) (v := v2) rfl rfl (by kernel_rfl) (by kernel_rfl) (by kernel_rfl) (fun _ _ _ h => h) rfl (fun W => by go_simp) ?_
          simp only [Act.put, List.setIfInBounds_toArray, List.set_cons_zero, List.set_cons_succ]
          refine wpAny_done (by kernel_rfl) ?_ _
          go_wp2_with fail
          go_roundw
          case rel => exact ⟨k + 1, by omega, by go_num, by have h := HC.out.1; rw [HNX.out]; exact h, HC.out.2⟩
          case measure => simp [intOf]; omega
        · have c9 := HA.out.2.1
          refine wpOp_run rfl rfl (wp_read (d := 23) (v := .string x2) rfl (by go_simp) ?_)
          clear c9
          simp only [Act.put, List.setIfInBounds_toArray, List.set_cons_zero, List.set_cons_succ]
          refine wpAny_one (i := 4) (by kernel_rfl) ?_
          refine wpOp_run rfl rfl (wp_enter (d := 21) rfl (by go_simp) ((HV.out _ HA.out.2.2.2).mono ?_))
          rintro e W6 ⟨rfl, hb⟩
          refine ⟨_, rfl, ?_⟩
          simp only [Act.put, List.setIfInBounds_toArray, List.set_cons_zero, List.set_cons_succ]
          replace HA := Lib.hid (CenS.below HA.out hb)
          clear hb HV
          refine wpAny_takeD (i := 7) (d := 24) (v := .agg #[.string (V x1), .string x2]) rfl rfl (by kernel_rfl) (by kernel_rfl) (by kernel_rfl) (fun _ _ _ h => h) rfl (fun W => by go_simp) ?_
          simp only [Act.put, List.setIfInBounds_toArray, List.set_cons_zero, List.set_cons_succ]
          refine wpAny_one (i := 8) (by kernel_rfl) ?_
          refine wpOp_run rfl rfl (wp_value (d := 25) (v := .slice (some ⟨W6.heap.size, 0, none⟩) 1 1) (w' := W6.alloc (.cells #[.string (V x1), .string x2] 198)) rfl (by go_simp) ?_)
          simp only [Act.put, List.setIfInBounds_toArray, List.set_cons_zero, List.set_cons_succ]
          refine wpAny_one (i := 9) (by kernel_rfl) ?_
          refine wpOp_run rfl rfl (wp_append_rowX (.tmp 17) (.tmp 25) 196 (d := 26) rfl rfl w.heap.size 198 j0 (.agg #[.string ⟨#[]⟩, .string ⟨#[]⟩]) 2 32 Tryz.underlying196 hj hy0 hy1 hy2 rfl (by decide) _ k _ rfl (HA.out.2.2.1.alloc _) (some ⟨_, 0, none⟩) 1 1 [Value.string (V x1), Value.string x2] rfl rfl (fun ad had => by cases had; exact World.news_of_block (heap_alloc_new _ _)) (fun h => by cases h) (by intro u hu; simp at hu; rcases hu with rfl | rfl <;> rfl) (by unfold maxLen; omega) (by omega) (by have := HA.out.2.2.2.size; simp; omega) ?_)
          intro v2 W7 hown2 hgr2 _
          simp only [Act.put, List.setIfInBounds_toArray, List.set_cons_zero, List.set_cons_succ]
          have HC := Lib.hid (And.intro hown2 ((HA.out.2.2.2.alloc HA.out.2.2.2.size _).grown hgr2 (by have := HA.out.2.2.2.size; simp; omega) (fun b hb => (HA.out.2.2.1.lt b hb).1)))
          clear hown2 hgr2 HA
          refine wpAny_takeD (i := 10) (d := 5) (v := v2) rfl rfl (by kernel_rfl) (by kernel_rfl) (by kernel_rfl) (fun _ _ _ h => h) rfl (fun W => by go_simp) ?_
          simp only [Act.put, List.setIfInBounds_toArray, List.set_cons_zero, List.set_cons_succ]
          refine wpAny_done (by kernel_rfl) ?_ _
          go_wp2_with fail
          go_roundw
          case rel => exact ⟨k + 1, by omega, by go_num, by have h := HC.out.1; rw [HNX.out]; exact h, HC.out.2⟩
          case measure => simp [intOf]; omega
      · have c9 := HA.out.2.1
        refine wpOp_run rfl rfl (wp_read (d := 23) (v := .string x2) rfl (by go_simp) ?_)
        clear c9
        simp only [Act.put, List.setIfInBounds_toArray, List.set_cons_zero, List.set_cons_succ]
        refine wpAny_one (i := 2) (by kernel_rfl) ?_
        have c9 := HA.out.1
        refine wpOp_run rfl rfl (wp_read (d := 19) (v := .string x1) rfl (by go_simp) ?_)
        clear c9
        simp only [Act.put, List.setIfInBounds_toArray, List.set_cons_zero, List.set_cons_succ]
        refine wpAny_one (i := 4) (by kernel_rfl) ?_
        refine wpOp_run rfl rfl (wp_enter (d := 21) rfl (by go_simp) ((HV.out _ HA.out.2.2.2).mono ?_))
        rintro e W6 ⟨rfl, hb⟩
        refine ⟨_, rfl, ?_⟩
        simp only [Act.put, List.setIfInBounds_toArray, List.set_cons_zero, List.set_cons_succ]
        replace HA := Lib.hid (CenS.below HA.out hb)
        clear hb HV
        refine wpAny_takeD (i := 7) (d := 24) (v := .agg #[.string (V x1), .string x2]) rfl rfl (by kernel_rfl) (by kernel_rfl) (by kernel_rfl) (fun _ _ _ h => h) rfl (fun W => by go_simp) ?_
        simp only [Act.put, List.setIfInBounds_toArray, List.set_cons_zero, List.set_cons_succ]
        refine wpAny_one (i := 8) (by kernel_rfl) ?_
        refine wpOp_run rfl rfl (wp_value (d := 25) (v := .slice (some ⟨W6.heap.size, 0, none⟩) 1 1) (w' := W6.alloc (.cells #[.string (V x1), .string x2] 198)) rfl (by go_simp) ?_)
        simp only [Act.put, List.setIfInBounds_toArray, List.set_cons_zero, List.set_cons_succ]
        refine wpAny_one (i := 9) (by kernel_rfl) ?_
        refine wpOp_run rfl rfl (wp_append_rowX (.tmp 17) (.tmp 25) 196 (d := 26) rfl rfl w.heap.size 198 j0 (.agg #[.string ⟨#[]⟩, .string ⟨#[]⟩]) 2 32 Tryz.underlying196 hj hy0 hy1 hy2 rfl (by decide) _ k _ rfl (HA.out.2.2.1.alloc _) (some ⟨_, 0, none⟩) 1 1 [Value.string (V x1), Value.string x2] rfl rfl (fun ad had => by cases had; exact World.news_of_block (heap_alloc_new _ _)) (fun h => by cases h) (by intro u hu; simp at hu; rcases hu with rfl | rfl <;> rfl) (by unfold maxLen; omega) (by omega) (by have := HA.out.2.2.2.size; simp; omega) ?_)
        intro v2 W7 hown2 hgr2 _
        simp only [Act.put, List.setIfInBounds_toArray, List.set_cons_zero, List.set_cons_succ]
        have HC := Lib.hid (And.intro hown2 ((HA.out.2.2.2.alloc HA.out.2.2.2.size _).grown hgr2 (by have := HA.out.2.2.2.size; simp; omega) (fun b hb => (HA.out.2.2.1.lt b hb).1)))
        clear hown2 hgr2 HA
        refine wpAny_takeD (i := 10) (d := 5) (v := v2) rfl rfl (by kernel_rfl) (by kernel_rfl) (by kernel_rfl) (fun _ _ _ h => h) rfl (fun W => by go_simp) ?_
        simp only [Act.put, List.setIfInBounds_toArray, List.set_cons_zero, List.set_cons_succ]
        refine wpAny_done (by kernel_rfl) ?_ _
        go_wp2_with fail
        go_roundw
        case rel => exact ⟨k + 1, by omega, by go_num, by have h := HC.out.1; rw [HNX.out]; exact h, HC.out.2⟩
        case measure => simp [intOf]; omega
    · obtain rfl : k = N := by omega
      rw [show L.take k = L by rw [HN.out]; exact List.take_length] at hrow
      obtain ⟨g5, c5, rfl, _, _⟩ := hrow.form h0
      have hlm : (mapI V L).length = k := by rw [HN.out]; unfold mapI; simp
      have HOA := Lib.hid (OA.row (L := mapI V L) (cap := c5) (base := w.heap.size) (by rw [hlm]; exact hrow))
      have HLB := Lib.hid (And.intro (hrow.lt g5 rfl).1 hb)
      have hcall := osort_any (cap := c5) HOA.out (by rw [hlm]; omega) HND.out
      rw [hlm] at hcall
      have HCALL := Lib.hid hcall
      have HLS := Lib.hid (show (sortI (mapI V L)).length = k by rw [sortI_len]; exact hlm)
      clear hrow hb hcall hlm HOA HMR HV0 HND
      go_wp2_with fail
      refine HCALL.out.mono ?_
      rintro e w3 ⟨⟨v3, rfl⟩, hoa, hc⟩
      have HOA := Lib.hid hoa
      have HB := Lib.hid (HLB.out.2.trans (hc.to_below HLB.out.2.size (fun j hj => by have := HLB.out.1; omega)))
      clear hoa hc HCALL HLB
      obtain ⟨L2, hL2⟩ : ∃ L2, L2 = sortI (mapI V L) := ⟨_, rfl⟩
      rw [← hL2] at HOA HLS
      have HL2 := Lib.hid hL2
      clear hL2
      go_wp2_with fail
      go_loopw [8, 32] (fun s8 s32 wr => ∃ i : Nat, i ≤ k ∧ s32 = .int .i64 (i : Int) ∧ wr.ownsRow w.heap.size 38 2 s8 i (cellsI (L2.take i)) ∧ OA wr g5 L2 ∧ Below w.heap.size w wr) (fun _ s32 _ => k - (intOf s32).toNat)
      case atStart => exact ⟨0, Nat.zero_le _, rfl, World.ownsRow_nil _ _ _ _, HOA.out, HB.out⟩
      case round =>
        obtain ⟨i, hik, rfl, hrow, hoa, hb⟩ := hrel
        clear HOA HB
        by_cases hlt2 : i < k
        · obtain ⟨x, hx⟩ : ∃ x, L2[i]? = some x := ⟨L2[i]'(by rw [HLS.out]; exact hlt2), List.getElem?_eq_getElem _⟩
          obtain ⟨x1, x2⟩ := x
          obtain ⟨c0, c1⟩ := hoa.c hx
          have HNX := Lib.hid (show cellsI (L2.take (i + 1)) = cellsI (L2.take i) ++ [.string x1, .string x2] by
            rw [List.take_add_one, hx, cellsI_app]; rfl)
          obtain ⟨w4, hw4⟩ : ∃ w4, wr.alloc (.cells #[.string x1, .string x2] 198) = w4 := ⟨_, rfl⟩
          have hh : w4.heap[wr.heap.size]? = some (.cells #[.string x1, .string x2] 198 (0, 0)) := by rw [← hw4]; exact heap_alloc_new _ _
          have d0 : w4.cell? ⟨wr.heap.size, 0, none⟩ = some (.string x1) := by rw [Lib.cell_of_heap hh]; rfl
          have d1 : w4.cell? ⟨wr.heap.size, 1, none⟩ = some (.string x2) := by rw [Lib.cell_of_heap hh]; rfl
          have HF := Lib.hid (show w4.ownsRow w.heap.size 38 2 u8 i (cellsI (L2.take i)) ∧ OA w4 g5 L2 ∧ Below w.heap.size w w4 ∧ g5 < w4.heap.size by
            rw [← hw4]
            exact ⟨hrow.alloc _, hoa.below ((Below.refl _ _).alloc (Nat.le_refl _) _), hb.alloc hb.size _, by have := hoa.2.1; simp; omega⟩)
          have HG5 := Lib.hid (hoa.not_row hrow)
          clear hrow hoa hb hx hh
          go_wp2_with (at_builtin; refine wpList_append_own_at _ rfl _ _ 33 rfl w.heap.size 38 i0 (.agg #[.string ⟨#[]⟩, .string ⟨#[]⟩]) 2 32 Tryz.underlying33 hi hz0 hz1 hz2 rfl (by decide) _ _ _ rfl (HF.out.1.alloc _) ⟨w4.heap.size, 0, none⟩ 1 1 [.string x1, .string x2] rfl rfl (World.news_of_block (heap_alloc_new _ _)) (fun u hu => by simp at hu; rcases hu with rfl | rfl <;> rfl) ?c3 ?c4 ?c5 ?_)
          case c3 => unfold maxLen; omega
          case c4 => omega
          case c5 => have := HF.out.2.2.1.size; simp; omega
          intro v' w6 hown' hgrow _ _
          have HF3 := Lib.hid (show w6.ownsRow w.heap.size 38 2 v' (i + 1) (cellsI (L2.take (i + 1))) ∧ OA w6 g5 L2 ∧ Below w.heap.size w w6 from
            ⟨by rw [HNX.out]; exact hown', (HF.out.2.1.below ((Below.refl _ _).alloc (Nat.le_refl _) _)).other hgrow (Ne.symm HG5.out), (HF.out.2.2.1.alloc HF.out.2.2.1.size _).grown hgrow (by have := HF.out.2.2.1.size; simp; omega) (fun b hb => (HF.out.1.lt b hb).1)⟩)
          clear hown' hgrow HF HG5
          go_wp2_with fail
          go_roundw
          case rel => exact ⟨i + 1, by omega, by go_num, HF3.out.1, HF3.out.2.1, HF3.out.2.2⟩
          case measure => simp [intOf]; omega
        · obtain rfl : i = k := by omega
          have HF := Lib.hid (And.intro hrow hb)
          have HT := Lib.hid (show L2.take i = L2 by rw [← HLS.out]; exact List.take_length)
          clear hrow hb hoa
          go_wp2_with fail
          go_ret
          exact ⟨_, rfl, by have h := HF.out.1; rw [HT.out, HL2.out] at h; exact h, HF.out.2⟩

open Go.RowKit NV
open Go.Lib (decDigits)

theorem kT_str (k : Int) (h0 : -9223372036854775808 ≤ k) (h1 : k ≤ 9223372036854775807) : kT k = qstr (k : Rat) := itoa_str k h0 h1
theorem kT_inj {a b : Int} (ha : -1000 ≤ a ∧ a ≤ 1000) (hb : -1000 ≤ b ∧ b ≤ 1000) (h : kT a = kT b) : a = b := by
  rw [kT_str a (by omega) (by omega), kT_str b (by omega) (by omega)] at h
  have := qstr_inj h
  exact_mod_cast this
theorem kT_late (k : Int) : kT k ≠ lateS := by
  intro h
  have h2 : Lib.itoa k = [108, 97, 116, 101] := by
    have := congrArg (fun s => s.data.toList) h
    simpa [kT] using this
  rw [Lib.itoa] at h2
  split at h2
  · simp at h2
  · have h3 := digs_dec k.toNat
    rw [h2] at h3
    have := h3 108 (by simp)
    revert this; decide

/-- The key of a value, given that of an index. -/
def vK (n : Nat) (s : ByteArray) : ByteArray := if s.data.toList = lateS.data.toList then lateS else kT (((dv s.data.toList : Nat) : Int) - (n : Int))
theorem vK_num (n i : Nat) : vK n (dstr i) = kT ((i : Int) - (n : Int)) := by
  unfold vK
  rw [if_neg (late_not i), dstr_list, dv_dec]
theorem vK_late (n : Nat) : vK n lateS = lateS := if_pos rfl

/-- The keys of a law. -/
def LawK (N : Nat) (L : List Item) : Prop := ∀ x ∈ L, x.1 = lateS ∨ ∃ i, i < N ∧ x.1 = dstr i
theorem lawK (g : Nat → Nat) (late all m : Nat) : LawK m (lawL g late all m) := fun x hx => by
  unfold lawL at hx
  rcases List.mem_append.1 hx with h | h
  · obtain ⟨i, hi, _, rfl⟩ := items_mem.1 h
    exact .inr ⟨i, hi, rfl⟩
  · split at h
    · simp at h
    · obtain rfl := List.mem_singleton.1 h
      exact .inl rfl
theorem itemsK (g : Nat → Nat) (all m : Nat) : LawK m (itemsP g all m) := fun x hx => by
  obtain ⟨i, hi, _, rfl⟩ := items_mem.1 hx
  exact .inr ⟨i, hi, rfl⟩
theorem vK_inj {n N : Nat} (hn : n ≤ 16) (hN : N ≤ 64) {a b : ByteArray} (ha : a = lateS ∨ ∃ i, i < N ∧ a = dstr i) (hb : b = lateS ∨ ∃ i, i < N ∧ b = dstr i) (h : vK n a = vK n b) : a = b := by
  rcases ha with rfl | ⟨i, hi, rfl⟩
  · rcases hb with rfl | ⟨j, hj, rfl⟩
    · rfl
    · rw [vK_late, vK_num] at h; exact absurd h.symm (kT_late _)
  · rcases hb with rfl | ⟨j, hj, rfl⟩
    · rw [vK_late, vK_num] at h; exact absurd h (kT_late _)
    · rw [vK_num, vK_num] at h
      have := kT_inj (by omega) (by omega) h
      rw [show i = j by omega]
theorem mapI_nodup {n N : Nat} (hn : n ≤ 16) (hN : N ≤ 64) {L : List Item} (hk : LawK N L) (h : (L.map keyI).Nodup) : ((mapI (vK n) L).map keyI).Nodup := by
  unfold mapI
  rw [List.map_map]
  rw [List.nodup_iff_pairwise_ne, List.pairwise_map] at h ⊢
  refine List.Pairwise.imp_of_mem (fun {a b} ha hb hab => ?_) h
  intro e
  exact hab (congrArg (fun s => s.data.toList) (vK_inj hn hN (hk a ha) (hk b hb) (ba_extP e)))
theorem LawK.sort {N : Nat} {L : List Item} (h : LawK N L) : LawK N (sortI L) := fun x hx => h x ((sortI_perm L).mem_iff.1 hx)
theorem sort_mapI {n N : Nat} (hn : n ≤ 16) (hN : N ≤ 64) {L : List Item} (hk : LawK N L) (h : (L.map keyI).Nodup) : sortI (mapI (vK n) (sortI L)) = sortI (mapI (vK n) L) := by
  refine sortI_eq ((sortI_perm _).trans ?_) (mapI_nodup hn hN hk h) (sortI_sorted _)
  exact (sortI_perm L).map _

/-- The error variable of a text that is no number holds something. -/
def SV (w : World) : Prop := ∃ ev, w.cell? ⟨2, 0, none⟩ = some ev ∧ (ev = .nilIface ∨ ∃ te pe, ev = .iface te pe) ∧ 2 < w.heap.size
theorem SV.keep {w w' : World} (h : SV w) (hb : Below w.heap.size w w') : SV w' := by
  obtain ⟨ev, h1, h2, h3⟩ := h
  exact ⟨ev, (hb.cell (p := ⟨2, 0, none⟩) h3).trans h1, h2, Nat.lt_of_lt_of_le h3 hb.size⟩

set_option maxHeartbeats 1600000 in
theorem valueOf_late (n : Nat) (w : World) (hsv : SV w) :
    Calls Tryz.prog 167 #[.string lateS, .int .i64 (n : Int)] w fun e w' => e = .returned (.string lateS) ∧ Below w.heap.size w w' := by
  obtain ⟨ev, h1, h2, _⟩ := hsv
  have hc := Any.strconv_Atoi_syntax Tryz.laysC172 lateS (by decide) (by kernel_rfl) ev w h1 h2
  change Calls Tryz.prog 216 _ _ _ at hc
  generalize lateS = s at *
  have HA := Lib.hid hc
  clear hc h1 h2
  go_enter Tryz.func167, Tryz.ntmps167
  go_wp2_with fail
  refine HA.out.mono ?_
  rintro e w1 ⟨N1, rfl, _, _, hb⟩
  have HB := Lib.hid hb
  clear hb HA
  go_wp2_with fail
  go_ret
  exact ⟨rfl, HB.out⟩

set_option maxHeartbeats 1600000 in
set_option maxRecDepth 100000 in
theorem centred_nil (n : Int) (w : World) :
    Calls Tryz.prog 99 #[.slice none 0 0, .int .i64 n] w fun e w' => e = .returned (.slice none 0 0) ∧ Below w.heap.size w w' := by
  have hs : ∀ W, Calls Tryz.prog 168 #[.slice none 0 0, .func (.func 169) #[] #[]] W fun e w' => e = .returned (.tuple #[]) ∧ w' = W := fun W => AnyF.slices_SortFunc_none Tryz.sort168 none 0 (.func (.func 169) #[] #[]) W
  have HS := Lib.hid hs
  clear hs
  go_enter Tryz.func99, Tryz.ntmps99
  go_wp2_with fail
  go_loop [5, 13] (fun s5 iv => s5 = .slice none 0 0 ∧ iv = .int .i64 0) (fun _ _ => 0)
  case atStart => exact ⟨rfl, rfl⟩
  case round =>
    obtain ⟨rfl, rfl⟩ := hrel
    go_wp2_with fail
    refine (HS.out _).mono ?_
    rintro e w1 ⟨rfl, rfl⟩
    go_wp2_with fail
    go_loop [8, 32] (fun s8 iv => s8 = .slice none 0 0 ∧ iv = .int .i64 0) (fun _ _ => 0)
    case atStart => exact ⟨rfl, rfl⟩
    case round =>
      obtain ⟨rfl, rfl⟩ := hrel
      go_wp2_with fail
      go_ret
      exact ⟨rfl, Below.refl _ _⟩

set_option maxHeartbeats 1600000 in
theorem bExact_w {s : ByteArray} {t : Int} (hs : s.size ≤ 1000000) (h : bwE s t ≠ 0) (w : World) (htab : Tab w) (hm : ML w) :
    Calls Tryz.prog 36 #[.string s, .int .i64 t] w fun e w' => e = .returned (.tuple #[.slice none 0 0, .int .i64 ((bwE s t : Nat) : Int)]) ∧ Below w.heap.size w w' := by
  have HP := Lib.hid (weights_err hs h w htab hm)
  have hne := errne h
  generalize bwE s t = c at *
  clear h hs hm htab
  go_enter Tryz.func36, Tryz.ntmps36
  go_wp2_with fail
  refine HP.out.mono ?_
  rintro e w1 ⟨rfl, hb⟩
  have HB := Lib.hid hb
  clear hb HP
  go_wp2_with fail
  go_ret2
  exact ⟨rfl, HB.out⟩

set_option maxHeartbeats 1600000 in
theorem bLaw_w {s : ByteArray} {t m : Int} (hs : s.size ≤ 1000000) (h : bwE s t ≠ 0) (w : World) (htab : Tab w) (hm : ML w) :
    Calls Tryz.prog 37 #[.string s, .int .i64 t, .int .i64 m] w fun e w' => e = .returned (.tuple #[.slice none 0 0, .int .i64 ((bwE s t : Nat) : Int)]) ∧ Below w.heap.size w w' := by
  have HP := Lib.hid (weights_err hs h w htab hm)
  have hne := errne h
  generalize bwE s t = c at *
  clear h hs hm htab
  go_enter Tryz.func37, Tryz.ntmps37
  go_wp2_with fail
  refine HP.out.mono ?_
  rintro e w1 ⟨rfl, hb⟩
  have HB := Lib.hid hb
  clear hb HP
  go_wp2_with fail
  go_ret2
  exact ⟨rfl, HB.out⟩

set_option maxHeartbeats 6400000 in
set_option maxRecDepth 100000 in
theorem bExact_x {q : Rat} {n : Nat} {L : List Item} (op : QOk q) (hb : belE q = 0) (hn : n ≤ 16) (hO : bwO q.den n = 0) (w : World) (htab : Tab w) (hm : ML w) (hsv : (∃ x ∈ L, x.1 = lateS) → SV w)
    (hk : LawK (2 * n + 1) L) (hnd : (L.map keyI).Nodup) (hl0 : 0 < L.length) (hl : L.length ≤ 100)
    (hP : ∀ W ao cap, PRow W ao (2 * n + 1) (wB q n) → Tab W → Calls Tryz.prog 29 #[.slice ao (2 * n + 1) cap] W fun e w' => ∃ v, e = .returned (.tuple #[v, .int .i64 0]) ∧ w'.ownsRow W.heap.size 38 2 v L.length (cellsI (sortI L)) ∧ Below W.heap.size W w') :
    Calls Tryz.prog 36 #[.string (qstr q), .int .i64 (n : Int)] w fun e w' => ∃ v, e = .returned (.tuple #[v, .int .i64 0]) ∧ w'.ownsRow w.heap.size 38 2 v L.length (cellsI (sortI (mapI (vK n) L))) ∧ Below w.heap.size w w' := by
  have HW := Lib.hid (weights_ok op hb hn hO w htab hm)
  have HP := Lib.hid hP
  have HTAB := Lib.hid (fun W (h : Below w.heap.size w W) => htab.below h)
  have hlen : (sortI L).length = L.length := sortI_len L
  have hv : ∀ W0, Below w.heap.size w W0 → ∀ x ∈ sortI L, ∀ W, Below W0.heap.size W0 W → Calls Tryz.prog 167 #[.string x.1, .int .i64 (n : Int)] W fun e w' => e = .returned (.string (vK n x.1)) ∧ Below W.heap.size W w' := fun W0 h0 x hx W hW => by
    have hb0 := h0.trans (hW.mono h0.size)
    have hxm := (sortI_perm L).mem_iff.1 hx
    rcases hk x hxm with e | ⟨i, hi, e⟩
    · rw [e, vK_late]; exact valueOf_late n W ((hsv ⟨x, hxm, e⟩).keep hb0)
    · rw [e, vK_num]; exact valueOf_num (by omega) hn W (htab.below hb0)
  have hc : ∀ W0 v, Below w.heap.size w W0 → W0.ownsRow w.heap.size 38 2 v L.length (cellsI (sortI L)) → Calls Tryz.prog 99 #[v, .int .i64 (n : Int)] W0 fun e w' => ∃ v', e = .returned v' ∧ w'.ownsRow W0.heap.size 38 2 v' L.length (cellsI (sortI (mapI (vK n) L))) ∧ Below W0.heap.size W0 w' := fun W0 v h0 hr => by
    obtain ⟨g, cap, rfl, _, _⟩ := hr.form hl0
    have h := centred_ok (ao := some ⟨g, 0, none⟩) (cap := cap) (n := n) (V := vK n) (L := sortI L) (w := W0) (MR.row (base := w.heap.size) (cap := cap) (by rw [hlen]; exact hr)) (by omega) (by omega) (mapI_nodup hn (by omega) hk.sort (by
      rw [List.nodup_iff_pairwise_ne]
      exact List.Pairwise.imp (fun h e => by rw [e] at h; exact absurd h (List.lt_irrefl _)) (List.pairwise_map.2 (sortI_strict hnd)))) (hv W0 h0)
    rw [hlen, sort_mapI hn (by omega) hk hnd] at h
    exact h
  have HC := Lib.hid hc
  clear hc hv hP htab hm hsv hk hnd hl hO op hb hn hl0 hlen
  generalize qstr q = s at *
  go_enter Tryz.func36, Tryz.ntmps36
  go_wp2_with fail
  refine HW.out.mono ?_
  rintro e w1 ⟨ao, cap, rfl, hrow, hb⟩
  have HB := Lib.hid hb
  have HPD := Lib.hid (HP.out w1 ao cap (srow_prow hrow) (HTAB.out w1 hb))
  clear hb hrow HW HP HTAB
  go_wp2_with fail
  refine HPD.out.mono ?_
  rintro e w2 ⟨v, rfl, hrow, hb⟩
  have HR := Lib.hid (row_low hrow HB.out.size)
  replace HB := Lib.hid (HB.out.trans (hb.mono HB.out.size))
  clear hb hrow HPD
  go_wp2_with fail
  refine (HC.out _ _ HB.out HR.out).mono ?_
  rintro e w3 ⟨v', rfl, hrow, hb⟩
  have HR3 := Lib.hid (And.intro (row_low hrow HB.out.size) (HB.out.trans (hb.mono HB.out.size)))
  clear hb hrow HC HB HR
  go_wp2_with fail
  go_ret2
  exact ⟨_, rfl, HR3.out.1, HR3.out.2⟩

set_option maxHeartbeats 6400000 in
set_option maxRecDepth 100000 in
theorem bLaw_x {q : Rat} {n : Nat} {m : Int} {L : List Item} (op : QOk q) (hb : belE q = 0) (hn : n ≤ 16) (hO : bwO q.den n = 0) (w : World) (htab : Tab w) (hm : ML w) (hsv : (∃ x ∈ L, x.1 = lateS) → SV w)
    (hk : LawK (2 * n + 1) L) (hnd : (L.map keyI).Nodup) (hl0 : 0 < L.length) (hl : L.length ≤ 100)
    (hP : ∀ W ao cap, PRow W ao (2 * n + 1) (wB q n) → Tab W → Calls Tryz.prog 27 #[.slice ao (2 * n + 1) cap, .int .i64 m] W fun e w' => ∃ v, e = .returned (.tuple #[v, .int .i64 0]) ∧ w'.ownsRow W.heap.size 38 2 v L.length (cellsI (sortI L)) ∧ Below W.heap.size W w') :
    Calls Tryz.prog 37 #[.string (qstr q), .int .i64 (n : Int), .int .i64 m] w fun e w' => ∃ v, e = .returned (.tuple #[v, .int .i64 0]) ∧ w'.ownsRow w.heap.size 38 2 v L.length (cellsI (sortI (mapI (vK n) L))) ∧ Below w.heap.size w w' := by
  have HW := Lib.hid (weights_ok op hb hn hO w htab hm)
  have HP := Lib.hid hP
  have HTAB := Lib.hid (fun W (h : Below w.heap.size w W) => htab.below h)
  have hlen : (sortI L).length = L.length := sortI_len L
  have hv : ∀ W0, Below w.heap.size w W0 → ∀ x ∈ sortI L, ∀ W, Below W0.heap.size W0 W → Calls Tryz.prog 167 #[.string x.1, .int .i64 (n : Int)] W fun e w' => e = .returned (.string (vK n x.1)) ∧ Below W.heap.size W w' := fun W0 h0 x hx W hW => by
    have hb0 := h0.trans (hW.mono h0.size)
    have hxm := (sortI_perm L).mem_iff.1 hx
    rcases hk x hxm with e | ⟨i, hi, e⟩
    · rw [e, vK_late]; exact valueOf_late n W ((hsv ⟨x, hxm, e⟩).keep hb0)
    · rw [e, vK_num]; exact valueOf_num (by omega) hn W (htab.below hb0)
  have hc : ∀ W0 v, Below w.heap.size w W0 → W0.ownsRow w.heap.size 38 2 v L.length (cellsI (sortI L)) → Calls Tryz.prog 99 #[v, .int .i64 (n : Int)] W0 fun e w' => ∃ v', e = .returned v' ∧ w'.ownsRow W0.heap.size 38 2 v' L.length (cellsI (sortI (mapI (vK n) L))) ∧ Below W0.heap.size W0 w' := fun W0 v h0 hr => by
    obtain ⟨g, cap, rfl, _, _⟩ := hr.form hl0
    have h := centred_ok (ao := some ⟨g, 0, none⟩) (cap := cap) (n := n) (V := vK n) (L := sortI L) (w := W0) (MR.row (base := w.heap.size) (cap := cap) (by rw [hlen]; exact hr)) (by omega) (by omega) (mapI_nodup hn (by omega) hk.sort (by
      rw [List.nodup_iff_pairwise_ne]
      exact List.Pairwise.imp (fun h e => by rw [e] at h; exact absurd h (List.lt_irrefl _)) (List.pairwise_map.2 (sortI_strict hnd)))) (hv W0 h0)
    rw [hlen, sort_mapI hn (by omega) hk hnd] at h
    exact h
  have HC := Lib.hid hc
  clear hc hv hP htab hm hsv hk hnd hl hO op hb hn hl0 hlen
  generalize qstr q = s at *
  go_enter Tryz.func37, Tryz.ntmps37
  go_wp2_with fail
  refine HW.out.mono ?_
  rintro e w1 ⟨ao, cap, rfl, hrow, hb⟩
  have HB := Lib.hid hb
  have HPD := Lib.hid (HP.out w1 ao cap (srow_prow hrow) (HTAB.out w1 hb))
  clear hb hrow HW HP HTAB
  go_wp2_with fail
  refine HPD.out.mono ?_
  rintro e w2 ⟨v, rfl, hrow, hb⟩
  have HR := Lib.hid (row_low hrow HB.out.size)
  replace HB := Lib.hid (HB.out.trans (hb.mono HB.out.size))
  clear hb hrow HPD
  go_wp2_with fail
  refine (HC.out _ _ HB.out HR.out).mono ?_
  rintro e w3 ⟨v', rfl, hrow, hb⟩
  have HR3 := Lib.hid (And.intro (row_low hrow HB.out.size) (HB.out.trans (hb.mono HB.out.size)))
  clear hb hrow HC HB HR
  go_wp2_with fail
  go_ret2
  exact ⟨_, rfl, HR3.out.1, HR3.out.2⟩

set_option maxHeartbeats 3200000 in
set_option maxRecDepth 100000 in
/-- Law, where the number of bits is out of range. -/
theorem bLaw_r {q : Rat} {n : Nat} {m c : Int} (op : QOk q) (hb : belE q = 0) (hn : n ≤ 16) (hO : bwO q.den n = 0) (w : World) (htab : Tab w) (hm : ML w)
    (hP : ∀ W ao cap, PRow W ao (2 * n + 1) (wB q n) → Tab W → Calls Tryz.prog 27 #[.slice ao (2 * n + 1) cap, .int .i64 m] W fun e w' => e = .returned (.tuple #[.slice none 0 0, .int .i64 c]) ∧ Below W.heap.size W w') :
    Calls Tryz.prog 37 #[.string (qstr q), .int .i64 (n : Int), .int .i64 m] w fun e w' => e = .returned (.tuple #[.slice none 0 0, .int .i64 c]) ∧ Below w.heap.size w w' := by
  have HW := Lib.hid (weights_ok op hb hn hO w htab hm)
  have HP := Lib.hid hP
  have HTAB := Lib.hid (fun W (h : Below w.heap.size w W) => htab.below h)
  have HC := Lib.hid (fun W => centred_nil (n : Int) W)
  generalize qstr q = s at *
  clear op hb hO hm htab hP hn
  go_enter Tryz.func37, Tryz.ntmps37
  go_wp2_with fail
  refine HW.out.mono ?_
  rintro e w1 ⟨ao, cap, rfl, hrow, hb⟩
  have HB := Lib.hid hb
  have HPD := Lib.hid (HP.out w1 ao cap (srow_prow hrow) (HTAB.out w1 hb))
  clear hb hrow HW HP HTAB
  go_wp2_with fail
  refine HPD.out.mono ?_
  rintro e w2 ⟨rfl, hb⟩
  replace HB := Lib.hid (HB.out.trans (hb.mono HB.out.size))
  clear hb HPD
  go_wp2_with fail
  refine (HC.out _).mono ?_
  rintro e w3 ⟨rfl, hb⟩
  replace HB := Lib.hid (HB.out.trans (hb.mono HB.out.size))
  clear hb HC
  go_wp2_with fail
  go_ret2
  exact ⟨rfl, HB.out⟩

open Go.RowKit NV
open Go.Lib (decDigits)

set_option maxHeartbeats 1600000 in
set_option maxRecDepth 100000 in
/-- Same of two slices of the same numbers. -/
theorem Same_num {w : World} {a1 a2 : Option Addr} {N c1 c2 : Nat} {f : Nat → ByteArray} (hg : PRow w a1 N f) (hh : PRow w a2 N f) (hN : N ≤ 1000000) :
    Calls Tryz.prog 31 #[.slice a1 N c1, .slice a2 N c2] w fun e w' => e = .returned (.bool true) ∧ Below w.heap.size w w' := by
  have HG := Lib.hid hg
  have HH := Lib.hid hh
  clear hg hh
  go_enter Tryz.func31, Tryz.ntmps31
  go_wp2_with fail
  go_loopw [5] (fun i wr => ∃ k : Nat, k ≤ N ∧ i = .int .i64 (k : Int) ∧ Below w.heap.size w wr) (fun i _ => N - (intOf i).toNat)
  case atStart => exact ⟨0, Nat.zero_le _, rfl, Below.refl _ _⟩
  case round =>
    obtain ⟨k, hk, rfl, hbr⟩ := hrel
    by_cases hlt : k < N
    · rcases (HG.out.below hbr) with h0 | ⟨a, rfl, ha, hc1⟩
      · omega
      rcases (HH.out.below hbr) with h0 | ⟨b, rfl, hb, hc2⟩
      · omega
      have d1 := hc1 k hlt
      have d2 := hc2 k hlt
      have hne : (!((f k).toList == (f k).toList)) = false := by simp
      have HB := Lib.hid hbr
      clear hbr hc1 hc2 ha hb HG HH
      generalize f k = t at d1 d2 hne
      go_wp2_with fail
      go_quiet (fail)
      go_wp2_with fail
      go_roundw
      case rel => exact ⟨k + 1, by omega, by go_num, below_drewN HB.out _⟩
      case measure => simp [intOf]; omega
    · have HB := Lib.hid hbr
      clear hbr
      go_wp2_with fail
      go_ret
      exact ⟨rfl, HB.out⟩


theorem wN_bells (q : Rat) (n : Nat) : wN (wB q n) = bM q n := funext (wN_bell q n)

def qh : Rat := ⟨1, 2, by decide, by decide⟩
theorem sqh : qstr qh = ⟨#[49, 47, 50]⟩ := (frac_str false 1 2 (by omega) (by omega) (by omega)).trans rfl
theorem qh_ok : QOk qh := ⟨ok_two (n := 2) (by omega) (by decide), ok_two (n := 2) (by omega) (by decide)⟩
theorem qh_b : belE qh = 0 := by decide
theorem small_bw {d n : Nat} (h : d ^ (n * n) < 10 ^ 4) : bwO d n = 0 := by
  unfold bwO
  rw [if_pos]
  exact Nat.le_trans (small_dstr (K := 4) (by omega) h) (by omega)
theorem qh_o1 : bwO qh.den 1 = 0 := small_bw (by decide)
theorem qh_o2 : bwO qh.den 2 = 0 := small_bw (by decide)
theorem dstr_16 : dstr 16 = ⟨#[49, 54]⟩ := by
  apply ba_extP
  rw [dstr_list, decDigits, dif_neg (by omega), dec_small (by omega)]
  rfl
theorem dstr_8 : dstr 8 = ⟨#[56]⟩ := by
  apply ba_extP
  rw [dstr_list, dec_small (by omega)]
  rfl
theorem wB_qh2 : ∀ j, j < 5 → wB qh 2 j = ([⟨#[49]⟩, ⟨#[56]⟩, ⟨#[49, 54]⟩, ⟨#[56]⟩, ⟨#[49]⟩] : List ByteArray).getD j ⟨#[]⟩ := fun j hj => by
  rw [wB_text]
  match j, hj with
  | 0, _ => show dstr (bM qh 2 0) = _; rw [show bM qh 2 0 = 1 by decide, ← one_str]; rfl
  | 1, _ => show dstr (bM qh 2 1) = _; rw [show bM qh 2 1 = 8 by decide, dstr_8]; rfl
  | 2, _ => show dstr (bM qh 2 2) = _; rw [show bM qh 2 2 = 16 by decide, dstr_16]; rfl
  | 3, _ => show dstr (bM qh 2 3) = _; rw [show bM qh 2 3 = 8 by decide, dstr_8]; rfl
  | 4, _ => show dstr (bM qh 2 4) = _; rw [show bM qh 2 4 = 1 by decide, ← one_str]; rfl
theorem PRow.congrJ {w : World} {ao : Option Addr} {N : Nat} {f g : Nat → ByteArray} (h : PRow w ao N f) (hf : ∀ j, j < N → f j = g j) : PRow w ao N g := by
  rcases h with h | ⟨a, h1, h2, h3⟩
  · exact .inl h
  · exact .inr ⟨a, h1, h2, fun j hj => by rw [← hf j hj]; exact h3 j hj⟩
theorem pick_qh : PickIs (wsum (wN (wB qh 1))) (2 * 1 + 1) ([48, 48] : List UInt8) true 0 2 := by
  rw [wN_bells]; decide

set_option maxHeartbeats 3200000 in
set_option maxRecDepth 100000 in
theorem lives7_any (w : World) (htab : Tab w) (hm : ML w) : Calls Tryz.prog 32 #[] w fun e w' => e = .returned (.bool true) ∧ Below w.heap.size w w' := by
  have h1 := weights_ok (n := 2) qh_ok qh_b (by omega) qh_o2 w htab hm
  have h2 := fun W (h : Below w.heap.size w W) => bDraw_true (n := 1) (b := ⟨#[48, 48]⟩) (v := 0) (u := 2) (c := 0) qh_ok qh_b (by omega) qh_o1 (by omega) W (htab.below h) (ml_keep hm (ml_pos hm) h)
    (fun W' ao cap hr ht => pDraw_ok (d := true) (v := 0) (u := 2) hr (wB_ok qh_b (by omega) qh_o1) ht (bits_litP (by decide)) (by decide) pick_qh)
  have hb5 : ∀ W B, W.heap[B]? = some (.cells #[.string ⟨#[49]⟩, .string ⟨#[56]⟩, .string ⟨#[49, 54]⟩, .string ⟨#[56]⟩, .string ⟨#[49]⟩] 22 (0, 0)) → PRow W (some ⟨B, 0, none⟩) 5 (wB qh 2) := fun W B hB =>
    (show PRow W (some ⟨B, 0, none⟩) 5 (([⟨#[49]⟩, ⟨#[56]⟩, ⟨#[49, 54]⟩, ⟨#[56]⟩, ⟨#[49]⟩] : List ByteArray).getD · ⟨#[]⟩) from PRow.lit (l := [⟨#[49]⟩, ⟨#[56]⟩, ⟨#[49, 54]⟩, ⟨#[56]⟩, ⟨#[49]⟩]) hB).congrJ (fun j hj => (wB_qh2 j hj).symm)
  rw [sqh] at h1 h2
  have H1 := Lib.hid h1
  have H2 := Lib.hid h2
  have H5 := Lib.hid hb5
  clear h1 h2 hb5 htab hm
  go_enter Tryz.func32, Tryz.ntmps32
  go_wp2_with fail
  refine H1.out.mono ?_
  rintro e w1 ⟨ao, cap, rfl, hrow, hb⟩
  have HB := Lib.hid hb
  have HP := Lib.hid (srow_prow hrow)
  clear hb hrow H1
  go_wp2_with fail
  refine (H2.out _ HB.out).mono ?_
  rintro e w2 ⟨rfl, hb⟩
  replace HP := Lib.hid (HP.out.below hb)
  have HD := Lib.hid (DR.new w2 true (-1) 2)
  replace HP := Lib.hid (HP.out.below ((Below.refl _ _).alloc (Nat.le_refl _) (drO true (-1) 2)))
  replace HB := Lib.hid (HB.out.trans ((hb.alloc hb.size (drO true (-1) 2)).mono HB.out.size))
  clear hb H2
  have hS := Same_num (c1 := cap) (c2 := 5) (HP.out.below ((Below.refl _ _).alloc (Nat.le_refl _) (.cells #[.string ⟨#[49]⟩, .string ⟨#[56]⟩, .string ⟨#[49, 54]⟩, .string ⟨#[56]⟩, .string ⟨#[49]⟩] 22))) (H5.out _ (w2.heap.size + 1) (by have h := heap_alloc_new (w2.alloc (drO true (-1) 2)) (.cells #[.string ⟨#[49]⟩, .string ⟨#[56]⟩, .string ⟨#[49, 54]⟩, .string ⟨#[56]⟩, .string ⟨#[49]⟩] 22); rw [World.size_alloc] at h; exact h)) (by omega)
  have HS := Lib.hid hS
  replace HD := Lib.hid (HD.out.below ((Below.refl _ _).alloc (Nat.le_refl _) (.cells #[.string ⟨#[49]⟩, .string ⟨#[56]⟩, .string ⟨#[49, 54]⟩, .string ⟨#[56]⟩, .string ⟨#[49]⟩] 22)))
  replace HB := Lib.hid (HB.out.alloc HB.out.size (.cells #[.string ⟨#[49]⟩, .string ⟨#[56]⟩, .string ⟨#[49, 54]⟩, .string ⟨#[56]⟩, .string ⟨#[49]⟩] 22))
  clear hS H5 HP
  have he := eq_dr true true (-1) 2 (-1) 2
  go_wp2_with fail
  refine HS.out.mono ?_
  rintro e w3 ⟨rfl, hb⟩
  obtain ⟨c0, c1, c2⟩ := (HD.out.below hb).c
  replace HB := Lib.hid (HB.out.trans (hb.mono HB.out.size))
  clear hb HS HD
  go_wp2_with fail
  go_ret
  exact ⟨rfl, HB.out⟩

end Go.Proofs.YteojekiocecdnaaGreatDoor
