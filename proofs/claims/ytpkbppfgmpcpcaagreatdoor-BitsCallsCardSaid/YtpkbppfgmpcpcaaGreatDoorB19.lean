/-
  Join; Same of two rows of texts.
-/
import Derived.Test.YtpkbppfgmpcpcaaGreatDoorB17
import Derived.Test.YtpkbppfgmpcpcaaGreatDoorB18
namespace Go.Proofs.YtpkbppfgmpcpcaaGreatDoor
open Go.RowKit NV
open Go.Lib (decDigits)

/-- The first k of many lists, one behind the other. -/
def catL (g : Nat → List UInt8) : Nat → List UInt8
  | 0 => []
  | k + 1 => catL g k ++ g k
theorem catL_congr {g h : Nat → List UInt8} : ∀ {k : Nat}, (∀ j, j < k → g j = h j) → catL g k = catL h k
  | 0, _ => rfl
  | k + 1, e => by rw [catL, catL, catL_congr (k := k) (fun j hj => e j (by omega)), e k (by omega)]
theorem catL_len {g : Nat → List UInt8} {c : Nat} : ∀ {k : Nat}, (∀ j, j < k → (g j).length = c) → (catL g k).length = k * c
  | 0, _ => by simp [catL]
  | k + 1, e => by rw [catL, List.length_append, catL_len (k := k) (fun j hj => e j (by omega)), e k (by omega), Nat.succ_mul]
theorem catL_le {g : Nat → List UInt8} {c : Nat} : ∀ {k : Nat}, (∀ j, j < k → (g j).length ≤ c) → (catL g k).length ≤ k * c
  | 0, _ => by simp [catL]
  | k + 1, e => by
    have h1 := catL_le (g := g) (c := c) (k := k) (fun j hj => e j (by omega))
    have h2 := e k (by omega)
    rw [catL, List.length_append, Nat.succ_mul]; omega
theorem cat_pieces {s : ByteArray} {c : Nat} : ∀ {k : Nat}, k * c ≤ s.size → catL (fun j => (piece s c j).data.toList) k = s.data.toList.take (k * c)
  | 0, _ => by simp [catL]
  | k + 1, h => by
    rw [catL, cat_pieces (k := k) (by rw [Nat.succ_mul] at h; omega), piece_list, Nat.succ_mul, List.take_add]

/-- A slice of N texts: f. -/
def TRow (w : World) (ao : Option Addr) (N : Nat) (f : Nat → ByteArray) : Prop :=
  N = 0 ∨ ∃ a, ao = some a ∧ a.block < w.heap.size ∧ ∀ j, j < N → w.cell? (a.add j) = some (.string (f j))
theorem TRow.below {w w' : World} {ao : Option Addr} {N : Nat} {f : Nat → ByteArray} (h : TRow w ao N f) (hb : Below w.heap.size w w') : TRow w' ao N f := by
  rcases h with h | ⟨a, h1, h2, h3⟩
  · exact .inl h
  · refine .inr ⟨a, h1, Nat.lt_of_lt_of_le h2 hb.size, fun j hj => ?_⟩
    have hbl : (a.add j).block = a.block := by unfold Addr.add; split <;> rfl
    exact (hb.cell (p := a.add j) (by rw [hbl]; exact h2)).trans (h3 j hj)
theorem SRow.trow {w : World} {v : Value} {N : Nat} {f : Nat → ByteArray} (h : SRow w v N f) : ∃ ao cap, v = .slice ao N cap ∧ TRow w ao N f ∧ (N = 0 → True) := by
  rcases h with ⟨h, rfl⟩ | ⟨g, cap, h1, h2, h3⟩
  · exact ⟨_, _, h, .inl rfl, fun _ => trivial⟩
  · exact ⟨_, _, h1, .inr ⟨_, rfl, h2, fun j hj => by rw [Addr.add_lit, Nat.zero_add]; exact h3 j hj⟩, fun _ => trivial⟩

theorem catB_step {g : Nat → List UInt8} {s : ByteArray} {k : Nat} (h : s.data.toList = g k) : Lib.byteCells (catL g (k + 1)) = Lib.byteCells (catL g k) ++ Lib.strCells s := by
  rw [Lib.strCells_eq, h, catL]; simp [Lib.byteCells]

set_option maxHeartbeats 3200000 in
set_option maxRecDepth 100000 in
theorem Join_ok {ao : Option Addr} {N cap : Nat} {f : Nat → ByteArray} (w : World) (h : TRow w ao N f) (hN : N ≤ 1000) (hall : ∀ j, j < N → IsBits (f j).data.toList) (hsz : ∀ j, j < N → (f j).size ≤ 1000) :
    Calls Tryz.prog 26 #[.slice ao N cap] w fun e w' => e = .returned (.tuple #[.string ⟨(catL (fun j => (f j).data.toList) N).toArray⟩, .int .i64 0]) ∧ Below w.heap.size w w' := by
  have hlen : ∀ k, k ≤ N → (catL (fun j => (f j).data.toList) k).length ≤ 1000000 := fun k hk => by
    have := catL_le (g := fun j => (f j).data.toList) (c := 1000) (k := k) (fun j hj => by have := hsz j (by omega); rw [Go.Lib.size_eq] at this; exact this)
    have : k * 1000 ≤ 1000 * 1000 := Nat.mul_le_mul_right _ (by omega)
    omega
  have HT := Lib.hid h
  have HALL := Lib.hid hall
  have HSZ := Lib.hid hsz
  have HLEN := Lib.hid hlen
  have hw1 := writer_new w
  have hz1 := WrZ.new w
  have hb1 : Below w.heap.size w (w.alloc (.cells #[.pointer none, .slice none 0 0] 93)) := (Below.refl _ _).alloc (Nat.le_refl _) _
  have HS := Lib.hid (And.intro hw1 (And.intro hz1 hb1))
  clear h hall hsz hlen hw1 hz1 hb1
  go_enter Tryz.func26, Tryz.ntmps26
  go_wp2_with fail
  go_loopw [10] (fun i wr => ∃ k : Nat, k ≤ N ∧ i = .int .i64 (k : Int) ∧ Wr w.heap.size w.heap.size (Lib.byteCells (catL (fun j => (f j).data.toList) k)) wr ∧ WrZ w.heap.size (Lib.byteCells (catL (fun j => (f j).data.toList) k)) wr ∧ Below w.heap.size w wr) (fun i _ => N - (intOf i).toNat)
  case atStart => exact ⟨0, Nat.zero_le _, rfl, HS.out.1, HS.out.2.1, HS.out.2.2⟩
  case round =>
    obtain ⟨k, hk, rfl, hw, hz, hb⟩ := hrel
    clear HS
    by_cases hlt : k < N
    · rcases HT.out with h0 | ⟨a, rfl, ha, hcell⟩
      · omega
      have c0 : wr.cell? (a.add k) = some (.string (f k)) := by
        have hbl : (a.add k).block = a.block := by unfold Addr.add; split <;> rfl
        exact (hb.cell (p := a.add k) (by rw [hbl]; exact ha)).trans (hcell k hlt)
      have hck := bCheck_any (f k) wr (by have := HSZ.out k hlt; omega)
      rw [bchk_yes (HALL.out k hlt)] at hck
      have HC := Lib.hid hck
      have HWS := Lib.hid (WriteString_w w.heap.size w.heap.size _ (f k) wr hw hz (by rw [Lib.byteCells_length]; have h1 := HLEN.out k hk; have h2 := HSZ.out k hlt; omega) hb.size)
      have HST := Lib.hid (catB_step (g := fun j => (f j).data.toList) (s := f k) (k := k) rfl)
      have HB := Lib.hid hb
      have HLT := Lib.hid hw.lt
      clear hw hz hb hck hcell ha HT
      go_wp2_with fail
      refine HC.out.mono ?_
      rintro e w1 ⟨rfl, rfl⟩
      clear HC
      go_wp2_with fail
      refine HWS.out.mono ?_
      rintro e w2 ⟨rfl, hw2, hz2, hb2⟩
      have HF := Lib.hid (And.intro hw2 (And.intro hz2 (HB.out.trans hb2)))
      clear hw2 hz2 hb2 HWS
      go_wp2_with fail
      go_roundw
      case rel => exact ⟨k + 1, by omega, by go_num, by rw [HST.out]; exact .inr HF.out.1, by rw [HST.out]; exact HF.out.2.1, HF.out.2.2⟩
      case measure => simp [intOf]; omega
    · obtain rfl : k = N := by omega
      have HTX := Lib.hid (text_z w.heap.size w.heap.size _ wr hw hz)
      have HB := Lib.hid hb
      clear hw hz hb HT
      go_wp2_with fail
      refine HTX.out.mono ?_
      rintro e w2 ⟨rfl, hb2⟩
      have HB2 := Lib.hid (HB.out.trans hb2)
      clear hb2 HTX
      go_wp2_with fail
      go_ret2
      exact ⟨rfl, HB2.out⟩

set_option maxHeartbeats 3200000 in
set_option maxRecDepth 100000 in
theorem Join_no {ao : Option Addr} {N cap K : Nat} {f : Nat → ByteArray} (w : World) (h : TRow w ao N f) (hN : N ≤ 1000) (hK : K < N) (hall : ∀ j, j < K → IsBits (f j).data.toList) (hbad : ¬ IsBits (f K).data.toList) (hsz : ∀ j, j < N → (f j).size ≤ 1000) :
    Calls Tryz.prog 26 #[.slice ao N cap] w fun e w' => e = .returned (.tuple #[.string ⟨#[]⟩, .int .i64 3]) ∧ Below w.heap.size w w' := by
  have hlen : ∀ k, k ≤ N → (catL (fun j => (f j).data.toList) k).length ≤ 1000000 := fun k hk => by
    have := catL_le (g := fun j => (f j).data.toList) (c := 1000) (k := k) (fun j hj => by have := hsz j (by omega); rw [Go.Lib.size_eq] at this; exact this)
    have : k * 1000 ≤ 1000 * 1000 := Nat.mul_le_mul_right _ (by omega)
    omega
  obtain ⟨a, rfl, ha, hcell⟩ : ∃ a, ao = some a ∧ a.block < w.heap.size ∧ ∀ j, j < N → w.cell? (a.add j) = some (.string (f j)) := by
    rcases h with h | h
    · omega
    · exact h
  have HA := Lib.hid (And.intro ha hcell)
  have HALL := Lib.hid hall
  have HBAD := Lib.hid hbad
  have HSZ := Lib.hid hsz
  have HLEN := Lib.hid hlen
  have hw1 := writer_new w
  have hz1 := WrZ.new w
  have hb1 : Below w.heap.size w (w.alloc (.cells #[.pointer none, .slice none 0 0] 93)) := (Below.refl _ _).alloc (Nat.le_refl _) _
  have HS := Lib.hid (And.intro hw1 (And.intro hz1 hb1))
  clear h hall hsz hlen hw1 hz1 hb1 ha hcell hbad
  go_enter Tryz.func26, Tryz.ntmps26
  go_wp2_with fail
  go_loopw [10] (fun i wr => ∃ k : Nat, k ≤ K ∧ i = .int .i64 (k : Int) ∧ Wr w.heap.size w.heap.size (Lib.byteCells (catL (fun j => (f j).data.toList) k)) wr ∧ WrZ w.heap.size (Lib.byteCells (catL (fun j => (f j).data.toList) k)) wr ∧ Below w.heap.size w wr) (fun i _ => N - (intOf i).toNat)
  case atStart => exact ⟨0, Nat.zero_le _, rfl, HS.out.1, HS.out.2.1, HS.out.2.2⟩
  case round =>
    obtain ⟨k, hk, rfl, hw, hz, hb⟩ := hrel
    clear HS
    have hlt : k < N := by omega
    have c0 : wr.cell? (a.add k) = some (.string (f k)) := by
      have hbl : (a.add k).block = a.block := by unfold Addr.add; split <;> rfl
      exact (hb.cell (p := a.add k) (by rw [hbl]; exact HA.out.1)).trans (HA.out.2 k hlt)
    have hck := bCheck_any (f k) wr (by have := HSZ.out k hlt; omega)
    by_cases hkK : k < K
    · rw [bchk_yes (HALL.out k hkK)] at hck
      have HC := Lib.hid hck
      have HWS := Lib.hid (WriteString_w w.heap.size w.heap.size _ (f k) wr hw hz (by rw [Lib.byteCells_length]; have h1 := HLEN.out k (by omega); have h2 := HSZ.out k hlt; omega) hb.size)
      have HST := Lib.hid (catB_step (g := fun j => (f j).data.toList) (s := f k) (k := k) rfl)
      have HB := Lib.hid hb
      have HLT := Lib.hid hw.lt
      clear hw hz hb hck
      go_wp2_with fail
      refine HC.out.mono ?_
      rintro e w1 ⟨rfl, rfl⟩
      clear HC
      go_wp2_with fail
      refine HWS.out.mono ?_
      rintro e w2 ⟨rfl, hw2, hz2, hb2⟩
      have HF := Lib.hid (And.intro hw2 (And.intro hz2 (HB.out.trans hb2)))
      clear hw2 hz2 hb2 HWS
      go_wp2_with fail
      go_roundw
      case rel => exact ⟨k + 1, by omega, by go_num, by rw [HST.out]; exact .inr HF.out.1, by rw [HST.out]; exact HF.out.2.1, HF.out.2.2⟩
      case measure => simp [intOf]; omega
    · obtain rfl : k = K := by omega
      rw [bchk_no HBAD.out] at hck
      have HC := Lib.hid hck
      have HB := Lib.hid hb
      clear hw hz hb hck
      go_wp2_with fail
      refine HC.out.mono ?_
      rintro e w1 ⟨rfl, rfl⟩
      clear HC
      go_wp2_with fail
      go_ret2
      exact ⟨rfl, HB.out⟩

set_option maxHeartbeats 1600000 in
set_option maxRecDepth 100000 in
/-- Same of two slices of the same texts. -/
theorem Same_row {w : World} {a1 a2 : Option Addr} {N c1 c2 : Nat} {f : Nat → ByteArray} (hg : TRow w a1 N f) (hh : TRow w a2 N f) (hN : N ≤ 1000000) :
    Calls Tryz.prog 29 #[.slice a1 N c1, .slice a2 N c2] w fun e w' => e = .returned (.bool true) ∧ Below w.heap.size w w' := by
  have HG := Lib.hid hg
  have HH := Lib.hid hh
  clear hg hh
  go_enter Tryz.func29, Tryz.ntmps29
  go_wp2_with fail
  go_loopw [5] (fun i wr => ∃ k : Nat, k ≤ N ∧ i = .int .i64 (k : Int) ∧ Below w.heap.size w wr) (fun i _ => N - (intOf i).toNat)
  case atStart => exact ⟨0, Nat.zero_le _, rfl, Below.refl _ _⟩
  case round =>
    obtain ⟨k, hk, rfl, hbr⟩ := hrel
    by_cases hlt : k < N
    · rcases (HG.out.below hbr) with h0 | ⟨a, rfl, ha, hc1⟩
      · omega
      rcases (HH.out.below hbr) with h0 | ⟨b, rfl, hb, hc2⟩
      · omega
      have d1 := hc1 k hlt
      have d2 := hc2 k hlt
      have hne : (!((f k).toList == (f k).toList)) = false := by simp
      have HB := Lib.hid hbr
      clear hbr hc1 hc2 ha hb HG HH
      generalize f k = t at d1 d2 hne
      go_wp2_with fail
      go_quiet (fail)
      go_wp2_with fail
      go_roundw
      case rel => exact ⟨k + 1, by omega, by go_num, below_drewN HB.out _⟩
      case measure => simp [intOf]; omega
    · have HB := Lib.hid hbr
      clear hbr
      go_wp2_with fail
      go_ret
      exact ⟨rfl, HB.out⟩

end Go.Proofs.YtpkbppfgmpcpcaaGreatDoor
