/-
  A column in memory; the conditions of its checks.
-/
import Derived.Test.YtgehldadfaonbaaDoorSI
import Derived.Deep.RegionHeld3
namespace Go.Proofs.YtgehldadfaonbaaDoor
open Go.RowKit Go.Shelf Go.ChangeMaps Go.Maps

structure Col where
  name : ByteArray
  lo : Int
  hi : Int
  wa : Option Addr
  wc : Nat
  ws : List ByteArray
abbrev Col.cells (c : Col) : Array Value := #[.string c.name, .int .i64 c.lo, .int .i64 c.hi, .slice c.wa c.ws.length c.wc]
/-- What is known of a column that came in. -/
structure ColOk (w : World) (c : Col) : Prop where
  words : TL w c.wa c.ws
  few : c.ws.length ≤ 9223372036854775807
  short : c.name.size ≤ maxLen
  shorts : ∀ j, (c.ws.getD j ByteArray.empty).size ≤ maxLen
  lo1 : -9223372036854775808 ≤ c.lo
  lo2 : c.lo ≤ 9223372036854775807
  hi1 : -9223372036854775808 ≤ c.hi
  hi2 : c.hi ≤ 9223372036854775807
theorem TL.ch {S : Nat → Prop} {w w' : World} {ao : Option Addr} {l : List ByteArray} (h : TL w ao l) (hc : Ch S w w') (hs : ∀ a v, ao = some a → w.cell? (a.add 0) = some v → ¬ S a.block) : TL w' ao l := by
  rcases h with h | ⟨a, h1, h2, h3⟩
  · exact .inl h
  · by_cases hl : l = []
    · exact .inl hl
    · have hp : 0 < l.length := List.length_pos_iff.2 hl
      have hn := hs a _ h1 (h3 0 hp)
      exact .inr ⟨a, h1, Nat.lt_of_lt_of_le h2 hc.size, fun j hj => by
        have hb := hc.block a.block h2 hn
        exact (World.cell?_of_block (w := w) (a := a.add j) (by rw [addS_block]; exact hb)).trans (h3 j hj)⟩
theorem ColOk.below {w w' : World} {c : Col} (h : ColOk w c) (hb : Below w.heap.size w w') : ColOk w' c := ⟨h.words.below hb, h.few, h.short, h.shorts, h.lo1, h.lo2, h.hi1, h.hi2⟩

/-- Block b holds the column c. -/
def ColAt (w : World) (b : Nat) (c : Col) : Prop := w.heap[b]? = some (.cells c.cells 44 (0, 0))
theorem ColAt.lt {w : World} {b : Nat} {c : Col} (h : ColAt w b c) : b < w.heap.size := (Array.getElem?_eq_some_iff.1 h).1
theorem ColAt.ch {S : Nat → Prop} {w w' : World} {b : Nat} {c : Col} (h : ColAt w b c) (hc : Ch S w w') (hs : ¬ S b) : ColAt w' b c := (hc.block b h.lt hs).trans h
theorem ColAt.below {w w' : World} {b : Nat} {c : Col} (h : ColAt w b c) (hb : Below w.heap.size w w') : ColAt w' b c := h.ch (S := fun _ => False) (Ch.below hb) (fun h => h)
theorem ColAt.c0 {w : World} {b : Nat} {c : Col} (h : ColAt w b c) : w.cell? ⟨b, 0, none⟩ = some (.string c.name) := cell_of_row w b 0 _ _ _ h
theorem ColAt.c1 {w : World} {b : Nat} {c : Col} (h : ColAt w b c) : w.cell? ⟨b, 1, none⟩ = some (.int .i64 c.lo) := cell_of_row w b 1 _ _ _ h
theorem ColAt.c2 {w : World} {b : Nat} {c : Col} (h : ColAt w b c) : w.cell? ⟨b, 2, none⟩ = some (.int .i64 c.hi) := cell_of_row w b 2 _ _ _ h
theorem ColAt.c3 {w : World} {b : Nat} {c : Col} (h : ColAt w b c) : w.cell? ⟨b, 3, none⟩ = some (.slice c.wa c.ws.length c.wc) := cell_of_row w b 3 _ _ _ h

theorem cc1_any {w : World} {b : Nat} {c : Col} (h : ColAt w b c) (hR : Res w) : Calls Tryd.prog 66 #[.pointer (some ⟨b, 0, none⟩)] w fun e w' => e = .returned (.bool (nmB c.name)) ∧ Below w.heap.size w w' := by
  have c0 := h.c0
  have HN := Lib.hid (name_any c.name w hR)
  clear h
  go_enter Tryd.func66, Tryd.ntmps66
  go_wp2_with fail
  refine HN.out.mono ?_
  rintro e w1 ⟨rfl, hb⟩
  have HB := Lib.hid hb
  obtain ⟨v, hv⟩ : ∃ v, v = nmB c.name := ⟨_, rfl⟩
  rw [← hv]
  have HV := Lib.hid hv
  clear hb c0 hv
  go_wp2
  go_ret
  exact ⟨by rw [← HV.out]; rfl, HB.out⟩

theorem cc2_any {w : World} {b bi q mb n : Nat} {c : Col} {S : ByteArray → ByteArray → Bool} (h : ColAt w b c) (hq : Boxed w q 39 (inV bi)) (hi : InAt w bi mb ⟨#[]⟩) (hm : Marks w mb n S) (hx : c.name.size ≤ maxLen) (hn : n < maxLen) :
    Calls Tryd.prog 67 #[.pointer (some ⟨q, 0, none⟩), .pointer (some ⟨b, 0, none⟩)] w fun e w' => e = .returned (.bool (!S ⟨#[]⟩ c.name)) ∧ Marks w' mb (n + 1) (putS S ⟨#[]⟩ c.name) ∧ Ch (fun j => j = mb) w w' := by
  have c0 := h.c0
  have d0 := hq.cell
  have HN := Lib.hid (in1_any hi hm (Nat.zero_le _) hx hn)
  have eg := enters_in
  clear h hq hi hm
  go_enter Tryd.func67, Tryd.ntmps67
  go_wp2_with fail
  refine HN.out.mono ?_
  rintro e w1 ⟨rfl, hb⟩
  have HB := Lib.hid hb
  obtain ⟨v, hv⟩ : ∃ v, v = !S ⟨#[]⟩ c.name := ⟨_, rfl⟩
  rw [← hv]
  have HV := Lib.hid hv
  clear hb c0 hv d0
  go_wp2
  go_ret
  exact ⟨by rw [← HV.out]; rfl, HB.out⟩

/-- Whether a column without words has values. -/
def rangeB (c : Col) : Bool := decide (-1000000 ≤ c.lo) && (decide (c.lo ≤ c.hi) && decide (c.hi ≤ 1000000))
theorem cc3_any {w : World} {b : Nat} {c : Col} (h : ColAt w b c) : Calls Tryd.prog 69 #[.pointer (some ⟨b, 0, none⟩)] w fun e w' => e = .returned (.bool (rangeB c)) ∧ w = w' := by
  have c1 := h.c1
  have c2 := h.c2
  obtain ⟨lo, hlo⟩ : ∃ lo, lo = c.lo := ⟨_, rfl⟩
  obtain ⟨hi, hhi⟩ : ∃ hi, hi = c.hi := ⟨_, rfl⟩
  unfold rangeB
  rw [← hlo, ← hhi]
  rw [← hlo] at c1
  rw [← hhi] at c2
  clear h hlo hhi
  by_cases h1 : -1000000 ≤ lo
  · by_cases h2 : lo ≤ hi
    · by_cases h3 : hi ≤ 1000000
      · rw [decide_eq_true h1, decide_eq_true h2, decide_eq_true h3]
        go_enter Tryd.func69, Tryd.ntmps69
        go_wp2
        go_ret
        exact ⟨rfl, rfl⟩
      · rw [decide_eq_true h1, decide_eq_true h2, decide_eq_false h3]
        go_enter Tryd.func69, Tryd.ntmps69
        go_wp2
        go_ret
        exact ⟨rfl, rfl⟩
    · rw [decide_eq_true h1, decide_eq_false h2]
      go_enter Tryd.func69, Tryd.ntmps69
      go_wp2
      go_ret
      exact ⟨rfl, rfl⟩
  · rw [decide_eq_false h1]
    go_enter Tryd.func69, Tryd.ntmps69
    go_wp2
    go_ret
    exact ⟨rfl, rfl⟩

theorem wc1_any {w : World} {b : Nat} {c : Col} (h : ColAt w b c) (hf : c.ws.length ≤ 9223372036854775807) : Calls Tryd.prog 84 #[.pointer (some ⟨b, 0, none⟩)] w fun e w' => e = .returned (.bool (decide (c.ws.length ≤ 64))) ∧ w = w' := by
  have c3 := h.c3
  clear h
  by_cases h1 : c.ws.length ≤ 64
  · rw [decide_eq_true h1]
    have q : decide ((c.ws.length : Int) ≤ 64) = true := decide_eq_true (by omega)
    go_enter Tryd.func84, Tryd.ntmps84
    go_wp2
    go_ret
    exact ⟨rfl, rfl⟩
  · rw [decide_eq_false h1]
    have q : decide ((c.ws.length : Int) ≤ 64) = false := decide_eq_false (by omega)
    go_enter Tryd.func84, Tryd.ntmps84
    go_wp2
    go_ret
    exact ⟨rfl, rfl⟩

/-- Whether the values of a column with words are their places. -/
def placeB (c : Col) : Bool := decide (c.lo = 0) && decide (c.hi = (c.ws.length : Int) - 1)
theorem wc4_any {w : World} {b : Nat} {c : Col} (h : ColAt w b c) (hf : c.ws.length ≤ 9223372036854775807) : Calls Tryd.prog 88 #[.pointer (some ⟨b, 0, none⟩)] w fun e w' => e = .returned (.bool (placeB c)) ∧ w = w' := by
  have c1 := h.c1
  have c2 := h.c2
  have c3 := h.c3
  obtain ⟨lo, hlo⟩ : ∃ lo, lo = c.lo := ⟨_, rfl⟩
  obtain ⟨hi, hhi⟩ : ∃ hi, hi = c.hi := ⟨_, rfl⟩
  obtain ⟨N, hN⟩ : ∃ N, N = c.ws.length := ⟨_, rfl⟩
  unfold placeB
  rw [← hlo, ← hhi, ← hN]
  rw [← hlo] at c1
  rw [← hhi] at c2
  rw [← hN] at c3 hf
  clear h hlo hhi hN
  by_cases h1 : lo = 0
  · have q1 : (lo == 0) = true := by rw [h1]; rfl
    by_cases h2 : hi = (N : Int) - 1
    · have q2 : (hi == (N : Int) - 1) = true := by rw [h2]; simp
      rw [decide_eq_true h1, decide_eq_true h2]
      clear h1 h2
      go_enter Tryd.func88, Tryd.ntmps88
      go_wp2
      go_ret
      exact ⟨rfl, rfl⟩
    · have q2 : (hi == (N : Int) - 1) = false := by rw [beq_eq_false_iff_ne]; exact h2
      rw [decide_eq_true h1, decide_eq_false h2]
      clear h1 h2
      go_enter Tryd.func88, Tryd.ntmps88
      go_wp2
      go_ret
      exact ⟨rfl, rfl⟩
  · have q1 : (lo == 0) = false := by rw [beq_eq_false_iff_ne]; exact h1
    rw [decide_eq_false h1]
    clear h1
    go_enter Tryd.func88, Tryd.ntmps88
    go_wp2
    go_ret
    exact ⟨rfl, rfl⟩

end Go.Proofs.YtgehldadfaonbaaDoor
