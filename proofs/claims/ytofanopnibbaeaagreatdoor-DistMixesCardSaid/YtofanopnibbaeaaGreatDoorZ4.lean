/-
  Masses in a map, told as a list sorted by keys.
-/
import Derived.Test.YtofanopnibbaeaaGreatDoorZ3
import Derived.Maps.Views
import Derived.Maps.OwnSet
import Derived.Maps.StringElems
import Derived.Sort.KeysCollected
import Derived.Sort.OwnSorted
namespace Go.Proofs.YtofanopnibbaeaaGreatDoor
open Go.RowKit NV Go.Maps Go.Sort
open Go.Lib (decDigits)

theorem before_lt : ∀ (x y : List UInt8), bytesBefore x y = decide (x < y)
  | [], [] => by simp [bytesBefore]
  | _ :: _, [] => by simp [bytesBefore]
  | [], _ :: _ => by simp [bytesBefore]
  | a :: x, b :: y => by
    rw [bytesBefore, before_lt x y]
    simp only [List.cons_lt_cons_iff]
    by_cases h1 : a < b <;> by_cases h2 : a = b <;> simp [h1, h2]

/-- A list with a mass in its place. -/
def setZ (k t : ByteArray) : List MI → List MI
  | [] => [(k, t)]
  | y :: r => if k.data.toList < kZ y then (k, t) :: y :: r else if k.data.toList = kZ y then (k, t) :: r else y :: setZ k t r
abbrev SrtZ (S : List MI) : Prop := S.Pairwise (fun a b => kZ a < kZ b)
def encZ (S : List MI) : List (Lit × DataW Unit) := S.map fun x => (.string (kZ x), .lit (.string x.2.data.toList))
def mapZ (S : List MI) : DataW Unit := .map (encZ S)
theorem srt_ne {S : List MI} {y : MI} (h : SrtZ (y :: S)) {k : List UInt8} (hk : k ≤ kZ y) : ∀ x ∈ S, kZ x ≠ k := by
  intro x hx e
  have h1 := (List.pairwise_cons.1 h).1 x hx
  rw [e] at h1
  exact absurd h1 (List.not_lt.2 hk)
theorem filter_all {S : List MI} {k : List UInt8} (h : ∀ x ∈ S, kZ x ≠ k) : (encZ S).filter (fun p => !p.1.sameKey (.string k)) = encZ S := by
  refine List.filter_eq_self.2 fun p hp => ?_
  obtain ⟨x, hx, rfl⟩ := List.mem_map.1 hp
  simp [Lit.sameKey, h x hx]
theorem mapZ_put {k t : ByteArray} : ∀ {S : List MI}, SrtZ S → (mapZ S).put (.string k.data.toList) (.lit (.string t.data.toList)) = mapZ (setZ k t S) := by
  intro S h
  show DataW.map (DataW.insert _ ((encZ S).filter fun p => !p.1.sameKey _)) = _
  unfold mapZ
  congr 1
  induction S with
  | nil => rfl
  | cons y r ih =>
    have hr : SrtZ r := (List.pairwise_cons.1 h).2
    unfold setZ
    by_cases h1 : k.data.toList < kZ y
    · have h2 : ∀ x ∈ y :: r, kZ x ≠ k.data.toList := by
        intro x hx
        rcases List.mem_cons.1 hx with rfl | hx
        · intro e; rw [e] at h1; exact absurd h1 (List.lt_irrefl _)
        · exact srt_ne h (List.le_of_lt h1) x hx
      rw [if_pos h1, filter_all h2]
      show DataW.insert _ ((_, _) :: encZ r) = _
      unfold DataW.insert
      rw [show Lit.before (.string k.data.toList) (.string (kZ y)) = true from (before_lt _ _).trans (decide_eq_true h1)]
      rfl
    · rw [if_neg h1]
      have hb : Lit.before (.string k.data.toList) (.string (kZ y)) = false := (before_lt _ _).trans (decide_eq_false h1)
      by_cases h2 : k.data.toList = kZ y
      · rw [if_pos h2]
        have h3 := filter_all (srt_ne h (k := k.data.toList) (by rw [h2]; exact List.le_refl _))
        show DataW.insert _ (((_, _) :: encZ r).filter _) = _
        rw [List.filter_cons_of_neg (by simp [Lit.sameKey, h2]), h3]
        cases r with
        | nil => rfl
        | cons z r =>
          have h4 : k.data.toList < kZ z := by rw [h2]; exact (List.pairwise_cons.1 h).1 z (List.mem_cons_self ..)
          show DataW.insert _ ((_, _) :: encZ r) = _
          unfold DataW.insert
          rw [show Lit.before (.string k.data.toList) (.string (kZ z)) = true from (before_lt _ _).trans (decide_eq_true h4)]
          rfl
      · rw [if_neg h2]
        show DataW.insert _ (((_, _) :: encZ r).filter _) = _
        rw [List.filter_cons_of_pos (by
          show (!(kZ y == k.data.toList)) = true
          rw [beq_false_of_ne (fun e => h2 e.symm)]; rfl)]
        show DataW.insert _ ((_, _) :: _) = _
        unfold DataW.insert
        rw [hb]
        show (_, _) :: DataW.insert _ _ = (_, _) :: _
        rw [ih hr]; rfl
theorem set_mem {k t : ByteArray} : ∀ {S : List MI} {x : MI}, x ∈ setZ k t S → x = (k, t) ∨ x ∈ S
  | [], x, h => .inl (by simpa [setZ] using h)
  | y :: r, x, h => by
    unfold setZ at h
    split at h
    · rcases List.mem_cons.1 h with h | h
      · exact .inl h
      · exact .inr h
    · split at h
      · rcases List.mem_cons.1 h with h | h
        · exact .inl h
        · exact .inr (List.mem_cons_of_mem _ h)
      · rcases List.mem_cons.1 h with rfl | h
        · exact .inr (List.mem_cons_self ..)
        · rcases set_mem h with h | h
          · exact .inl h
          · exact .inr (List.mem_cons_of_mem _ h)
theorem set_srt {k t : ByteArray} : ∀ {S : List MI}, SrtZ S → SrtZ (setZ k t S)
  | [], _ => List.pairwise_singleton _ _
  | y :: r, h => by
    have h1 := List.pairwise_cons.1 h
    unfold setZ
    by_cases hk : k.data.toList < kZ y
    · rw [if_pos hk]
      refine List.pairwise_cons.2 ⟨fun x hx => ?_, h⟩
      rcases List.mem_cons.1 hx with rfl | hx
      · exact hk
      · exact List.lt_trans hk (h1.1 x hx)
    · rw [if_neg hk]
      by_cases he : k.data.toList = kZ y
      · rw [if_pos he]
        exact List.pairwise_cons.2 ⟨fun x hx => by show k.data.toList < kZ x; rw [he]; exact h1.1 x hx, h1.2⟩
      · rw [if_neg he]
        refine List.pairwise_cons.2 ⟨fun x hx => ?_, set_srt h1.2⟩
        rcases set_mem hx with rfl | hx
        · exact (List.le_iff_lt_or_eq.1 (List.not_lt.1 hk)).resolve_right (fun e => he e.symm)
        · exact h1.1 x hx
theorem set_len (k t : ByteArray) : ∀ S : List MI, (setZ k t S).length ≤ S.length + 1
  | [] => Nat.le_refl _
  | y :: r => by
    unfold setZ
    have := set_len k t r
    split
    · simp
    · split
      · simp
      · simp; exact this

/-- The first probability of a key, or 0. -/
def valZ (k : List UInt8) : List MI → ByteArray
  | [] => ⟨#[48]⟩
  | x :: L => if kZ x = k then x.2 else valZ k L
def hasZ (k : List UInt8) (L : List MI) : Bool := L.any fun x => decide (kZ x = k)
theorem val_mem {k : List UInt8} : ∀ {L : List MI}, hasZ k L = true → ∃ x, x ∈ L ∧ kZ x = k ∧ valZ k L = x.2
  | [], h => by simp [hasZ] at h
  | y :: L, h => by
    unfold valZ
    by_cases hy : kZ y = k
    · rw [if_pos hy]; exact ⟨y, List.mem_cons_self .., hy, rfl⟩
    · rw [if_neg hy]
      have h2 : hasZ k L = true := by unfold hasZ at h ⊢; rw [List.any_cons, decide_eq_false hy, Bool.false_or] at h; exact h
      obtain ⟨x, h3, h4, h5⟩ := val_mem h2
      exact ⟨x, List.mem_cons_of_mem _ h3, h4, h5⟩
theorem val_no {k : List UInt8} : ∀ {L : List MI}, hasZ k L = false → valZ k L = ⟨#[48]⟩
  | [], _ => rfl
  | y :: L, h => by
    unfold hasZ at h
    rw [List.any_cons, Bool.or_eq_false_iff] at h
    unfold valZ
    rw [if_neg (of_decide_eq_false h.1)]
    exact val_no h.2
theorem mapZ_has (S : List MI) (k : List UInt8) : Maps.has (mapZ S) (.string k) = hasZ k S := by
  show (encZ S).any _ = _
  unfold encZ hasZ
  rw [List.any_map]
  congr 1
  funext x
  show (kZ x == k) = decide (kZ x = k)
  by_cases h : kZ x = k
  · rw [h, decide_eq_true rfl, beq_self_eq_true]
  · rw [decide_eq_false h]; exact beq_false_of_ne h
theorem mapZ_at {k : List UInt8} : ∀ {S : List MI}, hasZ k S = true → ∀ z, (mapZ S).atKey (.string k) z = .lit (.string (valZ k S).data.toList)
  | [], h, _ => by simp [hasZ] at h
  | y :: S, h, z => by
    unfold valZ
    by_cases hy : kZ y = k
    · rw [if_pos hy]
      unfold mapZ DataW.atKey
      dsimp only
      rw [show encZ (y :: S) = (.string (kZ y), .lit (.string y.2.data.toList)) :: encZ S from rfl, List.find?_cons_of_pos (by simp [Lit.sameKey, hy])]
    · rw [if_neg hy]
      have h2 : hasZ k S = true := by unfold hasZ at h ⊢; rw [List.any_cons, decide_eq_false hy, Bool.false_or] at h; exact h
      rw [← mapZ_at h2 z]
      unfold mapZ DataW.atKey
      dsimp only
      rw [show encZ (y :: S) = (.string (kZ y), .lit (.string y.2.data.toList)) :: encZ S from rfl, List.find?_cons_of_neg (by simp [Lit.sameKey, hy])]
theorem mapZ_keys (S : List MI) : strKeys (mapZ S) = S.map kZ := by
  show (encZ S).map _ = _
  unfold encZ
  rw [List.map_map]; rfl
theorem mapZ_size (S : List MI) : Maps.size (mapZ S) = S.length := by
  show (encZ S).length = _
  unfold encZ; rw [List.length_map]
theorem srt_sort {S : List MI} (h : SrtZ S) : (S.map kZ).mergeSort Go.leB = S.map kZ := by
  refine List.mergeSort_of_pairwise ?_
  rw [List.pairwise_map]
  exact h.imp fun h => decide_eq_true (List.le_of_lt h)

theorem Ch.grownZ {S : Nat → Prop} {w w' : World} {row : Option Nat} (hg : w.grownBy w' row) (hr : ∀ r, row = some r → S r) : Ch S w w' :=
  ⟨hg.os, hg.tape, hg.output, hg.size, fun j hj hs => hg.block j hj (fun e => hs (hr j e.symm))⟩
/-- Block b is a map that holds the masses S. -/
def MapZ (w : World) (b n : Nat) (S : List MI) : Prop := w.ownsMap Tryz.prog 9 (plainElem (H := Unit) Tryz.prog 27) b n (mapZ S)
theorem keyedZ : Keyed Tryz.prog 9 := string_keyed Tryz.underlying9
theorem MapZ.lt {w : World} {b n : Nat} {S : List MI} (h : MapZ w b n S) : b < w.heap.size := World.ownsMap.lt h
theorem MapZ.keep {w w' : World} {b n : Nat} {S : List MI} (h : MapZ w b n S) (hb : w'.heap[b]? = w.heap[b]?) : MapZ w' b n S := by
  obtain ⟨es, clock, h1, h2, h3, h4⟩ := h
  exact ⟨es, clock, hb.trans h1, h2, h3, h4⟩
theorem MapZ.below {w w' : World} {b n : Nat} {S : List MI} (h : MapZ w b n S) (hb : Below w.heap.size w w') : MapZ w' b n S := h.keep (hb.block b h.lt)
theorem MapZ.mono {w : World} {b n n' : Nat} {S : List MI} (h : MapZ w b n S) (hn : n ≤ n') : MapZ w b n' S := World.ownsMap.mono h hn
theorem MapZ.made (w : World) : MapZ (w.alloc (.map #[] 0)) w.heap.size 0 [] := World.ownsMap_made _ _ _ _
theorem zeroNumZ (w : World) : (zeroValue 27).run Tryz.prog w = .ok (.string ⟨#[]⟩) w := by kernel_rfl
theorem lookZ {w : World} {b n : Nat} {S : List MI} (h : MapZ w b n S) {k : ByteArray} (hk : k.size ≤ maxLen) (hh : hasZ k.data.toList S = true) :
    (Instr.lookup 97 (.map (some b)) (.string k) false).run Tryz.prog w = .ok (.string (valZ k.data.toList S)) w := by
  obtain ⟨v, ps, hrun, hv⟩ := World.ownsMap.lookup h keyedZ Tryz.underlying97 (zeroNumZ w) (plainElem_string Tryz.underlying27 (s := ⟨#[]⟩) (by unfold maxLen; decide)) (Go.WideMaps.keyOf_string_mk Tryz.underlying9 hk)
  obtain ⟨s, rfl, hs, _⟩ := Go.plainElem_string_inv Tryz.underlying27 hv
  have hat := mapZ_at hh (.lit (.string (⟨#[]⟩ : ByteArray).data.toList))
  simp only [Prod.mk.injEq] at hs
  have h3 := hat.symm.trans hs.1
  have h4 : (valZ k.data.toList S).data.toList = s.data.toList := by simpa using h3
  rw [ba_extZ h4]; exact hrun
/-- v, found := m[k]. -/
theorem lookZ_ok {w : World} {b n : Nat} {S : List MI} (h : MapZ w b n S) {k : ByteArray} (hk : k.size ≤ maxLen) :
    ∃ s, (Instr.lookup 97 (.map (some b)) (.string k) true).run Tryz.prog w = .ok (.tuple #[.string s, .bool (hasZ k.data.toList S)]) w ∧ (hasZ k.data.toList S = true → s = valZ k.data.toList S) := by
  obtain ⟨v, ps, hrun, hv⟩ := World.ownsMap.look_ok h keyedZ Tryz.underlying97 (zeroNumZ w) (plainElem_string Tryz.underlying27 (s := ⟨#[]⟩) (by unfold maxLen; decide)) (Go.WideMaps.keyOf_string_mk Tryz.underlying9 hk)
  obtain ⟨s, rfl, hs, _⟩ := Go.plainElem_string_inv Tryz.underlying27 hv
  rw [mapZ_has] at hrun
  refine ⟨s, hrun, fun hh => ?_⟩
  have hat := mapZ_at hh (.lit (.string (⟨#[]⟩ : ByteArray).data.toList))
  simp only [Prod.mk.injEq] at hs
  have h3 := hat.symm.trans hs.1
  have h4 : (valZ k.data.toList S).data.toList = s.data.toList := by simpa using h3
  exact (ba_extZ h4).symm

end Go.Proofs.YtofanopnibbaeaaGreatDoor
