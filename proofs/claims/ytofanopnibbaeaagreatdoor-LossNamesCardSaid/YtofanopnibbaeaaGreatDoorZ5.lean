/-
  Package dist: masses by their keys; collect.
-/
import Derived.Test.YtofanopnibbaeaaGreatDoorZ4
import Derived.Shelf.SlIter.Nil
import Derived.Shelf.SortM.Plain
import Derived.Shelf.SortM.SortNone
import Derived.Ground.GgzProg
import Derived.Ground.SlgmProg
import Derived.Test.YtofanopnibbaeaaGreatDoorProg
import Derived.Test.YtofanopnibbaeaaGreatDoorHH
namespace Go.Proofs.YtofanopnibbaeaaGreatDoor
open Go.RowKit NV Go.Maps Go.Sort Go.Shelf
open Go.Lib (decDigits)

abbrev QI := ByteArray × Rat
abbrev kQ (x : QI) : List UInt8 := x.1.data.toList
/-- Masses as texts. -/
def tZ (S : List QI) : List MI := S.map fun x => (x.1, qstr x.2)
def lookQ (k : List UInt8) : List QI → Rat
  | [] => 0
  | x :: L => if kQ x = k then x.2 else lookQ k L
def setQ (k : ByteArray) (r : Rat) : List QI → List QI
  | [] => [(k, r)]
  | y :: S => if k.data.toList < kQ y then (k, r) :: y :: S else if k.data.toList = kQ y then (k, r) :: S else y :: setQ k r S
theorem q0Z : qstr 0 = ⟨#[48]⟩ := by
  have h : qstr 0 = dstr 0 := by
    show rstr false 0 1 = _
    rw [rstr_eq, if_pos rfl]; rfl
  rw [h, digit_str (by omega)]; rfl
theorem set_t (k : ByteArray) (r : Rat) : ∀ S : List QI, setZ k (qstr r) (tZ S) = tZ (setQ k r S)
  | [] => rfl
  | y :: S => by
    show (if k.data.toList < kQ y then (k, qstr r) :: (y.1, qstr y.2) :: tZ S else if k.data.toList = kQ y then (k, qstr r) :: tZ S else (y.1, qstr y.2) :: setZ k (qstr r) (tZ S)) = tZ (setQ k r (y :: S))
    unfold setQ
    by_cases h1 : k.data.toList < kQ y
    · rw [if_pos h1, if_pos h1]; rfl
    · rw [if_neg h1, if_neg h1]
      by_cases h2 : k.data.toList = kQ y
      · rw [if_pos h2, if_pos h2]; rfl
      · rw [if_neg h2, if_neg h2, set_t k r S]; rfl
abbrev SrtQ (S : List QI) : Prop := S.Pairwise (fun a b => kQ a < kQ b)
theorem srt_t {S : List QI} : SrtZ (tZ S) ↔ SrtQ S := by
  unfold tZ
  show List.Pairwise _ _ ↔ List.Pairwise _ _
  rw [List.pairwise_map]
/-- Collecting one mass more. -/
def colS (L : List MI) (k : Nat) (S : List QI) : Option (List QI) :=
  (okQ (lookQ (kZ (getZ L k)) S + qZ L k)).map fun r => setQ (getZ L k).1 r S
theorem setQ_mem {k : ByteArray} {r : Rat} : ∀ {S : List QI} {x : QI}, x ∈ setQ k r S → x = (k, r) ∨ x ∈ S
  | [], x, h => .inl (by simpa [setQ] using h)
  | y :: S, x, h => by
    unfold setQ at h
    split at h
    · rcases List.mem_cons.1 h with h | h
      · exact .inl h
      · exact .inr h
    · split at h
      · rcases List.mem_cons.1 h with h | h
        · exact .inl h
        · exact .inr (List.mem_cons_of_mem _ h)
      · rcases List.mem_cons.1 h with rfl | h
        · exact .inr (List.mem_cons_self ..)
        · rcases setQ_mem h with h | h
          · exact .inl h
          · exact .inr (List.mem_cons_of_mem _ h)
theorem setQ_srt {k : ByteArray} {r : Rat} {S : List QI} (h : SrtQ S) : SrtQ (setQ k r S) := by
  rw [← srt_t, ← set_t]
  exact set_srt (srt_t.2 h)
theorem setQ_len (k : ByteArray) (r : Rat) (S : List QI) : (setQ k r S).length ≤ S.length + 1 := by
  have h := set_len k (qstr r) (tZ S)
  rw [set_t] at h
  unfold tZ at h
  rwa [List.length_map, List.length_map] at h
/-- What holds of a list of masses while it is collected. -/
structure ColI (L : List MI) (k : Nat) (S : List QI) : Prop where
  srt : SrtQ S
  len : S.length ≤ k
  ok : ∀ x, x ∈ S → QOk x.2
  key : ∀ x, x ∈ S → ∃ y, y ∈ L ∧ x.1 = y.1
theorem ColI.nil (L : List MI) : ColI L 0 [] := ⟨List.Pairwise.nil, Nat.le_refl _, fun x h => by simp at h, fun x h => by simp at h⟩
theorem ColI.step {L : List MI} {k : Nat} {S S' : List QI} (h : ColI L k S) (hk : k < L.length) (hs : colS L k S = some S') : ColI L (k + 1) S' := by
  unfold colS at hs
  cases ho : okQ (lookQ (kZ (getZ L k)) S + qZ L k) with
  | none => rw [ho] at hs; cases hs
  | some r =>
    rw [ho] at hs
    obtain rfl : setQ (getZ L k).1 r S = S' := by simpa using hs
    obtain ⟨e, hok⟩ := okQ_some ho
    refine ⟨setQ_srt h.srt, Nat.le_trans (setQ_len ..) (Nat.succ_le_succ h.len), fun x hx => ?_, fun x hx => ?_⟩
    · rcases setQ_mem hx with rfl | hx
      · show QOk r; rw [← e]; exact hok
      · exact h.ok x hx
    · rcases setQ_mem hx with rfl | hx
      · refine ⟨getZ L k, ?_, rfl⟩
        have : L[k]? = some (L[k]'hk) := List.getElem?_eq_getElem hk
        rw [getZ_of this]
        exact List.getElem_mem hk
      · exact h.key x hx
theorem ColI.run {L : List MI} : ∀ {k : Nat} {S : List QI}, k ≤ L.length → runO (colS L) [] k = some S → ColI L k S
  | 0, S, _, h => by obtain rfl : [] = S := Option.some.inj h; exact ColI.nil L
  | k + 1, S, hk, h => by
    obtain ⟨s, hs⟩ := runO_some h k (by omega)
    rw [runO_step hs] at h
    exact (ColI.run (k := k) (by omega) hs).step (by omega) h

end Go.Proofs.YtofanopnibbaeaaGreatDoor
