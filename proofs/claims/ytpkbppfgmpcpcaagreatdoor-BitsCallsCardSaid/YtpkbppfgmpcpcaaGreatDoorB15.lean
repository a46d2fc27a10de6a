/-
  Cut: a list of pieces.
-/
import Derived.Test.YtpkbppfgmpcpcaaGreatDoorBB
namespace Go.Proofs.YtpkbppfgmpcpcaaGreatDoor
open Go.RowKit NV
open Go.Lib (decDigits)

theorem row_ch {S : Nat → Prop} {w w' : World} {base size n : Nat} {e : TypeId} {v : Value} {xs : List Value} (h : w.ownsRow base e size v n xs) (hc : Ch S w w') (hS : ∀ j, base ≤ j → ¬ S j) : w'.ownsRow base e size v n xs := by
  refine ⟨h.1, ?_⟩
  rcases h.2 with hn | ⟨g, cap, cur, rfl, hb, hgg, rest⟩
  · exact .inl hn
  · exact .inr ⟨g, cap, cur, rfl, hb, (hc.block g (Array.getElem?_eq_some_iff.1 hgg).1 (hS g hb)).trans hgg, rest⟩
theorem slice_of_row {w : World} {base size n : Nat} {e : TypeId} {v : Value} {xs : List Value} (h : w.ownsRow base e size v n xs) : ∃ ao m c, v = .slice ao m c := by
  rcases h.2 with ⟨hv, _⟩ | ⟨g, cap, cur, hv, _⟩
  · exact ⟨_, _, _, hv⟩
  · exact ⟨_, _, _, hv⟩

set_option maxHeartbeats 2000000 in
set_option maxRecDepth 100000 in
theorem cut_step {base k : Nat} {v : Value} {xs : List Value} {w : World} (h : w.ownsRow base 22 1 v k xs) (hk : k + 1 ≤ 1000000) (hB : base ≤ w.heap.size) (p : ByteArray) :
    Calls Tryz.prog 109 #[v, .string p] w fun e w' => ∃ v', e = .returned v' ∧ w'.ownsRow base 22 1 v' (k + 1) (xs ++ [.string p]) ∧ Ch (fun j => base ≤ j) w w' := by
  obtain ⟨i0, hi, hz0, hz1, hz2⟩ := info_parts infoBits
  obtain ⟨ao, m, c, rfl⟩ := slice_of_row h
  have hlenx : xs.length = k := by have := h.1; simpa using this
  go_enter Tryz.func109, Tryz.ntmps109
  go_wp2_with (at_builtin; refine wpList_append_own _ rfl _ _ 25 rfl base 22 i0 (.string ⟨#[]⟩) 1 16 Tryz.underlying25 hi hz0 hz1 hz2 rfl (by decide) _ _ _ rfl (h.alloc _) ⟨w.heap.size, 0, none⟩ 1 1 [.string p] rfl rfl ?c1 ?c2 ?c3 ?c4 ?c5 ?_)
  case c1 =>
    intro j u hj
    match j, hj with
    | 0, hj => simp at hj; subst hj; simp [Addr.add]
  case c2 => intro u hu; simp at hu; subst hu; rfl
  case c3 => unfold maxLen; omega
  case c4 => omega
  case c5 => simp; omega
  intro v' w2 hown' hgrow _
  have hrow := (h.alloc (.cells #[.string p] 22)).lt
  have hch : Ch (fun j => base ≤ j) w w2 := (Ch.alloc _ w _).trans ⟨hgrow.os, hgrow.tape, hgrow.output, hgrow.size, fun j hj hs => hgrow.block j hj (fun e => hs (hrow j e.symm).1)⟩
  have HF := Lib.hid (And.intro hown' hch)
  obtain ⟨ao', m', c', rfl⟩ := slice_of_row hown'
  clear h hown' hgrow hrow hch
  go_wp2_with fail
  go_ret
  exact ⟨_, rfl, HF.out.1, HF.out.2⟩

/-- The first k pieces of a text. -/
def pcs (s : ByteArray) (c k : Nat) : List Value := (List.range k).map (fun j => Value.string (piece s c j))
theorem pcs_len (s : ByteArray) (c k : Nat) : (pcs s c k).length = k := by unfold pcs; simp
theorem pcs_succ (s : ByteArray) (c k : Nat) : pcs s c (k + 1) = pcs s c k ++ [.string (piece s c k)] := by unfold pcs; rw [List.range_succ, List.map_append]; rfl

end Go.Proofs.YtpkbppfgmpcpcaaGreatDoor
