/-
  The mathematics of products, chains and late outcomes; what Make makes of masses that add up to 1.
-/
import Derived.Test.YtjpepjooefkbkaaGreatDoorLO
import Derived.Test.YtjpepjooefkbkaaGreatDoorZF
import Derived.Test.YtjpepjooefkbkaaGreatDoorZC
namespace Go.Proofs.YtjpepjooefkbkaaGreatDoor
open Go.RowKit NV Go.Maps Go.Sort Go.Shelf
open Go.Lib (decDigits)
def FineL (D : Nat) (l : List MI) : Prop := ∀ x, x ∈ l → ∃ q, x.2 = qstr q ∧ QOk q ∧ 0 ≤ q ∧ Zd D q
theorem FineL.at {D : Nat} {l : List MI} (h : FineL D l) {i : Nat} (hi : i < l.length) : (getZ l i).2 = qstr (qZ l i) ∧ QOk (qZ l i) ∧ 0 ≤ qZ l i ∧ Zd D (qZ l i) := by
 obtain ⟨q, e, ho, h0, hz⟩ := h (l[i]) (List.getElem_mem hi)
 have hg := getZ_of (List.getElem?_eq_getElem hi)
 have hq : qZ l i = q := by
  unfold qZ
  rw [hg, e, ratS_q]
 rw [hq, hg]
 exact ⟨e, ho, h0, hz⟩
structure CollR (l : List MI) (D : Nat) (S : List QI) : Prop where
 col : colO l = some S
 mke : mkE l = 0
 good : GoodQ (outQ S)
 val : ∀ k, vQ (tZ (outQ S)) k = kv l k l.length
 chk : chkZ (tZ (outQ S)) = 0
 len : (outQ S).length ≤ l.length
 zd : ∀ k, Zd D (vQ (tZ (outQ S)) k)
end Go.Proofs.YtjpepjooefkbkaaGreatDoor
