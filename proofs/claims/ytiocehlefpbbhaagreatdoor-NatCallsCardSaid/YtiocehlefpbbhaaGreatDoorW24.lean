/-
  The contracts of halve and binaryDigits.
-/
import Derived.Test.YtiocehlefpbbhaaGreatDoorW22
import Derived.Test.YtiocehlefpbbhaaGreatDoorM6
import Derived.Laws.BitsAllLaws
namespace Go.Proofs.YtiocehlefpbbhaaGreatDoor
open Go.RowKit NV

/-- Block g is a row of at least N limbs, limb j being f j. -/
def Row (w : World) (g N : Nat) (f : Nat → Nat) : Prop :=
  ∃ cur, w.heap[g]? = some (.cells cur 65 (0, 0)) ∧ N ≤ cur.size ∧ ∀ j, j < N → cur[j]? = some (.int .u64 ((f j : Nat) : Int))

theorem Row.cell {w : World} {g N : Nat} {f : Nat → Nat} (h : Row w g N f) {j : Nat} (hj : j < N) : w.cell? ⟨g, j, none⟩ = some (.int .u64 ((f j : Nat) : Int)) := by
  obtain ⟨cur, h1, h2, h3⟩ := h
  rw [cell_of_row w g j cur _ _ h1]
  exact h3 j hj

theorem Row.free {w : World} {g N : Nat} {f : Nat → Nat} (h : Row w g N f) (j : Nat) : w.frozen? ⟨g, j, none⟩ = false := by
  obtain ⟨cur, h1, h2, h3⟩ := h
  exact frozen_of_row w g j cur _ h1

theorem Row.lt {w : World} {g N : Nat} {f : Nat → Nat} (h : Row w g N f) : g < w.heap.size := by
  obtain ⟨cur, h1, h2, h3⟩ := h
  exact (Array.getElem?_eq_some_iff.1 h1).1

theorem Row.congr {w : World} {g N : Nat} {f f' : Nat → Nat} (h : Row w g N f) (e : ∀ j, j < N → f j = f' j) : Row w g N f' := by
  obtain ⟨cur, h1, h2, h3⟩ := h
  exact ⟨cur, h1, h2, fun j hj => by rw [h3 j hj, e j hj]⟩

theorem Row.less {w : World} {g N M : Nat} {f : Nat → Nat} (h : Row w g N f) (hM : M ≤ N) : Row w g M f := by
  obtain ⟨cur, h1, h2, h3⟩ := h
  exact ⟨cur, h1, Nat.le_trans hM h2, fun j hj => h3 j (Nat.lt_of_lt_of_le hj hM)⟩

theorem Row.store {w : World} {g N : Nat} {f : Nat → Nat} (h : Row w g N f) (i x : Nat) : Row (w.setCell ⟨g, i, none⟩ (.int .u64 ((x : Nat) : Int))) g N (upd f i x) := by
  obtain ⟨cur, h1, h2, h3⟩ := h
  refine ⟨cur.setIfInBounds i (.int .u64 ((x : Nat) : Int)), heap_setCell_same w g i cur _ _ h1, by simpa using h2, fun j hj => ?_⟩
  rw [Array.getElem?_setIfInBounds]
  by_cases e : i = j
  · subst e
    rw [if_pos rfl, if_pos (by omega), upd_same]
  · rw [if_neg e, upd_other (fun h => e h.symm)]
    exact h3 j hj

/-- What halve has written from the top down to place k. -/
def hlf (f : Nat → Nat) (v k L : Nat) : Nat → Nat := fun j => if k ≤ j ∧ j < L then dg (v / 536870912) j else f j

theorem hlf_start (f : Nat → Nat) (v L : Nat) : hlf f v L L = f := by
  funext j; rw [hlf, if_neg (by omega)]

theorem hlf_step {f : Nat → Nat} {v k L x : Nat} (hk : k < L) (h : x = dg (v / 536870912) k) : upd (hlf f v (k + 1) L) k x = hlf f v k L := by
  funext j
  unfold upd hlf
  by_cases e : j = k
  · subst e; rw [if_pos rfl, if_pos ⟨Nat.le_refl _, hk⟩, h]
  · rw [if_neg e]
    by_cases hj : k + 1 ≤ j ∧ j < L
    · rw [if_pos hj, if_pos ⟨by omega, hj.2⟩]
    · rw [if_neg hj, if_neg (by omega)]

set_option maxHeartbeats 1600000 in
set_option maxRecDepth 100000 in
/-- halve divides by 2^29 in place. -/
theorem halve_any {w : World} {g L c v b : Nat} {f : Nat → Nat} (hr : Row w g L f) (hL : L ≤ 1000000) (hf : ∀ j, j < L → f j = dg v j) (hv : v < B ^ L) (hb : b ≤ g) :
    Calls Tryz.prog 76 #[.slice (some ⟨g, 0, none⟩) L c, .int .i64 29] w fun e w' => e = .returned (.tuple #[]) ∧ Row w' g L (dg (v / 536870912)) ∧ Below b w w' := by
  have hr0 : v / B ^ L % 536870912 = 0 := by rw [Nat.div_eq_of_lt hv]
  have HR0 := Lib.hid hr0
  have HF := Lib.hid hf
  have hlt := hr.lt
  clear hr0 hv hf
  go_enter Tryz.func76, Tryz.ntmps76
  go_wp2
  go_loopw [4, 5] (fun r i wr => ∃ k : Nat, k ≤ L ∧ i = .int .i64 ((k : Int) - 1) ∧ r = .int .u64 ((v / B ^ k % 536870912 : Nat) : Int) ∧ Row wr g L (hlf f v k L) ∧ Below b w wr) (fun _ i _ => ((intOf i) + 1).toNat)
  case atStart => exact ⟨L, Nat.le_refl _, rfl, by rw [HR0.out]; rfl, by rw [hlf_start]; exact hr, Below.refl _ _⟩
  case round =>
    obtain ⟨k, hk, rfl, rfl, har, hbr⟩ := hrel
    clear hr
    by_cases hk0 : 0 < k
    · obtain ⟨q, rfl⟩ : ∃ q, k = q + 1 := ⟨k - 1, by omega⟩
      have c1 := har.cell (show q < L by omega)
      rw [hlf, if_neg (by omega), HF.out q (by omega)] at c1
      have c2 := har.free q
      have b1 := dg_lt v q
      have b2 : v / B ^ (q + 1) % 536870912 < 536870912 := Nat.mod_lt _ (by omega)
      have hv := Lib.hid (show (((v / B ^ (q + 1) % 536870912 : Nat) : Int) * 1000000000 + ((dg v q : Nat) : Int)) / 536870912 = ((dg (v / 536870912) q : Nat) : Int) by rw [div_digit v 536870912 q (by omega)]; simp)
      have hw := Lib.hid (show (((v / B ^ (q + 1) % 536870912 : Nat) : Int) * 1000000000 + ((dg v q : Nat) : Int)) % 536870912 = ((v / B ^ q % 536870912 : Nat) : Int) by rw [div_rest v 536870912 q]; simp)
      have hm := Lib.hid (show bits .and .u64 (((v / B ^ (q + 1) % 536870912 : Nat) : Int) * 1000000000 + ((dg v q : Nat) : Int)) 536870911 = (((v / B ^ (q + 1) % 536870912 : Nat) : Int) * 1000000000 + ((dg v q : Nat) : Int)) % 536870912 by
        have h := u64_and_nat (v / B ^ (q + 1) % 536870912 * 1000000000 + dg v q) 536870911 (by omega) (by omega)
        rw [nat_mask29] at h
        rw [Int.natCast_emod, Int.natCast_add, Int.natCast_mul] at h
        exact h)
      generalize hX : v / B ^ (q + 1) % 536870912 = X at *
      clear hX
      go_wp2_with fail
      go_roundw
      case rel => exact ⟨q, by omega, by go_num, by rw [hm.out, hw.out], by rw [hv.out, ← hlf_step (show q < L by omega) rfl]; exact har.store q _, hbr.setCell hb _⟩
      case measure => simp [intOf]
    · obtain rfl : k = 0 := by omega
      generalize v / B ^ 0 % 536870912 = X at *
      go_wp2_with fail
      go_end0
      exact ⟨rfl, har.congr (fun j hj => by rw [hlf, if_pos ⟨Nat.zero_le _, hj⟩]), hbr⟩

end Go.Proofs.YtiocehlefpbbhaaGreatDoor
