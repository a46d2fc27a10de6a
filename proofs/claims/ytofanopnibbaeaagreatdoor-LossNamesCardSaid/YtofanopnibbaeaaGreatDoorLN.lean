/-
  The laws of layer 9: LossNames.
-/
import Derived.Test.YtofanopnibbaeaaGreatDoorLO
namespace Go.Proofs.YtofanopnibbaeaaGreatDoor
open Go.RowKit NV
theorem la9 : LQ (3 / 2) (1 / 10) := ⟨by decide +kernel, by decide +kernel, by decide +kernel, by decide +kernel, by decide +kernel⟩
theorem lb9 : LQ 2 0 := ⟨by decide +kernel, by decide +kernel, by decide +kernel, by decide +kernel, by decide +kernel⟩
theorem lp9 : LQ 1 (2 / 3) := ⟨by decide +kernel, by decide +kernel, by decide +kernel, by decide +kernel, by decide +kernel⟩
theorem lr9 : LQ 1 (1 / 2) := ⟨by decide +kernel, by decide +kernel, by decide +kernel, by decide +kernel, by decide +kernel⟩
set_option maxRecDepth 100000 in
theorem n9_add1 {w : World} (htm : ∀ W, Below w.heap.size w W → Tab W ∧ ML W) : Calls Tryz.prog 41 #[.agg #[.string ⟨#[51, 47, 50]⟩, .string ⟨#[49, 47, 49, 48]⟩], .agg #[.string ⟨#[51, 47, 50]⟩, .string ⟨#[49, 47, 49, 48]⟩]] w (fun e w' => e = .returned (.tuple #[.agg #[.string ⟨#[57, 47, 52]⟩, .string ⟨#[49, 47, 53]⟩], .int .i64 0]) ∧ Below w.heap.size w w') := by
  have h := lAdd_q la9 la9 (by decide +kernel) (by decide +kernel) htm
  rw [show qstr (3 / 2) = ⟨#[51, 47, 50]⟩ by decide +kernel] at h
  rw [show qstr (1 / 10) = ⟨#[49, 47, 49, 48]⟩ by decide +kernel] at h
  rw [show qstr (3 / 2 * (3 / 2)) = ⟨#[57, 47, 52]⟩ by decide +kernel] at h
  rw [show qstr (mn1 (1 / 10 + 1 / 10)) = ⟨#[49, 47, 53]⟩ by decide +kernel] at h
  exact h
set_option maxRecDepth 100000 in
theorem n9_add2 {w : World} (htm : ∀ W, Below w.heap.size w W → Tab W ∧ ML W) : Calls Tryz.prog 41 #[.agg #[.string ⟨#[49]⟩, .string ⟨#[50, 47, 51]⟩], .agg #[.string ⟨#[49]⟩, .string ⟨#[49, 47, 50]⟩]] w (fun e w' => e = .returned (.tuple #[.agg #[.string ⟨#[49]⟩, .string ⟨#[49]⟩], .int .i64 0]) ∧ Below w.heap.size w w') := by
  have h := lAdd_q lp9 lr9 (by decide +kernel) (by decide +kernel) htm
  rw [show qstr (1 * 1) = ⟨#[49]⟩ by decide +kernel] at h
  rw [show qstr (mn1 (2 / 3 + 1 / 2)) = ⟨#[49]⟩ by decide +kernel] at h
  rw [show qstr (1) = ⟨#[49]⟩ by decide +kernel] at h
  rw [show qstr (2 / 3) = ⟨#[50, 47, 51]⟩ by decide +kernel] at h
  rw [show qstr (1 / 2) = ⟨#[49, 47, 50]⟩ by decide +kernel] at h
  exact h
set_option maxRecDepth 100000 in
theorem n9_grp0 {w : World} (htm : ∀ W, Below w.heap.size w W → Tab W ∧ ML W) : Calls Tryz.prog 43 #[.agg #[.string ⟨#[51, 47, 50]⟩, .string ⟨#[49, 47, 49, 48]⟩], .int .i64 0] w (fun e w' => e = .returned (.tuple #[.agg #[.string ⟨#[49]⟩, .string ⟨#[48]⟩], .int .i64 0]) ∧ Below w.heap.size w w') := by
  have h := lGroup_q la9 (k := 0) (by omega) (by decide +kernel) (by decide +kernel) (by decide +kernel) htm
  rw [show qstr (3 / 2) = ⟨#[51, 47, 50]⟩ by decide +kernel] at h
  rw [show qstr (1 / 10) = ⟨#[49, 47, 49, 48]⟩ by decide +kernel] at h
  rw [show qstr ((3 / 2 : Rat) ^ 0) = ⟨#[49]⟩ by decide +kernel] at h
  rw [show qstr (mn1 (1 / 10 * gs (3 / 2) 0)) = ⟨#[48]⟩ by decide +kernel] at h
  exact h
set_option maxRecDepth 100000 in
theorem n9_late1 {w : World} (htm : ∀ W, Below w.heap.size w W → Tab W ∧ ML W) : Calls Tryz.prog 44 #[.agg #[.string ⟨#[50]⟩, .string ⟨#[48]⟩], .string ⟨#[49]⟩] w (fun e w' => e = .returned (.tuple #[.agg #[.string ⟨#[50]⟩, .string ⟨#[49]⟩], .int .i64 0]) ∧ Below w.heap.size w w') := by
  have h := lLate_q lb9 (u := 1) (by decide +kernel) (by decide +kernel) (by decide +kernel) (by decide +kernel) (by decide +kernel) (by decide +kernel) htm
  rw [show qstr (mn1 (0 + (2 + 1) * 1)) = ⟨#[49]⟩ by decide +kernel] at h
  rw [show qstr (2) = ⟨#[50]⟩ by decide +kernel] at h
  rw [show qstr (0) = ⟨#[48]⟩ by decide +kernel] at h
  rw [show qstr (1) = ⟨#[49]⟩ by decide +kernel] at h
  exact h
set_option maxRecDepth 100000 in
theorem n9_max {w : World} (htm : ∀ W, Below w.heap.size w W → Tab W ∧ ML W) : Calls Tryz.prog 46 #[.agg #[.string ⟨#[51, 47, 50]⟩, .string ⟨#[49, 47, 49, 48]⟩], .agg #[.string ⟨#[50]⟩, .string ⟨#[48]⟩]] w (fun e w' => e = .returned (.tuple #[.agg #[.string ⟨#[50]⟩, .string ⟨#[49, 47, 49, 48]⟩], .int .i64 0]) ∧ Below w.heap.size w w') := by
  have h := lMax_q la9 lb9 htm
  rw [show qstr (mxQ (3 / 2) 2) = ⟨#[50]⟩ by decide +kernel] at h
  rw [show qstr (mxQ (1 / 10) 0) = ⟨#[49, 47, 49, 48]⟩ by decide +kernel] at h
  rw [show qstr (3 / 2) = ⟨#[51, 47, 50]⟩ by decide +kernel] at h
  rw [show qstr (1 / 10) = ⟨#[49, 47, 49, 48]⟩ by decide +kernel] at h
  rw [show qstr (2) = ⟨#[50]⟩ by decide +kernel] at h
  rw [show qstr (0) = ⟨#[48]⟩ by decide +kernel] at h
  exact h
set_option maxRecDepth 100000 in
theorem n9_fits1 {w : World} (htm : ∀ W, Below w.heap.size w W → Tab W ∧ ML W) : Calls Tryz.prog 45 #[.agg #[.string ⟨#[51, 47, 50]⟩, .string ⟨#[49, 47, 49, 48]⟩], .agg #[.string ⟨#[50]⟩, .string ⟨#[48]⟩]] w (fun e w' => e = .returned (.tuple #[.bool false, .int .i64 0]) ∧ Below w.heap.size w w') := by
  have h := lFits_q la9 lb9 htm
  rw [show ftB (3 / 2) (1 / 10) 2 0 = false by decide +kernel] at h
  rw [show qstr (3 / 2) = ⟨#[51, 47, 50]⟩ by decide +kernel] at h
  rw [show qstr (1 / 10) = ⟨#[49, 47, 49, 48]⟩ by decide +kernel] at h
  rw [show qstr (2) = ⟨#[50]⟩ by decide +kernel] at h
  rw [show qstr (0) = ⟨#[48]⟩ by decide +kernel] at h
  exact h
set_option maxRecDepth 100000 in
theorem n9_fits2 {w : World} (htm : ∀ W, Below w.heap.size w W → Tab W ∧ ML W) : Calls Tryz.prog 45 #[.agg #[.string ⟨#[50]⟩, .string ⟨#[48]⟩], .agg #[.string ⟨#[51, 47, 50]⟩, .string ⟨#[49, 47, 49, 48]⟩]] w (fun e w' => e = .returned (.tuple #[.bool false, .int .i64 0]) ∧ Below w.heap.size w w') := by
  have h := lFits_q lb9 la9 htm
  rw [show ftB 2 0 (3 / 2) (1 / 10) = false by decide +kernel] at h
  rw [show qstr (3 / 2) = ⟨#[51, 47, 50]⟩ by decide +kernel] at h
  rw [show qstr (1 / 10) = ⟨#[49, 47, 49, 48]⟩ by decide +kernel] at h
  rw [show qstr (2) = ⟨#[50]⟩ by decide +kernel] at h
  rw [show qstr (0) = ⟨#[48]⟩ by decide +kernel] at h
  exact h
set_option maxRecDepth 100000 in
theorem n9_al1 {w : World} (htm : ∀ W, Below w.heap.size w W → Tab W ∧ ML W) : Calls Tryz.prog 47 #[.int .i64 1, .string ⟨#[50]⟩] w (fun e w' => e = .returned (.tuple #[.string ⟨#[49, 47, 50]⟩, .int .i64 0]) ∧ Below w.heap.size w w') := by
  have h := lAlpha_q (R := 2) (n := 1) (by omega) (by omega) (by decide +kernel) (by decide +kernel) (by decide +kernel) (by decide +kernel) (by decide +kernel) (by decide +kernel) (by decide +kernel) (by decide +kernel) htm
  rw [show qstr (alQ 1 2) = ⟨#[49, 47, 50]⟩ by decide +kernel] at h
  rw [show qstr (2) = ⟨#[50]⟩ by decide +kernel] at h
  exact h
set_option maxRecDepth 100000 in
theorem n9_al2 {w : World} (htm : ∀ W, Below w.heap.size w W → Tab W ∧ ML W) : Calls Tryz.prog 47 #[.int .i64 2, .string ⟨#[51, 47, 50]⟩] w (fun e w' => e = .returned (.tuple #[.string ⟨#[54, 47, 55]⟩, .int .i64 0]) ∧ Below w.heap.size w w') := by
  have h := lAlpha_q (R := 3 / 2) (n := 2) (by omega) (by omega) (by decide +kernel) (by decide +kernel) (by decide +kernel) (by decide +kernel) (by decide +kernel) (by decide +kernel) (by decide +kernel) (by decide +kernel) htm
  rw [show qstr (alQ 2 (3 / 2)) = ⟨#[54, 47, 55]⟩ by decide +kernel] at h
  rw [show qstr (3 / 2) = ⟨#[51, 47, 50]⟩ by decide +kernel] at h
  exact h
set_option maxRecDepth 100000 in
theorem n9_be1 {w : World} (htm : ∀ W, Below w.heap.size w W → Tab W ∧ ML W) : Calls Tryz.prog 48 #[.int .i64 1, .string ⟨#[50]⟩] w (fun e w' => e = .returned (.tuple #[.string ⟨#[53, 47, 52]⟩, .int .i64 0]) ∧ Below w.heap.size w w') := by
  have h := lBeta_q (R := 2) (n := 1) (by omega) (by omega) (by decide +kernel) (by decide +kernel) (by decide +kernel) (by decide +kernel) (by decide +kernel) (by decide +kernel) (by decide +kernel) (by decide +kernel) htm
  rw [show qstr (1 + (2 + -1) * (((2 * 1 : Int) : Rat) * 2)⁻¹) = ⟨#[53, 47, 52]⟩ by decide +kernel] at h
  rw [show qstr (2) = ⟨#[50]⟩ by decide +kernel] at h
  exact h
set_option maxRecDepth 100000 in
theorem n9_ha {w : World} (htm : ∀ W, Below w.heap.size w W → Tab W ∧ ML W) : Calls Tryz.prog 49 #[.string ⟨#[50]⟩] w (fun e w' => e = .returned (.tuple #[.string ⟨#[52, 47, 51]⟩, .int .i64 0]) ∧ Below w.heap.size w w') := by
  have h := lHalf_q (R := 2) (by decide +kernel) (by decide +kernel) (by decide +kernel) (by decide +kernel) (by decide +kernel) htm
  rw [show qstr (2 * 2 * (2 + 1)⁻¹) = ⟨#[52, 47, 51]⟩ by decide +kernel] at h
  rw [show qstr (2) = ⟨#[50]⟩ by decide +kernel] at h
  exact h
set_option maxRecDepth 100000 in
theorem n9_grp51 {w : World} (htm : ∀ W, Below w.heap.size w W → Tab W ∧ ML W) : Calls Tryz.prog 43 #[.agg #[.string ⟨#[50]⟩, .string ⟨#[48]⟩], .int .i64 51] w (fun e w' => e = .returned (.tuple #[.agg #[.string ⟨#[]⟩, .string ⟨#[]⟩], .int .i64 2]) ∧ Below w.heap.size w w') := by
  have e : chkL ⟨#[50]⟩ ⟨#[48]⟩ = 0 := by decide +kernel
  have h := lGroup_any (f := ⟨#[50]⟩) (d := ⟨#[48]⟩) (k := 51) (x := ⟨#[]⟩) (y := ⟨#[]⟩) (m := 0) (by decide) (by decide) (htm w (Below.refl _ _)).2 (fun _ h2 => absurd h2 (by decide))
  rw [e] at h
  exact h
set_option maxRecDepth 100000 in
theorem n9_late2 {w : World} (htm : ∀ W, Below w.heap.size w W → Tab W ∧ ML W) : Calls Tryz.prog 44 #[.agg #[.string ⟨#[50]⟩, .string ⟨#[48]⟩], .string ⟨#[50]⟩] w (fun e w' => e = .returned (.tuple #[.agg #[.string ⟨#[]⟩, .string ⟨#[]⟩], .int .i64 2]) ∧ Below w.heap.size w w') := by
  have e : chkL ⟨#[50]⟩ ⟨#[48]⟩ = 0 := by decide +kernel
  have e2 : ordE ⟨#[48]⟩ [⟨#[50]⟩, ⟨#[49]⟩] = 2 := by decide +kernel
  have h := lLate_any (f := ⟨#[50]⟩) (d := ⟨#[48]⟩) (u := ⟨#[50]⟩) (x := ⟨#[]⟩) (y := ⟨#[]⟩) (m := 0) (by decide) (by decide) (htm w (Below.refl _ _)).2 (by decide) (fun _ h2 => absurd (e2.symm.trans h2) (by decide))
  rw [e, e2] at h
  exact h
set_option maxRecDepth 100000 in
theorem n9_al4 {w : World} (htm : ∀ W, Below w.heap.size w W → Tab W ∧ ML W) : Calls Tryz.prog 47 #[.int .i64 0, .string ⟨#[50]⟩] w (fun e w' => e = .returned (.tuple #[.string ⟨#[]⟩, .int .i64 2]) ∧ Below w.heap.size w w') := by
  have h := alpha_any (F := ⟨#[50]⟩) (n := 0) (e1 := 0) (T := (⟨#[]⟩, 0)) (w := w) (fun W hb => by
    have h := above_q (R := 2) (by decide +kernel) (by decide +kernel) (w := W) (htm W hb).2
    rw [show qstr 2 = ⟨#[50]⟩ by decide +kernel] at h
    exact h) (fun _ h2 => absurd h2 (by decide))
  exact h
set_option maxRecDepth 100000 in
theorem n9_be2 {w : World} (htm : ∀ W, Below w.heap.size w W → Tab W ∧ ML W) : Calls Tryz.prog 48 #[.int .i64 1000001, .string ⟨#[50]⟩] w (fun e w' => e = .returned (.tuple #[.string ⟨#[]⟩, .int .i64 2]) ∧ Below w.heap.size w w') := by
  have h := beta_any (F := ⟨#[50]⟩) (n := 1000001) (e1 := 0) (T := (⟨#[]⟩, 0)) (w := w) (fun W hb => by
    have h := above_q (R := 2) (by decide +kernel) (by decide +kernel) (w := W) (htm W hb).2
    rw [show qstr 2 = ⟨#[50]⟩ by decide +kernel] at h
    exact h) (fun _ _ h2 => absurd h2 (by decide))
  exact h
set_option maxRecDepth 100000 in
theorem n9_al3 {w : World} (htm : ∀ W, Below w.heap.size w W → Tab W ∧ ML W) : Calls Tryz.prog 47 #[.int .i64 1, .string ⟨#[49]⟩] w (fun e w' => e = .returned (.tuple #[.string ⟨#[]⟩, .int .i64 2]) ∧ Below w.heap.size w w') := by
  have h := alpha_any (F := ⟨#[49]⟩) (n := 1) (e1 := 2) (T := (⟨#[]⟩, 0)) (w := w) (fun W hb => by
    have h := aboveOne_any (F := ⟨#[49]⟩) (c := cmpQ 1 1) (n := 0) (w := W) (by
      have h := Cmp_q 1 1 o1Q o1Q W (htm W hb).2
      rw [q1L] at h
      exact h)
    rw [if_neg (by decide), if_pos (show cmpQ 1 1 ≤ 0 by decide +kernel)] at h
    exact h) (fun h2 => absurd h2 (by decide))
  exact h
set_option maxRecDepth 100000 in
theorem n9_chk1 {w : World} (htm : ∀ W, Below w.heap.size w W → Tab W ∧ ML W) : Calls Tryz.prog 51 #[.agg #[.string ⟨#[49, 47, 50]⟩, .string ⟨#[48]⟩]] w (fun e w' => e = .returned (.int .i64 2) ∧ Below w.heap.size w w') := by
  have h := lCheck_any (f := ⟨#[49, 47, 50]⟩) (d := ⟨#[48]⟩) (w := w) (by decide) (by decide) (htm w (Below.refl _ _)).2
  rw [show chkL ⟨#[49, 47, 50]⟩ ⟨#[48]⟩ = 2 by decide +kernel] at h
  exact h
set_option maxRecDepth 100000 in
theorem n9_chk2 {w : World} (htm : ∀ W, Below w.heap.size w W → Tab W ∧ ML W) : Calls Tryz.prog 51 #[.agg #[.string ⟨#[50]⟩, .string ⟨#[50]⟩]] w (fun e w' => e = .returned (.int .i64 2) ∧ Below w.heap.size w w') := by
  have h := lCheck_any (f := ⟨#[50]⟩) (d := ⟨#[50]⟩) (w := w) (by decide) (by decide) (htm w (Below.refl _ _)).2
  rw [show chkL ⟨#[50]⟩ ⟨#[50]⟩ = 2 by decide +kernel] at h
  exact h
set_option maxRecDepth 100000 in
theorem n9_chk3 {w : World} (htm : ∀ W, Below w.heap.size w W → Tab W ∧ ML W) : Calls Tryz.prog 51 #[.agg #[.string ⟨#[50]⟩, .string ⟨#[45, 49]⟩]] w (fun e w' => e = .returned (.int .i64 2) ∧ Below w.heap.size w w') := by
  have h := lCheck_any (f := ⟨#[50]⟩) (d := ⟨#[45, 49]⟩) (w := w) (by decide) (by decide) (htm w (Below.refl _ _)).2
  rw [show chkL ⟨#[50]⟩ ⟨#[45, 49]⟩ = 2 by decide +kernel] at h
  exact h
set_option maxRecDepth 100000 in
theorem n9_chk4 {w : World} (htm : ∀ W, Below w.heap.size w W → Tab W ∧ ML W) : Calls Tryz.prog 51 #[.agg #[.string ⟨#[]⟩, .string ⟨#[]⟩]] w (fun e w' => e = .returned (.int .i64 3) ∧ Below w.heap.size w w') := by
  have h := lCheck_any (f := ⟨#[]⟩) (d := ⟨#[]⟩) (w := w) (by decide) (by decide) (htm w (Below.refl _ _)).2
  rw [show chkL ⟨#[]⟩ ⟨#[]⟩ = 3 by decide +kernel] at h
  exact h
set_option maxRecDepth 100000 in
theorem n9_chk5 {w : World} (htm : ∀ W, Below w.heap.size w W → Tab W ∧ ML W) : Calls Tryz.prog 51 #[.agg #[.string ⟨#[49]⟩, .string ⟨#[48]⟩]] w (fun e w' => e = .returned (.int .i64 0) ∧ Below w.heap.size w w') := by
  have h := lCheck_any (f := ⟨#[49]⟩) (d := ⟨#[48]⟩) (w := w) (by decide) (by decide) (htm w (Below.refl _ _)).2
  rw [show chkL ⟨#[49]⟩ ⟨#[48]⟩ = 0 by decide +kernel] at h
  exact h
set_option maxHeartbeats 6400000 in
set_option maxRecDepth 100000 in
theorem n9_sum {w : World} (htm : ∀ W, Below w.heap.size w W → Tab W ∧ ML W) : Calls Tryz.prog 42 #[.slice none 0 0] w (fun e w' => e = .returned (.tuple #[.agg #[.string ⟨#[49]⟩, .string ⟨#[48]⟩], .int .i64 0]) ∧ Below w.heap.size w w') := by
  have h3 := (Below.refl w.heap.size w).alloc (Nat.le_refl _) (.cells #[.string ⟨#[]⟩, .string ⟨#[]⟩] 62)
  have r3 : RB w (w.alloc (.cells #[.string ⟨#[]⟩, .string ⟨#[]⟩] 62)) w.heap.size ⟨#[]⟩ ⟨#[]⟩ := RB.new (Nat.le_refl _)
  have hf : Calls Tryz.prog 109 #[.func (.func 110) #[] #[], .slice none 0 0] (w.alloc (.cells #[.string ⟨#[]⟩, .string ⟨#[]⟩] 62)) (Rl ⟨#[49]⟩ ⟨#[48]⟩ (w.alloc (.cells #[.string ⟨#[]⟩, .string ⟨#[]⟩] 62))) :=
    Fin.rl (es := ces [] 0) rfl (lfolded_any (g := 110) (c := 0) (x := ⟨#[49]⟩) (y := ⟨#[48]⟩) (m := 0) (MR.nil (ao := none)) (by omega) (fun z hz => by cases hz) (htm _ h3).2 (fun _ W bl bs hb c1 l1 c2 l2 => folded_clo c1 l1 c2 l2 (fun W2 hb2 =>
      lfold_any (g := 110) (L := []) (n := 0) (k := 0) (c := 0) (st := fun _ => (⟨#[49]⟩, ⟨#[48]⟩)) (m := 0) (MR.nil (ao := none)) (by omega) (Nat.le_refl _) (fun h => absurd h (by omega)) (fun _ => rfl) (fun args W => by simp [go_sem]) (fun i x W2 hi => absurd hi (by omega)) (fun x W2 h => absurd h (by omega)))))
  unfold Rl at hf
  have HF := Lib.hid hf
  have HB := Lib.hid (And.intro h3 r3)
  clear hf h3 r3 htm
  go_enter Tryz.func42, Tryz.ntmps42
  go_wp2_with fail
  refine HF.out.mono ?_
  rintro e w2 ⟨rfl, hb⟩
  have hbb := HB.out.1.trans (hb.mono HB.out.1.size)
  obtain ⟨_, _, c0, c1, z0, z1⟩ := HB.out.2.below hb
  have HE := Lib.hid ((hbb.setCell (p := ⟨w.heap.size, 0, none⟩) (by show w.heap.size ≤ w.heap.size; omega) (.string ⟨#[49]⟩)).setCell (p := ⟨w.heap.size, 1, none⟩) (by show w.heap.size ≤ w.heap.size; omega) (.string ⟨#[48]⟩))
  clear hb hbb HF HB
  go_wp2_with fail
  refine bodyPost_ret (v := .tuple #[.agg #[.string ⟨#[49]⟩, .string ⟨#[48]⟩], .int .i64 0]) (by simp [results, Tryz.results42, go_sem, c0, c1]) rfl ?_
  exact ⟨rfl, HE.out⟩
section
variable {P : Program} {ops : Array Oper} {Q : Exit → Act → World → Prop} {md : Region.Mode} {S : World → Prop}
theorem takeG9 {i : Nat} {oi : Oper} {v : Value} {d fuel : Nat} {listed : Array Bool} {a : Act} {w : World} (hi : ops[i]? = some oi) (hd : oi.dst = some d)
    (hs : Region.noSelect ops = true) (hf : Region.free md ops listed i = true) (hr : (Region.ready md ops listed).contains i = true)
    (hQ : ∀ c a w, Q (.panic c) (a.put (some d) v) w → Q (.panic c) a w) (hg : Region.wanted oi (yielded ops a.tmps) = true) (hy : ∀ w, S w → (execOp a.eval oi).run P w = .ok (.value v) w) (hS : S w)
    (h : wpAnyH P md ops Q S fuel (listed.setIfInBounds i true) (a.put (some d) v) w) : wpAnyH P md ops Q S (fuel + 1) listed a w :=
  wpAnyH_take hi hs hf hr (hd ▸ hQ) (.inl ⟨hg, hy⟩) hS (hd ▸ h)
theorem region9 {id n : Nat} {a : Act} {w : World} (hm : P.follows .mixedOrders = true) (hn : ops.size = n) (h : wpAnyH P .any ops Q S n (Array.replicate n false) a w.drew) : (Code.region id ops true).wp P Q a w := by
  subst hn
  exact wp_region_held hm h
theorem runG9 {i : Nat} {o : Oper} {K : Act → World → Prop} {a : Act} {w : World} (hi : ops[i]? = some o) (hg : Region.wanted o (yielded ops a.tmps) = true) (h : Oper.wp P o a w K Q) : wpOp P ops Q i K a w := by
  unfold wpOp
  simp only [hi]
  rw [if_pos hg]
  exact .inl h
end
theorem eqs9 (s : ByteArray) (W : World) : (binOp .eql 27 (.string s) (.string s)).run Tryz.prog W = .ok (.bool true) W := by simp [go_sem]
set_option maxHeartbeats 25600000 in
set_option maxRecDepth 100000 in
theorem lnames_any (w : World) (htab : Tab w) (hm : ML w) : Calls Tryz.prog 7 #[] w fun e w' => e = .returned (.bool true) ∧ Below w.heap.size w w' := by
  have HL := Lib.hid (lives9_any w htab hm)
  have HTM := Lib.hid (fun W (hb : Below w.heap.size w W) W2 (hb2 : Below W.heap.size W W2) => And.intro (htab.below (hb.trans (hb2.mono hb.size))) (ml_keep hm (ml_pos hm) (hb.trans (hb2.mono hb.size))))
  clear htab hm
  go_enter Tryz.func7, Tryz.ntmps7
  go_wp2_with fail
  refine HL.out.mono ?_
  rintro e v0 ⟨rfl, hb⟩
  clear HL
  have h1 := hb.alloc hb.size (.cells #[.string ⟨#[51, 47, 50]⟩, .string ⟨#[49, 47, 49, 48]⟩] 62)
  have h2 := h1.alloc h1.size (.cells #[.string ⟨#[50]⟩, .string ⟨#[48]⟩] 62)
  have r1 : RB w (v0.alloc (.cells #[.string ⟨#[51, 47, 50]⟩, .string ⟨#[49, 47, 49, 48]⟩] 62)) v0.heap.size ⟨#[51, 47, 50]⟩ ⟨#[49, 47, 49, 48]⟩ := RB.new hb.size
  have r1 := r1.below ((Below.refl (v0.alloc (.cells #[.string ⟨#[51, 47, 50]⟩, .string ⟨#[49, 47, 49, 48]⟩] 62)).heap.size (v0.alloc (.cells #[.string ⟨#[51, 47, 50]⟩, .string ⟨#[49, 47, 49, 48]⟩] 62))).alloc (Nat.le_refl _) (.cells #[.string ⟨#[50]⟩, .string ⟨#[48]⟩] 62))
  have r2 : RB w ((v0.alloc (.cells #[.string ⟨#[51, 47, 50]⟩, .string ⟨#[49, 47, 49, 48]⟩] 62)).alloc (.cells #[.string ⟨#[50]⟩, .string ⟨#[48]⟩] 62)) (v0.heap.size + 1) ⟨#[50]⟩ ⟨#[48]⟩ := by
    have h := RB.new (w := w) (W := (v0.alloc (.cells #[.string ⟨#[51, 47, 50]⟩, .string ⟨#[49, 47, 49, 48]⟩] 62))) (s := ⟨#[50]⟩) (t := ⟨#[48]⟩) (ty := 62) h1.size
    simpa using h
  have HR := Lib.hid (And.intro r1 r2)
  have HB := Lib.hid h2
  clear hb h1 h2 r1 r2
  go_wp2_with fail
  refine (n9_add1 (HTM.out _ HB.out)).mono ?_
  rintro e v1 ⟨rfl, hb⟩
  have hbk := HB.out.trans (hb.mono HB.out.size)
  have hbA := (Below.refl v1.heap.size v1).alloc (Nat.le_refl _) (.cells #[.string ⟨#[57, 47, 52]⟩, .string ⟨#[49, 47, 53]⟩] 62)
  have qn : RB w (v1.alloc (.cells #[.string ⟨#[57, 47, 52]⟩, .string ⟨#[49, 47, 53]⟩] 62)) v1.heap.size ⟨#[57, 47, 52]⟩ ⟨#[49, 47, 53]⟩ := RB.new hbk.size
  have q0 := HR.out.1.below hb
  have q0 := q0.below hbA
  have q1 := HR.out.2.below hb
  have q1 := q1.below hbA
  have HR := Lib.hid (And.intro q0 (And.intro q1 qn))
  have HB := Lib.hid (hbk.alloc hbk.size (.cells #[.string ⟨#[57, 47, 52]⟩, .string ⟨#[49, 47, 53]⟩] 62))
  clear hb hbk hbA q0 q1 qn
  go_wp2_with fail
  refine (n9_sum (HTM.out _ HB.out)).mono ?_
  rintro e v2 ⟨rfl, hb⟩
  have hbk := HB.out.trans (hb.mono HB.out.size)
  have hbA := (Below.refl v2.heap.size v2).alloc (Nat.le_refl _) (.cells #[.string ⟨#[49]⟩, .string ⟨#[48]⟩] 62)
  have qn : RB w (v2.alloc (.cells #[.string ⟨#[49]⟩, .string ⟨#[48]⟩] 62)) v2.heap.size ⟨#[49]⟩ ⟨#[48]⟩ := RB.new hbk.size
  have q0 := HR.out.1.below hb
  have q0 := q0.below hbA
  have q1 := HR.out.2.1.below hb
  have q1 := q1.below hbA
  have q2 := HR.out.2.2.below hb
  have q2 := q2.below hbA
  have HR := Lib.hid (And.intro q0 (And.intro q1 (And.intro q2 qn)))
  have HB := Lib.hid (hbk.alloc hbk.size (.cells #[.string ⟨#[49]⟩, .string ⟨#[48]⟩] 62))
  have ka0 := q0.c0
  have ka1 := q0.c1
  clear hb hbk hbA q0 q1 q2 qn
  go_wp2_with fail
  refine (n9_grp0 (HTM.out _ HB.out)).mono ?_
  rintro e v3 ⟨rfl, hb⟩
  have hbk := HB.out.trans (hb.mono HB.out.size)
  have hbA := (Below.refl v3.heap.size v3).alloc (Nat.le_refl _) (.cells #[.string ⟨#[49]⟩, .string ⟨#[48]⟩] 62)
  have qn : RB w (v3.alloc (.cells #[.string ⟨#[49]⟩, .string ⟨#[48]⟩] 62)) v3.heap.size ⟨#[49]⟩ ⟨#[48]⟩ := RB.new hbk.size
  have q0 := HR.out.1.below hb
  have q0 := q0.below hbA
  have q1 := HR.out.2.1.below hb
  have q1 := q1.below hbA
  have q2 := HR.out.2.2.1.below hb
  have q2 := q2.below hbA
  have q3 := HR.out.2.2.2.below hb
  have q3 := q3.below hbA
  have HR := Lib.hid (And.intro q0 (And.intro q1 (And.intro q2 (And.intro q3 qn))))
  have HB := Lib.hid (hbk.alloc hbk.size (.cells #[.string ⟨#[49]⟩, .string ⟨#[48]⟩] 62))
  clear ka0 ka1
  have kb0 := q1.c0
  have kb1 := q1.c1
  clear hb hbk hbA q0 q1 q2 q3 qn
  go_wp2_with fail
  refine (n9_grp51 (HTM.out _ HB.out)).mono ?_
  rintro e v4 ⟨rfl, hb⟩
  have hbk := HB.out.trans (hb.mono HB.out.size)
  have hbA := (Below.refl v4.heap.size v4).alloc (Nat.le_refl _) (.cells #[.string ⟨#[]⟩, .string ⟨#[]⟩] 62)
  have qn : RB w (v4.alloc (.cells #[.string ⟨#[]⟩, .string ⟨#[]⟩] 62)) v4.heap.size ⟨#[]⟩ ⟨#[]⟩ := RB.new hbk.size
  have q0 := HR.out.1.below hb
  have q0 := q0.below hbA
  have q1 := HR.out.2.1.below hb
  have q1 := q1.below hbA
  have q2 := HR.out.2.2.1.below hb
  have q2 := q2.below hbA
  have q3 := HR.out.2.2.2.1.below hb
  have q3 := q3.below hbA
  have q4 := HR.out.2.2.2.2.below hb
  have q4 := q4.below hbA
  have HR := Lib.hid (And.intro q0 (And.intro q1 (And.intro q2 (And.intro q3 q4))))
  have HB := Lib.hid (hbk.alloc hbk.size (.cells #[.string ⟨#[]⟩, .string ⟨#[]⟩] 62))
  clear kb0 kb1
  have kb0 := q1.c0
  have kb1 := q1.c1
  clear hb hbk hbA qn q0 q1 q2 q3 q4
  go_wp2_with fail
  refine (n9_late1 (HTM.out _ HB.out)).mono ?_
  rintro e v5 ⟨rfl, hb⟩
  have hbk := HB.out.trans (hb.mono HB.out.size)
  have hbA := (Below.refl v5.heap.size v5).alloc (Nat.le_refl _) (.cells #[.string ⟨#[50]⟩, .string ⟨#[49]⟩] 62)
  have qn : RB w (v5.alloc (.cells #[.string ⟨#[50]⟩, .string ⟨#[49]⟩] 62)) v5.heap.size ⟨#[50]⟩ ⟨#[49]⟩ := RB.new hbk.size
  have q0 := HR.out.1.below hb
  have q0 := q0.below hbA
  have q1 := HR.out.2.1.below hb
  have q1 := q1.below hbA
  have q2 := HR.out.2.2.1.below hb
  have q2 := q2.below hbA
  have q3 := HR.out.2.2.2.1.below hb
  have q3 := q3.below hbA
  have q4 := HR.out.2.2.2.2.below hb
  have q4 := q4.below hbA
  have HR := Lib.hid (And.intro q0 (And.intro q1 (And.intro q2 (And.intro q3 (And.intro q4 qn)))))
  have HB := Lib.hid (hbk.alloc hbk.size (.cells #[.string ⟨#[50]⟩, .string ⟨#[49]⟩] 62))
  clear kb0 kb1
  have kb0 := q1.c0
  have kb1 := q1.c1
  clear hb hbk hbA q0 q1 q2 q3 q4 qn
  go_wp2_with fail
  refine (n9_late2 (HTM.out _ HB.out)).mono ?_
  rintro e v6 ⟨rfl, hb⟩
  have hbk := HB.out.trans (hb.mono HB.out.size)
  have hbA := (Below.refl v6.heap.size v6).alloc (Nat.le_refl _) (.cells #[.string ⟨#[]⟩, .string ⟨#[]⟩] 62)
  have qn : RB w (v6.alloc (.cells #[.string ⟨#[]⟩, .string ⟨#[]⟩] 62)) v6.heap.size ⟨#[]⟩ ⟨#[]⟩ := RB.new hbk.size
  have q0 := HR.out.1.below hb
  have q0 := q0.below hbA
  have q1 := HR.out.2.1.below hb
  have q1 := q1.below hbA
  have q2 := HR.out.2.2.1.below hb
  have q2 := q2.below hbA
  have q3 := HR.out.2.2.2.1.below hb
  have q3 := q3.below hbA
  have q4 := HR.out.2.2.2.2.1.below hb
  have q4 := q4.below hbA
  have q5 := HR.out.2.2.2.2.2.below hb
  have q5 := q5.below hbA
  have HR := Lib.hid (And.intro q0 (And.intro q1 (And.intro q2 (And.intro q3 (And.intro q4 q5)))))
  have HB := Lib.hid (hbk.alloc hbk.size (.cells #[.string ⟨#[]⟩, .string ⟨#[]⟩] 62))
  clear kb0 kb1
  have ka0 := q0.c0
  have ka1 := q0.c1
  have kb0 := q1.c0
  have kb1 := q1.c1
  clear hb hbk hbA qn q0 q1 q2 q3 q4 q5
  go_wp2_with fail
  refine (n9_fits1 (HTM.out _ HB.out)).mono ?_
  rintro e v7 ⟨rfl, hb⟩
  have hbk := HB.out.trans (hb.mono HB.out.size)
  have q0 := HR.out.1.below hb
  have q1 := HR.out.2.1.below hb
  have q2 := HR.out.2.2.1.below hb
  have q3 := HR.out.2.2.2.1.below hb
  have q4 := HR.out.2.2.2.2.1.below hb
  have q5 := HR.out.2.2.2.2.2.below hb
  have HR := Lib.hid (And.intro q0 (And.intro q1 (And.intro q2 (And.intro q3 (And.intro q4 q5)))))
  have HB := Lib.hid hbk
  clear ka0 ka1 kb0 kb1
  have ka0 := q0.c0
  have ka1 := q0.c1
  have kb0 := q1.c0
  have kb1 := q1.c1
  clear hb hbk q0 q1 q2 q3 q4 q5
  go_wp2_with fail
  refine (n9_fits2 (HTM.out _ HB.out)).mono ?_
  rintro e v8 ⟨rfl, hb⟩
  have hbk := HB.out.trans (hb.mono HB.out.size)
  have q0 := HR.out.1.below hb
  have q1 := HR.out.2.1.below hb
  have q2 := HR.out.2.2.1.below hb
  have q3 := HR.out.2.2.2.1.below hb
  have q4 := HR.out.2.2.2.2.1.below hb
  have q5 := HR.out.2.2.2.2.2.below hb
  have HR := Lib.hid (And.intro q0 (And.intro q1 (And.intro q2 (And.intro q3 (And.intro q4 q5)))))
  have HB := Lib.hid hbk
  clear ka0 ka1 kb0 kb1
  have ka0 := q0.c0
  have ka1 := q0.c1
  have kb0 := q1.c0
  have kb1 := q1.c1
  clear hb hbk q0 q1 q2 q3 q4 q5
  go_wp2_with fail
  refine (n9_max (HTM.out _ HB.out)).mono ?_
  rintro e v9 ⟨rfl, hb⟩
  have hbk := HB.out.trans (hb.mono HB.out.size)
  have hbA := (Below.refl v9.heap.size v9).alloc (Nat.le_refl _) (.cells #[.string ⟨#[50]⟩, .string ⟨#[49, 47, 49, 48]⟩] 62)
  have qn : RB w (v9.alloc (.cells #[.string ⟨#[50]⟩, .string ⟨#[49, 47, 49, 48]⟩] 62)) v9.heap.size ⟨#[50]⟩ ⟨#[49, 47, 49, 48]⟩ := RB.new hbk.size
  have q0 := HR.out.1.below hb
  have q0 := q0.below hbA
  have q1 := HR.out.2.1.below hb
  have q1 := q1.below hbA
  have q2 := HR.out.2.2.1.below hb
  have q2 := q2.below hbA
  have q3 := HR.out.2.2.2.1.below hb
  have q3 := q3.below hbA
  have q4 := HR.out.2.2.2.2.1.below hb
  have q4 := q4.below hbA
  have q5 := HR.out.2.2.2.2.2.below hb
  have q5 := q5.below hbA
  have HR := Lib.hid (And.intro q0 (And.intro q1 (And.intro q2 (And.intro q3 (And.intro q4 (And.intro q5 qn))))))
  have HB := Lib.hid (hbk.alloc hbk.size (.cells #[.string ⟨#[50]⟩, .string ⟨#[49, 47, 49, 48]⟩] 62))
  clear ka0 ka1 kb0 kb1
  clear hb hbk hbA q0 q1 q2 q3 q4 q5 qn
  go_wp2_with fail
  refine (n9_al1 (HTM.out _ HB.out)).mono ?_
  rintro e v10 ⟨rfl, hb⟩
  have hbk := HB.out.trans (hb.mono HB.out.size)
  have q0 := HR.out.1.below hb
  have q1 := HR.out.2.1.below hb
  have q2 := HR.out.2.2.1.below hb
  have q3 := HR.out.2.2.2.1.below hb
  have q4 := HR.out.2.2.2.2.1.below hb
  have q5 := HR.out.2.2.2.2.2.1.below hb
  have q6 := HR.out.2.2.2.2.2.2.below hb
  have HR := Lib.hid (And.intro q0 (And.intro q1 (And.intro q2 (And.intro q3 (And.intro q4 (And.intro q5 q6))))))
  have HB := Lib.hid hbk
  clear hb hbk q0 q1 q2 q3 q4 q5 q6
  go_wp2_with fail
  refine (n9_al2 (HTM.out _ HB.out)).mono ?_
  rintro e v11 ⟨rfl, hb⟩
  have hbk := HB.out.trans (hb.mono HB.out.size)
  have q0 := HR.out.1.below hb
  have q1 := HR.out.2.1.below hb
  have q2 := HR.out.2.2.1.below hb
  have q3 := HR.out.2.2.2.1.below hb
  have q4 := HR.out.2.2.2.2.1.below hb
  have q5 := HR.out.2.2.2.2.2.1.below hb
  have q6 := HR.out.2.2.2.2.2.2.below hb
  have HR := Lib.hid (And.intro q0 (And.intro q1 (And.intro q2 (And.intro q3 (And.intro q4 (And.intro q5 q6))))))
  have HB := Lib.hid hbk
  clear hb hbk q0 q1 q2 q3 q4 q5 q6
  go_wp2_with fail
  refine (n9_be1 (HTM.out _ HB.out)).mono ?_
  rintro e v12 ⟨rfl, hb⟩
  have hbk := HB.out.trans (hb.mono HB.out.size)
  have q0 := HR.out.1.below hb
  have q1 := HR.out.2.1.below hb
  have q2 := HR.out.2.2.1.below hb
  have q3 := HR.out.2.2.2.1.below hb
  have q4 := HR.out.2.2.2.2.1.below hb
  have q5 := HR.out.2.2.2.2.2.1.below hb
  have q6 := HR.out.2.2.2.2.2.2.below hb
  have HR := Lib.hid (And.intro q0 (And.intro q1 (And.intro q2 (And.intro q3 (And.intro q4 (And.intro q5 q6))))))
  have HB := Lib.hid hbk
  clear hb hbk q0 q1 q2 q3 q4 q5 q6
  go_wp2_with fail
  refine (n9_ha (HTM.out _ HB.out)).mono ?_
  rintro e v13 ⟨rfl, hb⟩
  have hbk := HB.out.trans (hb.mono HB.out.size)
  have q0 := HR.out.1.below hb
  have q1 := HR.out.2.1.below hb
  have q2 := HR.out.2.2.1.below hb
  have q3 := HR.out.2.2.2.1.below hb
  have q4 := HR.out.2.2.2.2.1.below hb
  have q5 := HR.out.2.2.2.2.2.1.below hb
  have q6 := HR.out.2.2.2.2.2.2.below hb
  have HR := Lib.hid (And.intro q0 (And.intro q1 (And.intro q2 (And.intro q3 (And.intro q4 (And.intro q5 q6))))))
  have HB := Lib.hid hbk
  clear hb hbk q0 q1 q2 q3 q4 q5 q6
  go_wp2_with fail
  refine (n9_al3 (HTM.out _ HB.out)).mono ?_
  rintro e v14 ⟨rfl, hb⟩
  have hbk := HB.out.trans (hb.mono HB.out.size)
  have q0 := HR.out.1.below hb
  have q1 := HR.out.2.1.below hb
  have q2 := HR.out.2.2.1.below hb
  have q3 := HR.out.2.2.2.1.below hb
  have q4 := HR.out.2.2.2.2.1.below hb
  have q5 := HR.out.2.2.2.2.2.1.below hb
  have q6 := HR.out.2.2.2.2.2.2.below hb
  have HR := Lib.hid (And.intro q0 (And.intro q1 (And.intro q2 (And.intro q3 (And.intro q4 (And.intro q5 q6))))))
  have HB := Lib.hid hbk
  clear hb hbk q0 q1 q2 q3 q4 q5 q6
  go_wp2_with fail
  refine (n9_al4 (HTM.out _ HB.out)).mono ?_
  rintro e v15 ⟨rfl, hb⟩
  have hbk := HB.out.trans (hb.mono HB.out.size)
  have q0 := HR.out.1.below hb
  have q1 := HR.out.2.1.below hb
  have q2 := HR.out.2.2.1.below hb
  have q3 := HR.out.2.2.2.1.below hb
  have q4 := HR.out.2.2.2.2.1.below hb
  have q5 := HR.out.2.2.2.2.2.1.below hb
  have q6 := HR.out.2.2.2.2.2.2.below hb
  have HR := Lib.hid (And.intro q0 (And.intro q1 (And.intro q2 (And.intro q3 (And.intro q4 (And.intro q5 q6))))))
  have HB := Lib.hid hbk
  clear hb hbk q0 q1 q2 q3 q4 q5 q6
  go_wp2_with fail
  refine (n9_be2 (HTM.out _ HB.out)).mono ?_
  rintro e v16 ⟨rfl, hb⟩
  have hbk := HB.out.trans (hb.mono HB.out.size)
  have q0 := HR.out.1.below hb
  have q1 := HR.out.2.1.below hb
  have q2 := HR.out.2.2.1.below hb
  have q3 := HR.out.2.2.2.1.below hb
  have q4 := HR.out.2.2.2.2.1.below hb
  have q5 := HR.out.2.2.2.2.2.1.below hb
  have q6 := HR.out.2.2.2.2.2.2.below hb
  have HR := Lib.hid (And.intro q0 (And.intro q1 (And.intro q2 (And.intro q3 (And.intro q4 (And.intro q5 q6))))))
  have HB := Lib.hid hbk
  clear hb hbk q0 q1 q2 q3 q4 q5 q6
  go_wp2_with fail
  refine (n9_add2 (HTM.out _ HB.out)).mono ?_
  rintro e v17 ⟨rfl, hb⟩
  have hbk := HB.out.trans (hb.mono HB.out.size)
  have hbA := (Below.refl v17.heap.size v17).alloc (Nat.le_refl _) (.cells #[.string ⟨#[49]⟩, .string ⟨#[49]⟩] 62)
  have qn : RB w (v17.alloc (.cells #[.string ⟨#[49]⟩, .string ⟨#[49]⟩] 62)) v17.heap.size ⟨#[49]⟩ ⟨#[49]⟩ := RB.new hbk.size
  have q0 := HR.out.1.below hb
  have q0 := q0.below hbA
  have q1 := HR.out.2.1.below hb
  have q1 := q1.below hbA
  have q2 := HR.out.2.2.1.below hb
  have q2 := q2.below hbA
  have q3 := HR.out.2.2.2.1.below hb
  have q3 := q3.below hbA
  have q4 := HR.out.2.2.2.2.1.below hb
  have q4 := q4.below hbA
  have q5 := HR.out.2.2.2.2.2.1.below hb
  have q5 := q5.below hbA
  have q6 := HR.out.2.2.2.2.2.2.below hb
  have q6 := q6.below hbA
  have HR := Lib.hid (And.intro q0 (And.intro q1 (And.intro q2 (And.intro q3 (And.intro q4 (And.intro q5 (And.intro q6 qn)))))))
  have HB := Lib.hid (hbk.alloc hbk.size (.cells #[.string ⟨#[49]⟩, .string ⟨#[49]⟩] 62))
  clear hb hbk hbA q0 q1 q2 q3 q4 q5 q6 qn
  go_wp2_with fail
  refine wp_world (Below.refl (v17.alloc (.cells #[.string ⟨#[49]⟩, .string ⟨#[49]⟩] 62)).heap.size (v17.alloc (.cells #[.string ⟨#[49]⟩, .string ⟨#[49]⟩] 62))) (fun wx hbx => ?_)
  have hbw := HB.out.trans (hbx.mono HB.out.size)
  have q0 := HR.out.1.below hbx
  have q1 := HR.out.2.1.below hbx
  have q2 := HR.out.2.2.1.below hbx
  have q3 := HR.out.2.2.2.1.below hbx
  have q4 := HR.out.2.2.2.2.1.below hbx
  have q5 := HR.out.2.2.2.2.2.1.below hbx
  have q6 := HR.out.2.2.2.2.2.2.1.below hbx
  have q7 := HR.out.2.2.2.2.2.2.2.below hbx
  have HQ := Lib.hid (fun W (h : Below wx.heap.size wx W) => And.intro ((q2.below h).c0) (And.intro ((q2.below h).c1) (And.intro ((q3.below h).c0) (And.intro ((q3.below h).c1) (And.intro ((q4.below h).c0) (And.intro ((q4.below h).c1) (And.intro ((q5.below h).c0) (And.intro ((q5.below h).c1) (And.intro ((q6.below h).c0) (And.intro ((q6.below h).c1) (And.intro ((q7.below h).c0) ((q7.below h).c1))))))))))))
  have HB := Lib.hid hbw
  clear hbx hbw HR q0 q1 q2 q3 q4 q5 q6 q7
  refine region9 (n := 103) (S := fun W => Below wx.heap.size wx W) (by kernel_rfl) (by kernel_rfl) ?_
  have hD0 := (Below.refl wx.heap.size wx).drew
  generalize wx.drew = W at *
  as_aux_lemma =>
    refine takeG9 (i := 0) (d := 123) (v := .agg #[.string ⟨#[57, 47, 52]⟩, .string ⟨#[49, 47, 53]⟩]) rfl rfl (by kernel_rfl) (by kernel_rfl) (by kernel_rfl) (fun _ _ _ h => h) (by kernel_rfl) (fun W hW => by have e0 := (HQ.out W hW).1; have e1 := (HQ.out W hW).2.1; go_simp) hD0 ?_
    simp only [Act.put, List.setIfInBounds_toArray, List.set_cons_zero, List.set_cons_succ]
    refine takeG9 (i := 1) (d := 124) (v := .agg #[.string ⟨#[57, 47, 52]⟩, .string ⟨#[49, 47, 53]⟩]) rfl rfl (by kernel_rfl) (by kernel_rfl) (by kernel_rfl) (fun _ _ _ h => h) (by kernel_rfl) (fun W hW => by go_simp) hD0 ?_
    simp only [Act.put, List.setIfInBounds_toArray, List.set_cons_zero, List.set_cons_succ]
    refine takeG9 (i := 2) (d := 125) (v := .bool true) rfl rfl (by kernel_rfl) (by kernel_rfl) (by kernel_rfl) (fun _ _ _ h => h) (by kernel_rfl) (fun W hW => by have e0 := eql_same ⟨#[57, 47, 52]⟩ ⟨#[49, 47, 53]⟩; go_simp) hD0 ?_
    simp only [Act.put, List.setIfInBounds_toArray, List.set_cons_zero, List.set_cons_succ]
    refine takeG9 (i := 3) (d := 126) (v := .bool true) rfl rfl (by kernel_rfl) (by kernel_rfl) (by kernel_rfl) (fun _ _ _ h => h) (by kernel_rfl) (fun W hW => by go_simp) hD0 ?_
    simp only [Act.put, List.setIfInBounds_toArray, List.set_cons_zero, List.set_cons_succ]
    refine takeG9 (i := 4) (d := 127) (v := .agg #[.string ⟨#[49]⟩, .string ⟨#[48]⟩]) rfl rfl (by kernel_rfl) (by kernel_rfl) (by kernel_rfl) (fun _ _ _ h => h) (by kernel_rfl) (fun W hW => by have e0 := (HQ.out W hW).2.2.1; have e1 := (HQ.out W hW).2.2.2.1; go_simp) hD0 ?_
    simp only [Act.put, List.setIfInBounds_toArray, List.set_cons_zero, List.set_cons_succ]
    refine wpHz_one (i := 5) (by kernel_rfl) ?_
    refine runG9 rfl (by kernel_rfl) (wpz_enter (d := 128) rfl (by go_simp) ((none_ret _).mono ?_))
    rintro e u1 ⟨rfl, hb⟩
    have hD1 : Below wx.heap.size wx u1 := hD0.trans (hb.mono hD0.size)
    clear hb
    refine ⟨_, rfl, hD1, ?_⟩
    simp only [Act.put, List.setIfInBounds_toArray, List.set_cons_zero, List.set_cons_succ]
    refine takeG9 (i := 6) (d := 129) (v := .bool true) rfl rfl (by kernel_rfl) (by kernel_rfl) (by kernel_rfl) (fun _ _ _ h => h) (by kernel_rfl) (fun W hW => by have e0 := eql_same ⟨#[49]⟩ ⟨#[48]⟩; go_simp) hD1 ?_
    simp only [Act.put, List.setIfInBounds_toArray, List.set_cons_zero, List.set_cons_succ]
    refine takeG9 (i := 7) (d := 130) (v := .bool true) rfl rfl (by kernel_rfl) (by kernel_rfl) (by kernel_rfl) (fun _ _ _ h => h) (by kernel_rfl) (fun W hW => by go_simp) hD1 ?_
    simp only [Act.put, List.setIfInBounds_toArray, List.set_cons_zero, List.set_cons_succ]
    as_aux_lemma =>
      refine takeG9 (i := 8) (d := 131) (v := .bool true) rfl rfl (by kernel_rfl) (by kernel_rfl) (by kernel_rfl) (fun _ _ _ h => h) (by kernel_rfl) (fun W hW => by go_simp) hD1 ?_
      simp only [Act.put, List.setIfInBounds_toArray, List.set_cons_zero, List.set_cons_succ]
      refine takeG9 (i := 9) (d := 132) (v := .agg #[.string ⟨#[49]⟩, .string ⟨#[48]⟩]) rfl rfl (by kernel_rfl) (by kernel_rfl) (by kernel_rfl) (fun _ _ _ h => h) (by kernel_rfl) (fun W hW => by have e0 := (HQ.out W hW).2.2.2.2.1; have e1 := (HQ.out W hW).2.2.2.2.2.1; go_simp) hD1 ?_
      simp only [Act.put, List.setIfInBounds_toArray, List.set_cons_zero, List.set_cons_succ]
      refine wpHz_one (i := 10) (by kernel_rfl) ?_
      refine runG9 rfl (by kernel_rfl) (wpz_enter (d := 133) rfl (by go_simp) ((none_ret _).mono ?_))
      rintro e u2 ⟨rfl, hb⟩
      have hD2 : Below wx.heap.size wx u2 := hD1.trans (hb.mono hD1.size)
      clear hb
      refine ⟨_, rfl, hD2, ?_⟩
      simp only [Act.put, List.setIfInBounds_toArray, List.set_cons_zero, List.set_cons_succ]
      refine takeG9 (i := 11) (d := 134) (v := .bool true) rfl rfl (by kernel_rfl) (by kernel_rfl) (by kernel_rfl) (fun _ _ _ h => h) (by kernel_rfl) (fun W hW => by have e0 := eql_same ⟨#[49]⟩ ⟨#[48]⟩; go_simp) hD2 ?_
      simp only [Act.put, List.setIfInBounds_toArray, List.set_cons_zero, List.set_cons_succ]
      refine takeG9 (i := 12) (d := 135) (v := .bool true) rfl rfl (by kernel_rfl) (by kernel_rfl) (by kernel_rfl) (fun _ _ _ h => h) (by kernel_rfl) (fun W hW => by go_simp) hD2 ?_
      simp only [Act.put, List.setIfInBounds_toArray, List.set_cons_zero, List.set_cons_succ]
      refine takeG9 (i := 13) (d := 136) (v := .bool true) rfl rfl (by kernel_rfl) (by kernel_rfl) (by kernel_rfl) (fun _ _ _ h => h) (by kernel_rfl) (fun W hW => by go_simp) hD2 ?_
      simp only [Act.put, List.setIfInBounds_toArray, List.set_cons_zero, List.set_cons_succ]
      refine takeG9 (i := 14) (d := 137) (v := .int .i64 2) rfl rfl (by kernel_rfl) (by kernel_rfl) (by kernel_rfl) (fun _ _ _ h => h) (by kernel_rfl) (fun W hW => by go_simp) hD2 ?_
      simp only [Act.put, List.setIfInBounds_toArray, List.set_cons_zero, List.set_cons_succ]
      refine takeG9 (i := 15) (d := 138) (v := .bool true) rfl rfl (by kernel_rfl) (by kernel_rfl) (by kernel_rfl) (fun _ _ _ h => h) (by kernel_rfl) (fun W hW => by go_simp) hD2 ?_
      simp only [Act.put, List.setIfInBounds_toArray, List.set_cons_zero, List.set_cons_succ]
      as_aux_lemma =>
        refine takeG9 (i := 16) (d := 139) (v := .bool true) rfl rfl (by kernel_rfl) (by kernel_rfl) (by kernel_rfl) (fun _ _ _ h => h) (by kernel_rfl) (fun W hW => by go_simp) hD2 ?_
        simp only [Act.put, List.setIfInBounds_toArray, List.set_cons_zero, List.set_cons_succ]
        refine takeG9 (i := 17) (d := 140) (v := .bool true) rfl rfl (by kernel_rfl) (by kernel_rfl) (by kernel_rfl) (fun _ _ _ h => h) (by kernel_rfl) (fun W hW => by go_simp) hD2 ?_
        simp only [Act.put, List.setIfInBounds_toArray, List.set_cons_zero, List.set_cons_succ]
        refine takeG9 (i := 18) (d := 141) (v := .agg #[.string ⟨#[50]⟩, .string ⟨#[49]⟩]) rfl rfl (by kernel_rfl) (by kernel_rfl) (by kernel_rfl) (fun _ _ _ h => h) (by kernel_rfl) (fun W hW => by have e0 := (HQ.out W hW).2.2.2.2.2.2.1; have e1 := (HQ.out W hW).2.2.2.2.2.2.2.1; go_simp) hD2 ?_
        simp only [Act.put, List.setIfInBounds_toArray, List.set_cons_zero, List.set_cons_succ]
        refine takeG9 (i := 19) (d := 142) (v := .agg #[.string ⟨#[50]⟩, .string ⟨#[49]⟩]) rfl rfl (by kernel_rfl) (by kernel_rfl) (by kernel_rfl) (fun _ _ _ h => h) (by kernel_rfl) (fun W hW => by go_simp) hD2 ?_
        simp only [Act.put, List.setIfInBounds_toArray, List.set_cons_zero, List.set_cons_succ]
        refine takeG9 (i := 20) (d := 143) (v := .bool true) rfl rfl (by kernel_rfl) (by kernel_rfl) (by kernel_rfl) (fun _ _ _ h => h) (by kernel_rfl) (fun W hW => by have e0 := eql_same ⟨#[50]⟩ ⟨#[49]⟩; go_simp) hD2 ?_
        simp only [Act.put, List.setIfInBounds_toArray, List.set_cons_zero, List.set_cons_succ]
        refine takeG9 (i := 21) (d := 144) (v := .bool true) rfl rfl (by kernel_rfl) (by kernel_rfl) (by kernel_rfl) (fun _ _ _ h => h) (by kernel_rfl) (fun W hW => by go_simp) hD2 ?_
        simp only [Act.put, List.setIfInBounds_toArray, List.set_cons_zero, List.set_cons_succ]
        refine takeG9 (i := 22) (d := 145) (v := .bool true) rfl rfl (by kernel_rfl) (by kernel_rfl) (by kernel_rfl) (fun _ _ _ h => h) (by kernel_rfl) (fun W hW => by go_simp) hD2 ?_
        simp only [Act.put, List.setIfInBounds_toArray, List.set_cons_zero, List.set_cons_succ]
        refine takeG9 (i := 23) (d := 146) (v := .int .i64 2) rfl rfl (by kernel_rfl) (by kernel_rfl) (by kernel_rfl) (fun _ _ _ h => h) (by kernel_rfl) (fun W hW => by go_simp) hD2 ?_
        simp only [Act.put, List.setIfInBounds_toArray, List.set_cons_zero, List.set_cons_succ]
        as_aux_lemma =>
          refine takeG9 (i := 24) (d := 147) (v := .bool true) rfl rfl (by kernel_rfl) (by kernel_rfl) (by kernel_rfl) (fun _ _ _ h => h) (by kernel_rfl) (fun W hW => by go_simp) hD2 ?_
          simp only [Act.put, List.setIfInBounds_toArray, List.set_cons_zero, List.set_cons_succ]
          refine takeG9 (i := 25) (d := 148) (v := .bool true) rfl rfl (by kernel_rfl) (by kernel_rfl) (by kernel_rfl) (fun _ _ _ h => h) (by kernel_rfl) (fun W hW => by go_simp) hD2 ?_
          simp only [Act.put, List.setIfInBounds_toArray, List.set_cons_zero, List.set_cons_succ]
          refine takeG9 (i := 26) (d := 149) (v := .bool true) rfl rfl (by kernel_rfl) (by kernel_rfl) (by kernel_rfl) (fun _ _ _ h => h) (by kernel_rfl) (fun W hW => by go_simp) hD2 ?_
          simp only [Act.put, List.setIfInBounds_toArray, List.set_cons_zero, List.set_cons_succ]
          refine takeG9 (i := 27) (d := 150) (v := .bool false) rfl rfl (by kernel_rfl) (by kernel_rfl) (by kernel_rfl) (fun _ _ _ h => h) (by kernel_rfl) (fun W hW => by go_simp) hD2 ?_
          simp only [Act.put, List.setIfInBounds_toArray, List.set_cons_zero, List.set_cons_succ]
          refine takeG9 (i := 28) (d := 151) (v := .bool true) rfl rfl (by kernel_rfl) (by kernel_rfl) (by kernel_rfl) (fun _ _ _ h => h) (by kernel_rfl) (fun W hW => by go_simp) hD2 ?_
          simp only [Act.put, List.setIfInBounds_toArray, List.set_cons_zero, List.set_cons_succ]
          refine takeG9 (i := 29) (d := 152) (v := .bool true) rfl rfl (by kernel_rfl) (by kernel_rfl) (by kernel_rfl) (fun _ _ _ h => h) (by kernel_rfl) (fun W hW => by go_simp) hD2 ?_
          simp only [Act.put, List.setIfInBounds_toArray, List.set_cons_zero, List.set_cons_succ]
          refine takeG9 (i := 30) (d := 153) (v := .bool true) rfl rfl (by kernel_rfl) (by kernel_rfl) (by kernel_rfl) (fun _ _ _ h => h) (by kernel_rfl) (fun W hW => by go_simp) hD2 ?_
          simp only [Act.put, List.setIfInBounds_toArray, List.set_cons_zero, List.set_cons_succ]
          refine takeG9 (i := 31) (d := 154) (v := .bool false) rfl rfl (by kernel_rfl) (by kernel_rfl) (by kernel_rfl) (fun _ _ _ h => h) (by kernel_rfl) (fun W hW => by go_simp) hD2 ?_
          simp only [Act.put, List.setIfInBounds_toArray, List.set_cons_zero, List.set_cons_succ]
          as_aux_lemma =>
            refine takeG9 (i := 32) (d := 155) (v := .bool true) rfl rfl (by kernel_rfl) (by kernel_rfl) (by kernel_rfl) (fun _ _ _ h => h) (by kernel_rfl) (fun W hW => by go_simp) hD2 ?_
            simp only [Act.put, List.setIfInBounds_toArray, List.set_cons_zero, List.set_cons_succ]
            refine takeG9 (i := 33) (d := 156) (v := .bool true) rfl rfl (by kernel_rfl) (by kernel_rfl) (by kernel_rfl) (fun _ _ _ h => h) (by kernel_rfl) (fun W hW => by go_simp) hD2 ?_
            simp only [Act.put, List.setIfInBounds_toArray, List.set_cons_zero, List.set_cons_succ]
            refine takeG9 (i := 34) (d := 157) (v := .bool true) rfl rfl (by kernel_rfl) (by kernel_rfl) (by kernel_rfl) (fun _ _ _ h => h) (by kernel_rfl) (fun W hW => by go_simp) hD2 ?_
            simp only [Act.put, List.setIfInBounds_toArray, List.set_cons_zero, List.set_cons_succ]
            refine takeG9 (i := 35) (d := 158) (v := .agg #[.string ⟨#[50]⟩, .string ⟨#[49, 47, 49, 48]⟩]) rfl rfl (by kernel_rfl) (by kernel_rfl) (by kernel_rfl) (fun _ _ _ h => h) (by kernel_rfl) (fun W hW => by have e0 := (HQ.out W hW).2.2.2.2.2.2.2.2.1; have e1 := (HQ.out W hW).2.2.2.2.2.2.2.2.2.1; go_simp) hD2 ?_
            simp only [Act.put, List.setIfInBounds_toArray, List.set_cons_zero, List.set_cons_succ]
            refine takeG9 (i := 36) (d := 159) (v := .agg #[.string ⟨#[50]⟩, .string ⟨#[49, 47, 49, 48]⟩]) rfl rfl (by kernel_rfl) (by kernel_rfl) (by kernel_rfl) (fun _ _ _ h => h) (by kernel_rfl) (fun W hW => by go_simp) hD2 ?_
            simp only [Act.put, List.setIfInBounds_toArray, List.set_cons_zero, List.set_cons_succ]
            refine takeG9 (i := 37) (d := 160) (v := .bool true) rfl rfl (by kernel_rfl) (by kernel_rfl) (by kernel_rfl) (fun _ _ _ h => h) (by kernel_rfl) (fun W hW => by have e0 := eql_same ⟨#[50]⟩ ⟨#[49, 47, 49, 48]⟩; go_simp) hD2 ?_
            simp only [Act.put, List.setIfInBounds_toArray, List.set_cons_zero, List.set_cons_succ]
            refine takeG9 (i := 38) (d := 161) (v := .bool true) rfl rfl (by kernel_rfl) (by kernel_rfl) (by kernel_rfl) (fun _ _ _ h => h) (by kernel_rfl) (fun W hW => by go_simp) hD2 ?_
            simp only [Act.put, List.setIfInBounds_toArray, List.set_cons_zero, List.set_cons_succ]
            refine takeG9 (i := 39) (d := 162) (v := .bool true) rfl rfl (by kernel_rfl) (by kernel_rfl) (by kernel_rfl) (fun _ _ _ h => h) (by kernel_rfl) (fun W hW => by go_simp) hD2 ?_
            simp only [Act.put, List.setIfInBounds_toArray, List.set_cons_zero, List.set_cons_succ]
            as_aux_lemma =>
              refine takeG9 (i := 40) (d := 163) (v := .string ⟨#[49, 47, 50]⟩) rfl rfl (by kernel_rfl) (by kernel_rfl) (by kernel_rfl) (fun _ _ _ h => h) (by kernel_rfl) (fun W hW => by go_simp) hD2 ?_
              simp only [Act.put, List.setIfInBounds_toArray, List.set_cons_zero, List.set_cons_succ]
              refine takeG9 (i := 41) (d := 164) (v := .bool true) rfl rfl (by kernel_rfl) (by kernel_rfl) (by kernel_rfl) (fun _ _ _ h => h) (by kernel_rfl) (fun W hW => by have e0 := eqs9 ⟨#[49, 47, 50]⟩; go_simp) hD2 ?_
              simp only [Act.put, List.setIfInBounds_toArray, List.set_cons_zero, List.set_cons_succ]
              refine takeG9 (i := 42) (d := 165) (v := .bool true) rfl rfl (by kernel_rfl) (by kernel_rfl) (by kernel_rfl) (fun _ _ _ h => h) (by kernel_rfl) (fun W hW => by go_simp) hD2 ?_
              simp only [Act.put, List.setIfInBounds_toArray, List.set_cons_zero, List.set_cons_succ]
              refine takeG9 (i := 43) (d := 166) (v := .bool true) rfl rfl (by kernel_rfl) (by kernel_rfl) (by kernel_rfl) (fun _ _ _ h => h) (by kernel_rfl) (fun W hW => by go_simp) hD2 ?_
              simp only [Act.put, List.setIfInBounds_toArray, List.set_cons_zero, List.set_cons_succ]
              refine takeG9 (i := 44) (d := 167) (v := .string ⟨#[54, 47, 55]⟩) rfl rfl (by kernel_rfl) (by kernel_rfl) (by kernel_rfl) (fun _ _ _ h => h) (by kernel_rfl) (fun W hW => by go_simp) hD2 ?_
              simp only [Act.put, List.setIfInBounds_toArray, List.set_cons_zero, List.set_cons_succ]
              refine takeG9 (i := 45) (d := 168) (v := .bool true) rfl rfl (by kernel_rfl) (by kernel_rfl) (by kernel_rfl) (fun _ _ _ h => h) (by kernel_rfl) (fun W hW => by have e0 := eqs9 ⟨#[54, 47, 55]⟩; go_simp) hD2 ?_
              simp only [Act.put, List.setIfInBounds_toArray, List.set_cons_zero, List.set_cons_succ]
              refine takeG9 (i := 46) (d := 169) (v := .bool true) rfl rfl (by kernel_rfl) (by kernel_rfl) (by kernel_rfl) (fun _ _ _ h => h) (by kernel_rfl) (fun W hW => by go_simp) hD2 ?_
              simp only [Act.put, List.setIfInBounds_toArray, List.set_cons_zero, List.set_cons_succ]
              refine takeG9 (i := 47) (d := 170) (v := .bool true) rfl rfl (by kernel_rfl) (by kernel_rfl) (by kernel_rfl) (fun _ _ _ h => h) (by kernel_rfl) (fun W hW => by go_simp) hD2 ?_
              simp only [Act.put, List.setIfInBounds_toArray, List.set_cons_zero, List.set_cons_succ]
              as_aux_lemma =>
                refine takeG9 (i := 48) (d := 171) (v := .string ⟨#[53, 47, 52]⟩) rfl rfl (by kernel_rfl) (by kernel_rfl) (by kernel_rfl) (fun _ _ _ h => h) (by kernel_rfl) (fun W hW => by go_simp) hD2 ?_
                simp only [Act.put, List.setIfInBounds_toArray, List.set_cons_zero, List.set_cons_succ]
                refine takeG9 (i := 49) (d := 172) (v := .bool true) rfl rfl (by kernel_rfl) (by kernel_rfl) (by kernel_rfl) (fun _ _ _ h => h) (by kernel_rfl) (fun W hW => by have e0 := eqs9 ⟨#[53, 47, 52]⟩; go_simp) hD2 ?_
                simp only [Act.put, List.setIfInBounds_toArray, List.set_cons_zero, List.set_cons_succ]
                refine takeG9 (i := 50) (d := 173) (v := .bool true) rfl rfl (by kernel_rfl) (by kernel_rfl) (by kernel_rfl) (fun _ _ _ h => h) (by kernel_rfl) (fun W hW => by go_simp) hD2 ?_
                simp only [Act.put, List.setIfInBounds_toArray, List.set_cons_zero, List.set_cons_succ]
                refine takeG9 (i := 51) (d := 174) (v := .bool true) rfl rfl (by kernel_rfl) (by kernel_rfl) (by kernel_rfl) (fun _ _ _ h => h) (by kernel_rfl) (fun W hW => by go_simp) hD2 ?_
                simp only [Act.put, List.setIfInBounds_toArray, List.set_cons_zero, List.set_cons_succ]
                refine takeG9 (i := 52) (d := 175) (v := .string ⟨#[52, 47, 51]⟩) rfl rfl (by kernel_rfl) (by kernel_rfl) (by kernel_rfl) (fun _ _ _ h => h) (by kernel_rfl) (fun W hW => by go_simp) hD2 ?_
                simp only [Act.put, List.setIfInBounds_toArray, List.set_cons_zero, List.set_cons_succ]
                refine takeG9 (i := 53) (d := 176) (v := .bool true) rfl rfl (by kernel_rfl) (by kernel_rfl) (by kernel_rfl) (fun _ _ _ h => h) (by kernel_rfl) (fun W hW => by have e0 := eqs9 ⟨#[52, 47, 51]⟩; go_simp) hD2 ?_
                simp only [Act.put, List.setIfInBounds_toArray, List.set_cons_zero, List.set_cons_succ]
                refine takeG9 (i := 54) (d := 177) (v := .bool true) rfl rfl (by kernel_rfl) (by kernel_rfl) (by kernel_rfl) (fun _ _ _ h => h) (by kernel_rfl) (fun W hW => by go_simp) hD2 ?_
                simp only [Act.put, List.setIfInBounds_toArray, List.set_cons_zero, List.set_cons_succ]
                refine takeG9 (i := 55) (d := 178) (v := .bool true) rfl rfl (by kernel_rfl) (by kernel_rfl) (by kernel_rfl) (fun _ _ _ h => h) (by kernel_rfl) (fun W hW => by go_simp) hD2 ?_
                simp only [Act.put, List.setIfInBounds_toArray, List.set_cons_zero, List.set_cons_succ]
                as_aux_lemma =>
                  refine takeG9 (i := 56) (d := 179) (v := .int .i64 2) rfl rfl (by kernel_rfl) (by kernel_rfl) (by kernel_rfl) (fun _ _ _ h => h) (by kernel_rfl) (fun W hW => by go_simp) hD2 ?_
                  simp only [Act.put, List.setIfInBounds_toArray, List.set_cons_zero, List.set_cons_succ]
                  refine takeG9 (i := 57) (d := 180) (v := .bool true) rfl rfl (by kernel_rfl) (by kernel_rfl) (by kernel_rfl) (fun _ _ _ h => h) (by kernel_rfl) (fun W hW => by go_simp) hD2 ?_
                  simp only [Act.put, List.setIfInBounds_toArray, List.set_cons_zero, List.set_cons_succ]
                  refine takeG9 (i := 58) (d := 181) (v := .bool true) rfl rfl (by kernel_rfl) (by kernel_rfl) (by kernel_rfl) (fun _ _ _ h => h) (by kernel_rfl) (fun W hW => by go_simp) hD2 ?_
                  simp only [Act.put, List.setIfInBounds_toArray, List.set_cons_zero, List.set_cons_succ]
                  refine takeG9 (i := 59) (d := 182) (v := .bool true) rfl rfl (by kernel_rfl) (by kernel_rfl) (by kernel_rfl) (fun _ _ _ h => h) (by kernel_rfl) (fun W hW => by go_simp) hD2 ?_
                  simp only [Act.put, List.setIfInBounds_toArray, List.set_cons_zero, List.set_cons_succ]
                  refine takeG9 (i := 60) (d := 183) (v := .int .i64 2) rfl rfl (by kernel_rfl) (by kernel_rfl) (by kernel_rfl) (fun _ _ _ h => h) (by kernel_rfl) (fun W hW => by go_simp) hD2 ?_
                  simp only [Act.put, List.setIfInBounds_toArray, List.set_cons_zero, List.set_cons_succ]
                  refine takeG9 (i := 61) (d := 184) (v := .bool true) rfl rfl (by kernel_rfl) (by kernel_rfl) (by kernel_rfl) (fun _ _ _ h => h) (by kernel_rfl) (fun W hW => by go_simp) hD2 ?_
                  simp only [Act.put, List.setIfInBounds_toArray, List.set_cons_zero, List.set_cons_succ]
                  refine takeG9 (i := 62) (d := 185) (v := .bool true) rfl rfl (by kernel_rfl) (by kernel_rfl) (by kernel_rfl) (fun _ _ _ h => h) (by kernel_rfl) (fun W hW => by go_simp) hD2 ?_
                  simp only [Act.put, List.setIfInBounds_toArray, List.set_cons_zero, List.set_cons_succ]
                  refine takeG9 (i := 63) (d := 186) (v := .bool true) rfl rfl (by kernel_rfl) (by kernel_rfl) (by kernel_rfl) (fun _ _ _ h => h) (by kernel_rfl) (fun W hW => by go_simp) hD2 ?_
                  simp only [Act.put, List.setIfInBounds_toArray, List.set_cons_zero, List.set_cons_succ]
                  as_aux_lemma =>
                    refine takeG9 (i := 64) (d := 187) (v := .int .i64 2) rfl rfl (by kernel_rfl) (by kernel_rfl) (by kernel_rfl) (fun _ _ _ h => h) (by kernel_rfl) (fun W hW => by go_simp) hD2 ?_
                    simp only [Act.put, List.setIfInBounds_toArray, List.set_cons_zero, List.set_cons_succ]
                    refine takeG9 (i := 65) (d := 188) (v := .bool true) rfl rfl (by kernel_rfl) (by kernel_rfl) (by kernel_rfl) (fun _ _ _ h => h) (by kernel_rfl) (fun W hW => by go_simp) hD2 ?_
                    simp only [Act.put, List.setIfInBounds_toArray, List.set_cons_zero, List.set_cons_succ]
                    refine takeG9 (i := 66) (d := 189) (v := .bool true) rfl rfl (by kernel_rfl) (by kernel_rfl) (by kernel_rfl) (fun _ _ _ h => h) (by kernel_rfl) (fun W hW => by go_simp) hD2 ?_
                    simp only [Act.put, List.setIfInBounds_toArray, List.set_cons_zero, List.set_cons_succ]
                    refine takeG9 (i := 67) (d := 190) (v := .bool true) rfl rfl (by kernel_rfl) (by kernel_rfl) (by kernel_rfl) (fun _ _ _ h => h) (by kernel_rfl) (fun W hW => by go_simp) hD2 ?_
                    simp only [Act.put, List.setIfInBounds_toArray, List.set_cons_zero, List.set_cons_succ]
                    refine takeG9 (i := 68) (d := 191) (v := .agg #[.string ⟨#[49]⟩, .string ⟨#[49]⟩]) rfl rfl (by kernel_rfl) (by kernel_rfl) (by kernel_rfl) (fun _ _ _ h => h) (by kernel_rfl) (fun W hW => by have e0 := (HQ.out W hW).2.2.2.2.2.2.2.2.2.2.1; have e1 := (HQ.out W hW).2.2.2.2.2.2.2.2.2.2.2; go_simp) hD2 ?_
                    simp only [Act.put, List.setIfInBounds_toArray, List.set_cons_zero, List.set_cons_succ]
                    refine takeG9 (i := 69) (d := 192) (v := .agg #[.string ⟨#[49]⟩, .string ⟨#[49]⟩]) rfl rfl (by kernel_rfl) (by kernel_rfl) (by kernel_rfl) (fun _ _ _ h => h) (by kernel_rfl) (fun W hW => by go_simp) hD2 ?_
                    simp only [Act.put, List.setIfInBounds_toArray, List.set_cons_zero, List.set_cons_succ]
                    refine takeG9 (i := 70) (d := 193) (v := .bool true) rfl rfl (by kernel_rfl) (by kernel_rfl) (by kernel_rfl) (fun _ _ _ h => h) (by kernel_rfl) (fun W hW => by have e0 := eql_same ⟨#[49]⟩ ⟨#[49]⟩; go_simp) hD2 ?_
                    simp only [Act.put, List.setIfInBounds_toArray, List.set_cons_zero, List.set_cons_succ]
                    refine takeG9 (i := 71) (d := 194) (v := .bool true) rfl rfl (by kernel_rfl) (by kernel_rfl) (by kernel_rfl) (fun _ _ _ h => h) (by kernel_rfl) (fun W hW => by go_simp) hD2 ?_
                    simp only [Act.put, List.setIfInBounds_toArray, List.set_cons_zero, List.set_cons_succ]
                    as_aux_lemma =>
                      refine takeG9 (i := 72) (d := 195) (v := .bool true) rfl rfl (by kernel_rfl) (by kernel_rfl) (by kernel_rfl) (fun _ _ _ h => h) (by kernel_rfl) (fun W hW => by go_simp) hD2 ?_
                      simp only [Act.put, List.setIfInBounds_toArray, List.set_cons_zero, List.set_cons_succ]
                      refine takeG9 (i := 74) (d := 197) (v := .agg #[.string ⟨#[49]⟩, .string ⟨#[48]⟩]) rfl rfl (by kernel_rfl) (by kernel_rfl) (by kernel_rfl) (fun _ _ _ h => h) (by kernel_rfl) (fun W hW => by go_simp) hD2 ?_
                      simp only [Act.put, List.setIfInBounds_toArray, List.set_cons_zero, List.set_cons_succ]
                      refine wpHz_one (i := 73) (by kernel_rfl) ?_
                      refine runG9 rfl (by kernel_rfl) (wpz_enter (d := 196) rfl (by go_simp) ((none_ret _).mono ?_))
                      rintro e u3 ⟨rfl, hb⟩
                      have hD3 : Below wx.heap.size wx u3 := hD2.trans (hb.mono hD2.size)
                      clear hb
                      refine ⟨_, rfl, hD3, ?_⟩
                      simp only [Act.put, List.setIfInBounds_toArray, List.set_cons_zero, List.set_cons_succ]
                      refine takeG9 (i := 75) (d := 198) (v := .bool true) rfl rfl (by kernel_rfl) (by kernel_rfl) (by kernel_rfl) (fun _ _ _ h => h) (by kernel_rfl) (fun W hW => by have e0 := eql_same ⟨#[49]⟩ ⟨#[48]⟩; go_simp) hD3 ?_
                      simp only [Act.put, List.setIfInBounds_toArray, List.set_cons_zero, List.set_cons_succ]
                      refine takeG9 (i := 76) (d := 199) (v := .bool true) rfl rfl (by kernel_rfl) (by kernel_rfl) (by kernel_rfl) (fun _ _ _ h => h) (by kernel_rfl) (fun W hW => by go_simp) hD3 ?_
                      simp only [Act.put, List.setIfInBounds_toArray, List.set_cons_zero, List.set_cons_succ]
                      refine takeG9 (i := 77) (d := 200) (v := .bool true) rfl rfl (by kernel_rfl) (by kernel_rfl) (by kernel_rfl) (fun _ _ _ h => h) (by kernel_rfl) (fun W hW => by go_simp) hD3 ?_
                      simp only [Act.put, List.setIfInBounds_toArray, List.set_cons_zero, List.set_cons_succ]
                      refine takeG9 (i := 78) (d := 201) (v := .agg #[.string ⟨#[49, 47, 50]⟩, .string ⟨#[48]⟩]) rfl rfl (by kernel_rfl) (by kernel_rfl) (by kernel_rfl) (fun _ _ _ h => h) (by kernel_rfl) (fun W hW => by go_simp) hD3 ?_
                      simp only [Act.put, List.setIfInBounds_toArray, List.set_cons_zero, List.set_cons_succ]
                      refine wpHz_one (i := 79) (by kernel_rfl) ?_
                      refine runG9 rfl (by kernel_rfl) (wpz_enter (d := 202) rfl (by go_simp) ((n9_chk1 (HTM.out _ (HB.out.trans (hD3.mono HB.out.size)))).mono ?_))
                      rintro e u4 ⟨rfl, hb⟩
                      have hD4 : Below wx.heap.size wx u4 := hD3.trans (hb.mono hD3.size)
                      clear hb
                      refine ⟨_, rfl, hD4, ?_⟩
                      simp only [Act.put, List.setIfInBounds_toArray, List.set_cons_zero, List.set_cons_succ]
                      as_aux_lemma =>
                        refine takeG9 (i := 80) (d := 203) (v := .bool true) rfl rfl (by kernel_rfl) (by kernel_rfl) (by kernel_rfl) (fun _ _ _ h => h) (by kernel_rfl) (fun W hW => by go_simp) hD4 ?_
                        simp only [Act.put, List.setIfInBounds_toArray, List.set_cons_zero, List.set_cons_succ]
                        refine takeG9 (i := 81) (d := 204) (v := .bool true) rfl rfl (by kernel_rfl) (by kernel_rfl) (by kernel_rfl) (fun _ _ _ h => h) (by kernel_rfl) (fun W hW => by go_simp) hD4 ?_
                        simp only [Act.put, List.setIfInBounds_toArray, List.set_cons_zero, List.set_cons_succ]
                        refine takeG9 (i := 82) (d := 205) (v := .bool true) rfl rfl (by kernel_rfl) (by kernel_rfl) (by kernel_rfl) (fun _ _ _ h => h) (by kernel_rfl) (fun W hW => by go_simp) hD4 ?_
                        simp only [Act.put, List.setIfInBounds_toArray, List.set_cons_zero, List.set_cons_succ]
                        refine takeG9 (i := 83) (d := 206) (v := .agg #[.string ⟨#[50]⟩, .string ⟨#[50]⟩]) rfl rfl (by kernel_rfl) (by kernel_rfl) (by kernel_rfl) (fun _ _ _ h => h) (by kernel_rfl) (fun W hW => by go_simp) hD4 ?_
                        simp only [Act.put, List.setIfInBounds_toArray, List.set_cons_zero, List.set_cons_succ]
                        refine wpHz_one (i := 84) (by kernel_rfl) ?_
                        refine runG9 rfl (by kernel_rfl) (wpz_enter (d := 207) rfl (by go_simp) ((n9_chk2 (HTM.out _ (HB.out.trans (hD4.mono HB.out.size)))).mono ?_))
                        rintro e u5 ⟨rfl, hb⟩
                        have hD5 : Below wx.heap.size wx u5 := hD4.trans (hb.mono hD4.size)
                        clear hb
                        refine ⟨_, rfl, hD5, ?_⟩
                        simp only [Act.put, List.setIfInBounds_toArray, List.set_cons_zero, List.set_cons_succ]
                        refine takeG9 (i := 85) (d := 208) (v := .bool true) rfl rfl (by kernel_rfl) (by kernel_rfl) (by kernel_rfl) (fun _ _ _ h => h) (by kernel_rfl) (fun W hW => by go_simp) hD5 ?_
                        simp only [Act.put, List.setIfInBounds_toArray, List.set_cons_zero, List.set_cons_succ]
                        refine takeG9 (i := 86) (d := 209) (v := .bool true) rfl rfl (by kernel_rfl) (by kernel_rfl) (by kernel_rfl) (fun _ _ _ h => h) (by kernel_rfl) (fun W hW => by go_simp) hD5 ?_
                        simp only [Act.put, List.setIfInBounds_toArray, List.set_cons_zero, List.set_cons_succ]
                        refine takeG9 (i := 87) (d := 210) (v := .bool true) rfl rfl (by kernel_rfl) (by kernel_rfl) (by kernel_rfl) (fun _ _ _ h => h) (by kernel_rfl) (fun W hW => by go_simp) hD5 ?_
                        simp only [Act.put, List.setIfInBounds_toArray, List.set_cons_zero, List.set_cons_succ]
                        as_aux_lemma =>
                          refine takeG9 (i := 88) (d := 211) (v := .agg #[.string ⟨#[50]⟩, .string ⟨#[45, 49]⟩]) rfl rfl (by kernel_rfl) (by kernel_rfl) (by kernel_rfl) (fun _ _ _ h => h) (by kernel_rfl) (fun W hW => by go_simp) hD5 ?_
                          simp only [Act.put, List.setIfInBounds_toArray, List.set_cons_zero, List.set_cons_succ]
                          refine wpHz_one (i := 89) (by kernel_rfl) ?_
                          refine runG9 rfl (by kernel_rfl) (wpz_enter (d := 212) rfl (by go_simp) ((n9_chk3 (HTM.out _ (HB.out.trans (hD5.mono HB.out.size)))).mono ?_))
                          rintro e u6 ⟨rfl, hb⟩
                          have hD6 : Below wx.heap.size wx u6 := hD5.trans (hb.mono hD5.size)
                          clear hb
                          refine ⟨_, rfl, hD6, ?_⟩
                          simp only [Act.put, List.setIfInBounds_toArray, List.set_cons_zero, List.set_cons_succ]
                          refine takeG9 (i := 90) (d := 213) (v := .bool true) rfl rfl (by kernel_rfl) (by kernel_rfl) (by kernel_rfl) (fun _ _ _ h => h) (by kernel_rfl) (fun W hW => by go_simp) hD6 ?_
                          simp only [Act.put, List.setIfInBounds_toArray, List.set_cons_zero, List.set_cons_succ]
                          refine takeG9 (i := 91) (d := 214) (v := .bool true) rfl rfl (by kernel_rfl) (by kernel_rfl) (by kernel_rfl) (fun _ _ _ h => h) (by kernel_rfl) (fun W hW => by go_simp) hD6 ?_
                          simp only [Act.put, List.setIfInBounds_toArray, List.set_cons_zero, List.set_cons_succ]
                          refine takeG9 (i := 92) (d := 215) (v := .bool true) rfl rfl (by kernel_rfl) (by kernel_rfl) (by kernel_rfl) (fun _ _ _ h => h) (by kernel_rfl) (fun W hW => by go_simp) hD6 ?_
                          simp only [Act.put, List.setIfInBounds_toArray, List.set_cons_zero, List.set_cons_succ]
                          refine takeG9 (i := 93) (d := 216) (v := .agg #[.string ⟨#[]⟩, .string ⟨#[]⟩]) rfl rfl (by kernel_rfl) (by kernel_rfl) (by kernel_rfl) (fun _ _ _ h => h) (by kernel_rfl) (fun W hW => by go_simp) hD6 ?_
                          simp only [Act.put, List.setIfInBounds_toArray, List.set_cons_zero, List.set_cons_succ]
                          refine wpHz_one (i := 94) (by kernel_rfl) ?_
                          refine runG9 rfl (by kernel_rfl) (wpz_enter (d := 217) rfl (by go_simp) ((n9_chk4 (HTM.out _ (HB.out.trans (hD6.mono HB.out.size)))).mono ?_))
                          rintro e u7 ⟨rfl, hb⟩
                          have hD7 : Below wx.heap.size wx u7 := hD6.trans (hb.mono hD6.size)
                          clear hb
                          refine ⟨_, rfl, hD7, ?_⟩
                          simp only [Act.put, List.setIfInBounds_toArray, List.set_cons_zero, List.set_cons_succ]
                          refine takeG9 (i := 95) (d := 218) (v := .bool true) rfl rfl (by kernel_rfl) (by kernel_rfl) (by kernel_rfl) (fun _ _ _ h => h) (by kernel_rfl) (fun W hW => by go_simp) hD7 ?_
                          simp only [Act.put, List.setIfInBounds_toArray, List.set_cons_zero, List.set_cons_succ]
                          as_aux_lemma =>
                            refine takeG9 (i := 96) (d := 219) (v := .bool true) rfl rfl (by kernel_rfl) (by kernel_rfl) (by kernel_rfl) (fun _ _ _ h => h) (by kernel_rfl) (fun W hW => by go_simp) hD7 ?_
                            simp only [Act.put, List.setIfInBounds_toArray, List.set_cons_zero, List.set_cons_succ]
                            refine takeG9 (i := 97) (d := 220) (v := .bool true) rfl rfl (by kernel_rfl) (by kernel_rfl) (by kernel_rfl) (fun _ _ _ h => h) (by kernel_rfl) (fun W hW => by go_simp) hD7 ?_
                            simp only [Act.put, List.setIfInBounds_toArray, List.set_cons_zero, List.set_cons_succ]
                            refine wpHz_one (i := 98) (by kernel_rfl) ?_
                            refine runG9 rfl (by kernel_rfl) (wpz_enter (d := 221) rfl (by go_simp) ((none_ret _).mono ?_))
                            rintro e u8 ⟨rfl, hb⟩
                            have hD8 : Below wx.heap.size wx u8 := hD7.trans (hb.mono hD7.size)
                            clear hb
                            refine ⟨_, rfl, hD8, ?_⟩
                            simp only [Act.put, List.setIfInBounds_toArray, List.set_cons_zero, List.set_cons_succ]
                            refine wpHz_one (i := 99) (by kernel_rfl) ?_
                            refine runG9 rfl (by kernel_rfl) (wpz_enter (d := 222) rfl (by go_simp) ((n9_chk5 (HTM.out _ (HB.out.trans (hD8.mono HB.out.size)))).mono ?_))
                            rintro e u9 ⟨rfl, hb⟩
                            have hD9 : Below wx.heap.size wx u9 := hD8.trans (hb.mono hD8.size)
                            clear hb
                            refine ⟨_, rfl, hD9, ?_⟩
                            simp only [Act.put, List.setIfInBounds_toArray, List.set_cons_zero, List.set_cons_succ]
                            refine takeG9 (i := 100) (d := 223) (v := .bool true) rfl rfl (by kernel_rfl) (by kernel_rfl) (by kernel_rfl) (fun _ _ _ h => h) (by kernel_rfl) (fun W hW => by go_simp) hD9 ?_
                            simp only [Act.put, List.setIfInBounds_toArray, List.set_cons_zero, List.set_cons_succ]
                            refine takeG9 (i := 101) (d := 224) (v := .bool true) rfl rfl (by kernel_rfl) (by kernel_rfl) (by kernel_rfl) (fun _ _ _ h => h) (by kernel_rfl) (fun W hW => by go_simp) hD9 ?_
                            simp only [Act.put, List.setIfInBounds_toArray, List.set_cons_zero, List.set_cons_succ]
                            refine takeG9 (i := 102) (d := 0) (v := .bool true) rfl rfl (by kernel_rfl) (by kernel_rfl) (by kernel_rfl) (fun _ _ _ h => h) (by kernel_rfl) (fun W hW => by go_simp) hD9 ?_
                            simp only [Act.put, List.setIfInBounds_toArray, List.set_cons_zero]
                            refine wpAnyH_done (by kernel_rfl) ?_ _
                            have HE := Lib.hid (HB.out.trans (hD9.mono HB.out.size))
                            clear hD0 hD1 hD2 hD3 hD4 hD5 hD6 hD7 hD8 hD9 HQ HB HTM
                            go_wp2_with fail
                            go_ret
                            exact ⟨rfl, HE.out⟩
end Go.Proofs.YtofanopnibbaeaaGreatDoor