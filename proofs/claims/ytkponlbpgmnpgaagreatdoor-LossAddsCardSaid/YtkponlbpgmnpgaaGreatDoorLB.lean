/-
  Package loss: Check, Group, Late, fold, folded, Add, Max; in rational numbers; the examples of the laws; numbers and Pick.
-/
import Derived.Test.YtkponlbpgmnpgaaGreatDoorLA
import Derived.Test.YtkponlbpgmnpgaaGreatDoorHD
namespace Go.Proofs.YtkponlbpgmnpgaaGreatDoor
section
open Go.RowKit NV
theorem all1 {a : ByteArray} (ha : a.size ≤ 1000000) : ∀ x, x ∈ [a] → x.size ≤ 1000000 := fun x hx => by
 rcases List.mem_cons.1 hx with rfl | hx
 ·exact ha
 ·cases hx
theorem all2 {a b : ByteArray} (ha : a.size ≤ 1000000) (hb : b.size ≤ 1000000) : ∀ x, x ∈ [a, b] → x.size ≤ 1000000 := fun x hx => by
 rcases List.mem_cons.1 hx with rfl | hx
 ·exact ha
 ·exact all1 hb x hx
def lchkI (B : Nat) (f d x y : ByteArray) (e1 e2 e3 e4 m : Int) (wx : World) (l : Array Bool) (a : Act) (W : World) : Prop :=
 ∃ (b0 b1 b2 b3 b4 b5 b6 b7 b8 b9 b10 b11 b12 b13 b14 b15 b16 b17 b18 b19 b20 b21 : Bool) (g8 g12 g14 g19 : Nat), l = #[b0, b1, b2, b3, b4, b5, b6, b7, b8, b9, b10, b11, b12, b13, b14, b15, b16, b17, b18, b19, b20, b21] ∧ a = { tmps := #[.agg #[.string f, .string d], .pointer (some ⟨B, 0, none⟩), .int .i64 0, (cond b19 (.pointer (some ⟨g19, 0, none⟩)) undef), (cond b21 (.int .i64 m) undef), (cond b16 (.tuple #[.agg #[.string x, .string y], .int .i64 m]) undef), (cond b0 (.pointer (some ⟨B, 0, none⟩)) undef), (cond b1 (.string f) undef), (cond b2 (.int .i64 e1) undef), (cond b3 (.pointer (some ⟨B, 1, none⟩)) undef), (cond b4 (.string d) undef), (cond b5 (.int .i64 e2) undef), (cond b6 (.pointer (some ⟨B, 0, none⟩)) undef), (cond b7 (.string f) undef), (cond b8 (.slice (some ⟨g8, 0, none⟩) 1 1) undef), (cond b9 (.int .i64 e3) undef), (cond b10 (.pointer (some ⟨B, 1, none⟩)) undef), (cond b11 (.string d) undef), (cond b12 (.slice (some ⟨g12, 0, none⟩) 2 2) undef), (cond b13 (.int .i64 e4) undef), (cond b14 (.slice (some ⟨g14, 0, none⟩) 4 4) undef), (cond b15 (.tuple #[.agg #[.string x, .string y], .int .i64 m]) undef), (cond b17 (.agg #[.string x, .string y]) undef), (cond b18 (.int .i64 m) undef), undef], defers := [] } ∧ Below wx.heap.size wx W ∧ (b8 = true → b20 = false → SR W (some ⟨g8, 0, none⟩) 1 [f]) ∧ (b12 = true → b20 = false → SR W (some ⟨g12, 0, none⟩) 2 [d, ⟨#[49]⟩]) ∧ (b14 = true → b20 = false → ER W (some ⟨g14, 0, none⟩) 4 [e1, e2, e3, e4]) ∧ (b19 = true → b20 = false → RB wx W g19 ⟨#[]⟩ ⟨#[]⟩) ∧ (b20 = true → b0 = true ∧ b1 = true ∧ b2 = true ∧ b3 = true ∧ b4 = true ∧ b5 = true ∧ b6 = true ∧ b7 = true ∧ b8 = true ∧ b9 = true ∧ b10 = true ∧ b11 = true ∧ b12 = true ∧ b13 = true ∧ b14 = true ∧ b15 = true ∧ b16 = true ∧ b17 = true ∧ b19 = true)
def chkL (f d : ByteArray) : Int := fstL [(rchk f : Int), (rchk d : Int), ordE ⟨#[49]⟩ [f], ordE ⟨#[48]⟩ [d, ⟨#[49]⟩]]
set_option maxHeartbeats 12800000 in
set_option maxRecDepth 100000 in
theorem lCheck_any {f d : ByteArray} {w : World} (hf : f.size ≤ 1000000) (hd : d.size ≤ 1000000) (hm : ML w) : Calls Tryz.prog 27 #[.agg #[.string f, .string d]] w (Er (chkL f d) w) := by
 obtain ⟨e1, he1⟩ : ∃ e1, e1 = (rchk f : Int) := ⟨_, rfl⟩
 obtain ⟨e2, he2⟩ : ∃ e2, e2 = (rchk d : Int) := ⟨_, rfl⟩
 obtain ⟨e3, he3⟩ : ∃ e3, e3 = ordE ⟨#[49]⟩ [f] := ⟨_, rfl⟩
 obtain ⟨e4, he4⟩ : ∃ e4, e4 = ordE ⟨#[48]⟩ [d, ⟨#[49]⟩] := ⟨_, rfl⟩
 have hb0 := (Below.refl w.heap.size w).alloc (Nat.le_refl _) (.cells #[.string f, .string d] 24)
 have r0 : RB w (w.alloc (.cells #[.string f, .string d] 24)) w.heap.size f d := RB.new (Nat.le_refl _)
 have HML := Lib.hid (fun W (hb : Below w.heap.size w W) => ml_keep hm (ml_pos hm) hb)
 have h1s : (⟨#[49]⟩ : ByteArray).size ≤ 1000000 := by decide
 have h0s : (⟨#[48]⟩ : ByteArray).size ≤ 1000000 := by decide
 have K1 := Lib.hid (show ∀ W, Below w.heap.size w W → Calls Tryz.prog 92 #[.string f] W (Er e1 W) from fun W hb => by rw [he1]; exact qcheck_any f W hf (HML.out W hb))
 have K2 := Lib.hid (show ∀ W, Below w.heap.size w W → Calls Tryz.prog 92 #[.string d] W (Er e2 W) from fun W hb => by rw [he2]; exact qcheck_any d W hd (HML.out W hb))
 have K3 := Lib.hid (show ∀ W ao c, Below w.heap.size w W → SR W ao 1 [f] → Calls Tryz.prog 82 #[.string ⟨#[49]⟩, .slice ao 1 c] W (Er e3 W) from fun W ao c hb hr => by rw [he3]; exact inOrder_any hr (by omega) h1s (all1 hf) (HML.out W hb))
 have K4 := Lib.hid (show ∀ W ao c, Below w.heap.size w W → SR W ao 2 [d, ⟨#[49]⟩] → Calls Tryz.prog 82 #[.string ⟨#[48]⟩, .slice ao 2 c] W (Er e4 W) from fun W ao c hb hr => by rw [he4]; exact inOrder_any hr (by omega) h0s (all2 hd h1s) (HML.out W hb))
 obtain ⟨m, hmm⟩ : ∃ m, m = fstL [e1, e2, e3, e4] := ⟨_, rfl⟩
 obtain ⟨x, y, K5⟩ : ∃ x y : ByteArray, Hid (∀ W ao c, ER W ao 4 [e1, e2, e3, e4] → Calls Tryz.prog 84 #[.func (.func 91) #[] #[], .slice ao 4 c] W fun e w' => e = .returned (.tuple #[.agg #[.string x, .string y], .int .i64 m]) ∧ Below W.heap.size W w') := by
  refine ⟨if m = 0 then ⟨#[49]⟩ else ⟨#[]⟩, if m = 0 then ⟨#[48]⟩ else ⟨#[]⟩, Lib.hid fun W ao c he => (attempt_loss_any (f := ⟨#[49]⟩) (d := ⟨#[48]⟩) (m := 0) he (by omega) (fun _ W2 _ => none_any W2) (fun W => by simp [go_sem])).mono ?_⟩
  rintro e w' ⟨rfl, hb⟩
  refine ⟨?_, hb⟩
  rw [← hmm]
  by_cases h : m = 0
  ·rw [if_pos ⟨h, rfl⟩, if_pos h, if_pos h, if_pos h, h]
  ·rw [if_neg (fun h2 => h h2.1), if_neg h, if_neg h, if_neg h]
 have hM : chkL f d = m := by rw [hmm, he1, he2, he3, he4]; rfl
 rw [hM]
 have HB0 := Lib.hid hb0
 have HR0 := Lib.hid r0
 clear hM hmm he1 he2 he3 he4 hb0 r0 HML h1s h0s hf hd hm
 go_enter Tryz.func27, Tryz.ntmps27
 go_wp2_with fail
 refine wp_world (Below.refl (w.alloc (.cells #[.string f, .string d] 24)).heap.size (w.alloc (.cells #[.string f, .string d] 24))) (fun wx hbx => ?_)
 have HBX2 := Lib.hid hbx
 have hbw := Lib.hid (fun W (h : Below wx.heap.size wx W) => HB0.out.trans ((hbx.trans (h.mono hbx.size)).mono HB0.out.size))
 have q := HR0.out.below hbx
 have HQ := Lib.hid (fun W (h : Below wx.heap.size wx W) => And.intro ((h.cell (p := ⟨w.heap.size, 0, none⟩) q.lt).trans q.c0) ((h.cell (p := ⟨w.heap.size, 1, none⟩) q.lt).trans q.c1))
 have HC1 := Lib.hid (fun W (h : Below wx.heap.size wx W) => K1.out W (hbw.out W h))
 have HC2 := Lib.hid (fun W (h : Below wx.heap.size wx W) => K2.out W (hbw.out W h))
 have HC3 := Lib.hid (fun W ao c (h : Below wx.heap.size wx W) (hr : SR W ao 1 [f]) => K3.out W ao c (hbw.out W h) hr)
 have HC4 := Lib.hid (fun W ao c (h : Below wx.heap.size wx W) (hr : SR W ao 2 [d, ⟨#[49]⟩]) => K4.out W ao c (hbw.out W h) hr)
 have HC5 := Lib.hid (fun W ao c (_ : Below wx.heap.size wx W) (he : ER W ao 4 [e1, e2, e3, e4]) => K5.out W ao c he)
 clear hbx q K1 K2 K3 K4 K5 hbw HR0
 refine wp_region_inv (I := lchkI w.heap.size f d x y e1 e2 e3 e4 m wx) (by kernel_rfl) ?_ ?_ ?_ ?_
 ·rintro l a W ⟨_, _, _, _, _, _, _, _, _, _, _, _, _, _, _, _, _, _, _, _, _, _, _, _, _, _, rfl, _⟩; rfl
 ·intro i l a W hI hi
  obtain ⟨hlt, h1, h2⟩ := ready_mem hi
  clear hi
  have hlt : i < 22 := hlt
  rcases (show i = 0 ∨ i = 1 ∨ i = 2 ∨ i = 3 ∨ i = 4 ∨ i = 5 ∨ i = 6 ∨ i = 7 ∨ i = 8 ∨ i = 9 ∨ i = 10 ∨ i = 11 ∨ i = 12 ∨ i = 13 ∨ i = 14 ∨ i = 15 ∨ i = 16 ∨ i = 17 ∨ i = 18 ∨ i = 19 ∨ i = 20 ∨ i = 21 by omega) with rfl | rfl | rfl | rfl | rfl | rfl | rfl | rfl | rfl | rfl | rfl | rfl | rfl | rfl | rfl | rfl | rfl | rfl | rfl | rfl | rfl | rfl
  ·obtain ⟨b0, b1, b2, b3, b4, b5, b6, b7, b8, b9, b10, b11, b12, b13, b14, b15, b16, b17, b18, b19, b20, b21, g8, g12, g14, g19, rfl, rfl, hD, F8, F12, F14, F19, FL⟩ := hI
   obtain rfl : b0 = false := h1
   obtain rfl : b20 = false := by
     cases b20 with
     | false => rfl
     | true => exact absurd (FL rfl) (by simp)
   clear h2 hlt
   simp only [cond_false]
   refine wpOz_run rfl rfl (wpz_value (v := .pointer (some ⟨w.heap.size, 0, none⟩)) (w' := W) (d := 6) rfl (by go_simp) ?_)
   exact ⟨true, b1, b2, b3, b4, b5, b6, b7, b8, b9, b10, b11, b12, b13, b14, b15, b16, b17, b18, b19, false, b21, g8, g12, g14, g19, rfl, rfl, hD, F8, F12, F14, F19, (fun h => by cases h)⟩
  ·obtain ⟨b0, b1, b2, b3, b4, b5, b6, b7, b8, b9, b10, b11, b12, b13, b14, b15, b16, b17, b18, b19, b20, b21, g8, g12, g14, g19, rfl, rfl, hD, F8, F12, F14, F19, FL⟩ := hI
   obtain rfl : b1 = false := h1
   obtain rfl : b20 = false := by
     cases b20 with
     | false => rfl
     | true => exact absurd (FL rfl) (by simp)
   have h3 : b0 = true := by
     simp [Region.binds] at h2
     simp [h2]
   obtain rfl := h3
   clear h2 hlt
   simp only [cond_true, cond_false]
   have e0 := (HQ.out W hD).1
   refine wpOz_run rfl rfl (wpz_value (v := .string f) (w' := W) (d := 7) rfl (by go_simp) ?_)
   exact ⟨true, true, b2, b3, b4, b5, b6, b7, b8, b9, b10, b11, b12, b13, b14, b15, b16, b17, b18, b19, false, b21, g8, g12, g14, g19, rfl, rfl, hD, F8, F12, F14, F19, (fun h => by cases h)⟩
  ·obtain ⟨b0, b1, b2, b3, b4, b5, b6, b7, b8, b9, b10, b11, b12, b13, b14, b15, b16, b17, b18, b19, b20, b21, g8, g12, g14, g19, rfl, rfl, hD, F8, F12, F14, F19, FL⟩ := hI
   obtain rfl : b2 = false := h1
   obtain rfl : b20 = false := by
     cases b20 with
     | false => rfl
     | true => exact absurd (FL rfl) (by simp)
   have h3 : b1 = true := by
     simp [Region.binds] at h2
     simp [h2]
   obtain rfl := h3
   clear h2 hlt
   simp only [cond_true, cond_false]
   refine wpOz_run rfl rfl (wpz_enter (d := 8) rfl (by go_simp) ((HC1.out W hD).mono ?_))
   rintro e W2 ⟨rfl, hb⟩
   refine ⟨_, rfl, ?_⟩
   exact ⟨b0, true, true, b3, b4, b5, b6, b7, b8, b9, b10, b11, b12, b13, b14, b15, b16, b17, b18, b19, false, b21, g8, g12, g14, g19, rfl, rfl, hD.trans (hb.mono hD.size), (fun h k => (F8 h k).below hb), (fun h k => (F12 h k).below hb), (fun h k => (F14 h k).below hb), (fun h k => (F19 h k).below hb), (fun h => by cases h)⟩
  ·obtain ⟨b0, b1, b2, b3, b4, b5, b6, b7, b8, b9, b10, b11, b12, b13, b14, b15, b16, b17, b18, b19, b20, b21, g8, g12, g14, g19, rfl, rfl, hD, F8, F12, F14, F19, FL⟩ := hI
   obtain rfl : b3 = false := h1
   obtain rfl : b20 = false := by
     cases b20 with
     | false => rfl
     | true => exact absurd (FL rfl) (by simp)
   clear h2 hlt
   simp only [cond_false]
   refine wpOz_run rfl rfl (wpz_value (v := .pointer (some ⟨w.heap.size, 1, none⟩)) (w' := W) (d := 9) rfl (by go_simp) ?_)
   exact ⟨b0, b1, b2, true, b4, b5, b6, b7, b8, b9, b10, b11, b12, b13, b14, b15, b16, b17, b18, b19, false, b21, g8, g12, g14, g19, rfl, rfl, hD, F8, F12, F14, F19, (fun h => by cases h)⟩
  ·obtain ⟨b0, b1, b2, b3, b4, b5, b6, b7, b8, b9, b10, b11, b12, b13, b14, b15, b16, b17, b18, b19, b20, b21, g8, g12, g14, g19, rfl, rfl, hD, F8, F12, F14, F19, FL⟩ := hI
   obtain rfl : b4 = false := h1
   obtain rfl : b20 = false := by
     cases b20 with
     | false => rfl
     | true => exact absurd (FL rfl) (by simp)
   have h3 : b3 = true := by
     simp [Region.binds] at h2
     simp [h2]
   obtain rfl := h3
   clear h2 hlt
   simp only [cond_true, cond_false]
   have e0 := (HQ.out W hD).2
   refine wpOz_run rfl rfl (wpz_value (v := .string d) (w' := W) (d := 10) rfl (by go_simp) ?_)
   exact ⟨b0, b1, b2, true, true, b5, b6, b7, b8, b9, b10, b11, b12, b13, b14, b15, b16, b17, b18, b19, false, b21, g8, g12, g14, g19, rfl, rfl, hD, F8, F12, F14, F19, (fun h => by cases h)⟩
  ·obtain ⟨b0, b1, b2, b3, b4, b5, b6, b7, b8, b9, b10, b11, b12, b13, b14, b15, b16, b17, b18, b19, b20, b21, g8, g12, g14, g19, rfl, rfl, hD, F8, F12, F14, F19, FL⟩ := hI
   obtain rfl : b5 = false := h1
   obtain rfl : b20 = false := by
     cases b20 with
     | false => rfl
     | true => exact absurd (FL rfl) (by simp)
   have h3 : b4 = true ∧ b2 = true := by
     simp [Region.binds] at h2
     simp [h2]
   obtain ⟨rfl, rfl⟩ := h3
   clear h2 hlt
   simp only [cond_true, cond_false]
   refine wpOz_run rfl rfl (wpz_enter (d := 11) rfl (by go_simp) ((HC2.out W hD).mono ?_))
   rintro e W2 ⟨rfl, hb⟩
   refine ⟨_, rfl, ?_⟩
   exact ⟨b0, b1, true, b3, true, true, b6, b7, b8, b9, b10, b11, b12, b13, b14, b15, b16, b17, b18, b19, false, b21, g8, g12, g14, g19, rfl, rfl, hD.trans (hb.mono hD.size), (fun h k => (F8 h k).below hb), (fun h k => (F12 h k).below hb), (fun h k => (F14 h k).below hb), (fun h k => (F19 h k).below hb), (fun h => by cases h)⟩
  ·obtain ⟨b0, b1, b2, b3, b4, b5, b6, b7, b8, b9, b10, b11, b12, b13, b14, b15, b16, b17, b18, b19, b20, b21, g8, g12, g14, g19, rfl, rfl, hD, F8, F12, F14, F19, FL⟩ := hI
   obtain rfl : b6 = false := h1
   obtain rfl : b20 = false := by
     cases b20 with
     | false => rfl
     | true => exact absurd (FL rfl) (by simp)
   clear h2 hlt
   simp only [cond_false]
   refine wpOz_run rfl rfl (wpz_value (v := .pointer (some ⟨w.heap.size, 0, none⟩)) (w' := W) (d := 12) rfl (by go_simp) ?_)
   exact ⟨b0, b1, b2, b3, b4, b5, true, b7, b8, b9, b10, b11, b12, b13, b14, b15, b16, b17, b18, b19, false, b21, g8, g12, g14, g19, rfl, rfl, hD, F8, F12, F14, F19, (fun h => by cases h)⟩
  ·obtain ⟨b0, b1, b2, b3, b4, b5, b6, b7, b8, b9, b10, b11, b12, b13, b14, b15, b16, b17, b18, b19, b20, b21, g8, g12, g14, g19, rfl, rfl, hD, F8, F12, F14, F19, FL⟩ := hI
   obtain rfl : b7 = false := h1
   obtain rfl : b20 = false := by
     cases b20 with
     | false => rfl
     | true => exact absurd (FL rfl) (by simp)
   have h3 : b6 = true := by
     simp [Region.binds] at h2
     simp [h2]
   obtain rfl := h3
   clear h2 hlt
   simp only [cond_true, cond_false]
   have e0 := (HQ.out W hD).1
   refine wpOz_run rfl rfl (wpz_value (v := .string f) (w' := W) (d := 13) rfl (by go_simp) ?_)
   exact ⟨b0, b1, b2, b3, b4, b5, true, true, b8, b9, b10, b11, b12, b13, b14, b15, b16, b17, b18, b19, false, b21, g8, g12, g14, g19, rfl, rfl, hD, F8, F12, F14, F19, (fun h => by cases h)⟩
  ·obtain ⟨b0, b1, b2, b3, b4, b5, b6, b7, b8, b9, b10, b11, b12, b13, b14, b15, b16, b17, b18, b19, b20, b21, g8, g12, g14, g19, rfl, rfl, hD, F8, F12, F14, F19, FL⟩ := hI
   obtain rfl : b8 = false := h1
   obtain rfl : b20 = false := by
     cases b20 with
     | false => rfl
     | true => exact absurd (FL rfl) (by simp)
   have h3 : b7 = true := by
     simp [Region.binds] at h2
     simp [h2]
   obtain rfl := h3
   clear h2 hlt
   simp only [cond_true, cond_false]
   have hb := (Below.refl W.heap.size W).alloc (Nat.le_refl _) (.cells #[.string f] 22)
   refine wpOz_run rfl rfl (wpz_value (v := .slice (some ⟨W.heap.size, 0, none⟩) 1 1) (w' := W.alloc (.cells #[.string f] 22)) (d := 14) rfl (by go_simp) ?_)
   exact ⟨b0, b1, b2, b3, b4, b5, b6, true, true, b9, b10, b11, b12, b13, b14, b15, b16, b17, b18, b19, false, b21, W.heap.size, g12, g14, g19, rfl, rfl, hD.trans (hb.mono hD.size), (fun _ _ => SR.lit (xs := [f])), (fun h k => (F12 h k).below hb), (fun h k => (F14 h k).below hb), (fun h k => (F19 h k).below hb), (fun h => by cases h)⟩
  ·obtain ⟨b0, b1, b2, b3, b4, b5, b6, b7, b8, b9, b10, b11, b12, b13, b14, b15, b16, b17, b18, b19, b20, b21, g8, g12, g14, g19, rfl, rfl, hD, F8, F12, F14, F19, FL⟩ := hI
   obtain rfl : b9 = false := h1
   obtain rfl : b20 = false := by
     cases b20 with
     | false => rfl
     | true => exact absurd (FL rfl) (by simp)
   have h3 : b8 = true ∧ b5 = true := by
     simp [Region.binds] at h2
     simp [h2]
   obtain ⟨rfl, rfl⟩ := h3
   clear h2 hlt
   have G8 := F8 rfl rfl
   simp only [cond_true, cond_false]
   refine wpOz_run rfl rfl (wpz_enter (d := 15) rfl (by go_simp) ((HC3.out W _ 1 hD G8).mono ?_))
   rintro e W2 ⟨rfl, hb⟩
   refine ⟨_, rfl, ?_⟩
   exact ⟨b0, b1, b2, b3, b4, true, b6, b7, true, true, b10, b11, b12, b13, b14, b15, b16, b17, b18, b19, false, b21, g8, g12, g14, g19, rfl, rfl, hD.trans (hb.mono hD.size), (fun h k => (F8 h k).below hb), (fun h k => (F12 h k).below hb), (fun h k => (F14 h k).below hb), (fun h k => (F19 h k).below hb), (fun h => by cases h)⟩
  ·obtain ⟨b0, b1, b2, b3, b4, b5, b6, b7, b8, b9, b10, b11, b12, b13, b14, b15, b16, b17, b18, b19, b20, b21, g8, g12, g14, g19, rfl, rfl, hD, F8, F12, F14, F19, FL⟩ := hI
   obtain rfl : b10 = false := h1
   obtain rfl : b20 = false := by
     cases b20 with
     | false => rfl
     | true => exact absurd (FL rfl) (by simp)
   clear h2 hlt
   simp only [cond_false]
   refine wpOz_run rfl rfl (wpz_value (v := .pointer (some ⟨w.heap.size, 1, none⟩)) (w' := W) (d := 16) rfl (by go_simp) ?_)
   exact ⟨b0, b1, b2, b3, b4, b5, b6, b7, b8, b9, true, b11, b12, b13, b14, b15, b16, b17, b18, b19, false, b21, g8, g12, g14, g19, rfl, rfl, hD, F8, F12, F14, F19, (fun h => by cases h)⟩
  ·obtain ⟨b0, b1, b2, b3, b4, b5, b6, b7, b8, b9, b10, b11, b12, b13, b14, b15, b16, b17, b18, b19, b20, b21, g8, g12, g14, g19, rfl, rfl, hD, F8, F12, F14, F19, FL⟩ := hI
   obtain rfl : b11 = false := h1
   obtain rfl : b20 = false := by
     cases b20 with
     | false => rfl
     | true => exact absurd (FL rfl) (by simp)
   have h3 : b10 = true := by
     simp [Region.binds] at h2
     simp [h2]
   obtain rfl := h3
   clear h2 hlt
   simp only [cond_true, cond_false]
   have e0 := (HQ.out W hD).2
   refine wpOz_run rfl rfl (wpz_value (v := .string d) (w' := W) (d := 17) rfl (by go_simp) ?_)
   exact ⟨b0, b1, b2, b3, b4, b5, b6, b7, b8, b9, true, true, b12, b13, b14, b15, b16, b17, b18, b19, false, b21, g8, g12, g14, g19, rfl, rfl, hD, F8, F12, F14, F19, (fun h => by cases h)⟩
  ·obtain ⟨b0, b1, b2, b3, b4, b5, b6, b7, b8, b9, b10, b11, b12, b13, b14, b15, b16, b17, b18, b19, b20, b21, g8, g12, g14, g19, rfl, rfl, hD, F8, F12, F14, F19, FL⟩ := hI
   obtain rfl : b12 = false := h1
   obtain rfl : b20 = false := by
     cases b20 with
     | false => rfl
     | true => exact absurd (FL rfl) (by simp)
   have h3 : b11 = true := by
     simp [Region.binds] at h2
     simp [h2]
   obtain rfl := h3
   clear h2 hlt
   simp only [cond_true, cond_false]
   have hb := (Below.refl W.heap.size W).alloc (Nat.le_refl _) (.cells #[.string d, .string ⟨#[49]⟩] 22)
   refine wpOz_run rfl rfl (wpz_value (v := .slice (some ⟨W.heap.size, 0, none⟩) 2 2) (w' := W.alloc (.cells #[.string d, .string ⟨#[49]⟩] 22)) (d := 18) rfl (by go_simp) ?_)
   exact ⟨b0, b1, b2, b3, b4, b5, b6, b7, b8, b9, b10, true, true, b13, b14, b15, b16, b17, b18, b19, false, b21, g8, W.heap.size, g14, g19, rfl, rfl, hD.trans (hb.mono hD.size), (fun h k => (F8 h k).below hb), (fun _ _ => SR.lit (xs := [d, ⟨#[49]⟩])), (fun h k => (F14 h k).below hb), (fun h k => (F19 h k).below hb), (fun h => by cases h)⟩
  ·obtain ⟨b0, b1, b2, b3, b4, b5, b6, b7, b8, b9, b10, b11, b12, b13, b14, b15, b16, b17, b18, b19, b20, b21, g8, g12, g14, g19, rfl, rfl, hD, F8, F12, F14, F19, FL⟩ := hI
   obtain rfl : b13 = false := h1
   obtain rfl : b20 = false := by
     cases b20 with
     | false => rfl
     | true => exact absurd (FL rfl) (by simp)
   have h3 : b12 = true ∧ b9 = true := by
     simp [Region.binds] at h2
     simp [h2]
   obtain ⟨rfl, rfl⟩ := h3
   clear h2 hlt
   have G12 := F12 rfl rfl
   simp only [cond_true, cond_false]
   refine wpOz_run rfl rfl (wpz_enter (d := 19) rfl (by go_simp) ((HC4.out W _ 2 hD G12).mono ?_))
   rintro e W2 ⟨rfl, hb⟩
   refine ⟨_, rfl, ?_⟩
   exact ⟨b0, b1, b2, b3, b4, b5, b6, b7, b8, true, b10, b11, true, true, b14, b15, b16, b17, b18, b19, false, b21, g8, g12, g14, g19, rfl, rfl, hD.trans (hb.mono hD.size), (fun h k => (F8 h k).below hb), (fun h k => (F12 h k).below hb), (fun h k => (F14 h k).below hb), (fun h k => (F19 h k).below hb), (fun h => by cases h)⟩
  ·obtain ⟨b0, b1, b2, b3, b4, b5, b6, b7, b8, b9, b10, b11, b12, b13, b14, b15, b16, b17, b18, b19, b20, b21, g8, g12, g14, g19, rfl, rfl, hD, F8, F12, F14, F19, FL⟩ := hI
   obtain rfl : b14 = false := h1
   obtain rfl : b20 = false := by
     cases b20 with
     | false => rfl
     | true => exact absurd (FL rfl) (by simp)
   have h3 : b2 = true ∧ b5 = true ∧ b9 = true ∧ b13 = true := by
     simp [Region.binds] at h2
     simp [h2]
   obtain ⟨rfl, rfl, rfl, rfl⟩ := h3
   clear h2 hlt
   simp only [cond_true, cond_false]
   have hb := (Below.refl W.heap.size W).alloc (Nat.le_refl _) (.cells #[.int .i64 e1, .int .i64 e2, .int .i64 e3, .int .i64 e4] 27)
   refine wpOz_run rfl rfl (wpz_value (v := .slice (some ⟨W.heap.size, 0, none⟩) 4 4) (w' := W.alloc (.cells #[.int .i64 e1, .int .i64 e2, .int .i64 e3, .int .i64 e4] 27)) (d := 20) rfl (by go_simp) ?_)
   exact ⟨b0, b1, true, b3, b4, true, b6, b7, b8, true, b10, b11, b12, true, true, b15, b16, b17, b18, b19, false, b21, g8, g12, W.heap.size, g19, rfl, rfl, hD.trans (hb.mono hD.size), (fun h k => (F8 h k).below hb), (fun h k => (F12 h k).below hb), (fun _ _ => ER.lit (es := [e1, e2, e3, e4])), (fun h k => (F19 h k).below hb), (fun h => by cases h)⟩
  ·obtain ⟨b0, b1, b2, b3, b4, b5, b6, b7, b8, b9, b10, b11, b12, b13, b14, b15, b16, b17, b18, b19, b20, b21, g8, g12, g14, g19, rfl, rfl, hD, F8, F12, F14, F19, FL⟩ := hI
   obtain rfl : b15 = false := h1
   obtain rfl : b20 = false := by
     cases b20 with
     | false => rfl
     | true => exact absurd (FL rfl) (by simp)
   have h3 : b14 = true ∧ b13 = true := by
     simp [Region.binds] at h2
     simp [h2]
   obtain ⟨rfl, rfl⟩ := h3
   clear h2 hlt
   have G14 := F14 rfl rfl
   simp only [cond_true, cond_false]
   refine wpOz_run rfl rfl (wpz_enter (d := 21) rfl (by go_simp) ((HC5.out W _ 4 hD G14).mono ?_))
   rintro e W2 ⟨rfl, hb⟩
   refine ⟨_, rfl, ?_⟩
   exact ⟨b0, b1, b2, b3, b4, b5, b6, b7, b8, b9, b10, b11, b12, true, true, true, b16, b17, b18, b19, false, b21, g8, g12, g14, g19, rfl, rfl, hD.trans (hb.mono hD.size), (fun h k => (F8 h k).below hb), (fun h k => (F12 h k).below hb), (fun h k => (F14 h k).below hb), (fun h k => (F19 h k).below hb), (fun h => by cases h)⟩
  ·obtain ⟨b0, b1, b2, b3, b4, b5, b6, b7, b8, b9, b10, b11, b12, b13, b14, b15, b16, b17, b18, b19, b20, b21, g8, g12, g14, g19, rfl, rfl, hD, F8, F12, F14, F19, FL⟩ := hI
   obtain rfl : b16 = false := h1
   obtain rfl : b20 = false := by
     cases b20 with
     | false => rfl
     | true => exact absurd (FL rfl) (by simp)
   have h3 : b15 = true := by
     simp [Region.binds] at h2
     simp [h2]
   obtain rfl := h3
   clear h2 hlt
   simp only [cond_true, cond_false]
   refine wpOz_run rfl rfl (wpz_value (v := .tuple #[.agg #[.string x, .string y], .int .i64 m]) (w' := W) (d := 5) rfl (by go_simp) ?_)
   exact ⟨b0, b1, b2, b3, b4, b5, b6, b7, b8, b9, b10, b11, b12, b13, b14, true, true, b17, b18, b19, false, b21, g8, g12, g14, g19, rfl, rfl, hD, F8, F12, F14, F19, (fun h => by cases h)⟩
  ·obtain ⟨b0, b1, b2, b3, b4, b5, b6, b7, b8, b9, b10, b11, b12, b13, b14, b15, b16, b17, b18, b19, b20, b21, g8, g12, g14, g19, rfl, rfl, hD, F8, F12, F14, F19, FL⟩ := hI
   obtain rfl : b17 = false := h1
   obtain rfl : b20 = false := by
     cases b20 with
     | false => rfl
     | true => exact absurd (FL rfl) (by simp)
   have h3 : b16 = true := by
     simp [Region.binds] at h2
     simp [h2]
   obtain rfl := h3
   clear h2 hlt
   simp only [cond_true, cond_false]
   refine wpOz_run rfl rfl (wpz_value (v := .agg #[.string x, .string y]) (w' := W) (d := 22) rfl (by go_simp) ?_)
   exact ⟨b0, b1, b2, b3, b4, b5, b6, b7, b8, b9, b10, b11, b12, b13, b14, b15, true, true, b18, b19, false, b21, g8, g12, g14, g19, rfl, rfl, hD, F8, F12, F14, F19, (fun h => by cases h)⟩
  ·obtain ⟨b0, b1, b2, b3, b4, b5, b6, b7, b8, b9, b10, b11, b12, b13, b14, b15, b16, b17, b18, b19, b20, b21, g8, g12, g14, g19, rfl, rfl, hD, F8, F12, F14, F19, FL⟩ := hI
   obtain rfl : b18 = false := h1
   have h3 : b16 = true := by
     simp [Region.binds] at h2
     simp [h2]
   obtain rfl := h3
   clear h2 hlt
   simp only [cond_true, cond_false]
   refine wpOz_run rfl rfl (wpz_value (v := .int .i64 m) (w' := W) (d := 23) rfl (by go_simp) ?_)
   exact ⟨b0, b1, b2, b3, b4, b5, b6, b7, b8, b9, b10, b11, b12, b13, b14, b15, true, b17, true, b19, b20, b21, g8, g12, g14, g19, rfl, rfl, hD, F8, F12, F14, F19, FL⟩
  ·obtain ⟨b0, b1, b2, b3, b4, b5, b6, b7, b8, b9, b10, b11, b12, b13, b14, b15, b16, b17, b18, b19, b20, b21, g8, g12, g14, g19, rfl, rfl, hD, F8, F12, F14, F19, FL⟩ := hI
   obtain rfl : b19 = false := h1
   obtain rfl : b20 = false := by
     cases b20 with
     | false => rfl
     | true => exact absurd (FL rfl) (by simp)
   clear h2 hlt
   simp only [cond_false]
   have hb := (Below.refl W.heap.size W).alloc (Nat.le_refl _) (.cells #[.string ⟨#[]⟩, .string ⟨#[]⟩] 24)
   refine wpOz_run rfl rfl (wpz_value (v := .pointer (some ⟨W.heap.size, 0, none⟩)) (w' := W.alloc (.cells #[.string ⟨#[]⟩, .string ⟨#[]⟩] 24)) (d := 3) rfl (by go_simp) ?_)
   exact ⟨b0, b1, b2, b3, b4, b5, b6, b7, b8, b9, b10, b11, b12, b13, b14, b15, b16, b17, b18, true, false, b21, g8, g12, g14, W.heap.size, rfl, rfl, hD.trans (hb.mono hD.size), (fun h k => (F8 h k).below hb), (fun h k => (F12 h k).below hb), (fun h k => (F14 h k).below hb), (fun _ _ => RB.new hD.size), (fun h => by cases h)⟩
  ·obtain ⟨b0, b1, b2, b3, b4, b5, b6, b7, b8, b9, b10, b11, b12, b13, b14, b15, b16, b17, b18, b19, b20, b21, g8, g12, g14, g19, rfl, rfl, hD, F8, F12, F14, F19, FL⟩ := hI
   obtain rfl : b20 = false := h1
   have h3 : b0 = true ∧ b1 = true ∧ b2 = true ∧ b3 = true ∧ b4 = true ∧ b5 = true ∧ b6 = true ∧ b7 = true ∧ b8 = true ∧ b9 = true ∧ b10 = true ∧ b11 = true ∧ b12 = true ∧ b13 = true ∧ b14 = true ∧ b15 = true ∧ b16 = true ∧ b17 = true ∧ b19 = true := by
     simp [Region.binds] at h2
     simp [h2]
   obtain ⟨rfl, rfl, rfl, rfl, rfl, rfl, rfl, rfl, rfl, rfl, rfl, rfl, rfl, rfl, rfl, rfl, rfl, rfl, rfl⟩ := h3
   clear h2 hlt
   have G8 := F8 rfl rfl
   have G12 := F12 rfl rfl
   have G14 := F14 rfl rfl
   have G19 := F19 rfl rfl
   simp only [cond_true]
   obtain ⟨q1, q2, c0, c1, z0, z1⟩ := G19
   refine wpOz_run rfl rfl (wpz_skip (w' := (W.setCell ⟨g19, 0, none⟩ (.string x)).setCell ⟨g19, 1, none⟩ (.string y)) rfl (by go_simp) ?_)
   exact ⟨true, true, true, true, true, true, true, true, true, true, true, true, true, true, true, true, true, true, b18, true, true, b21, g8, g12, g14, g19, rfl, rfl, (hD.setCell (p := ⟨g19, 0, none⟩) q2 (.string x)).setCell (p := ⟨g19, 1, none⟩) q2 (.string y), (fun _ h => by cases h), (fun _ h => by cases h), (fun _ h => by cases h), (fun _ h => by cases h), (fun _ => ⟨rfl, rfl, rfl, rfl, rfl, rfl, rfl, rfl, rfl, rfl, rfl, rfl, rfl, rfl, rfl, rfl, rfl, rfl, rfl⟩)⟩
  ·obtain ⟨b0, b1, b2, b3, b4, b5, b6, b7, b8, b9, b10, b11, b12, b13, b14, b15, b16, b17, b18, b19, b20, b21, g8, g12, g14, g19, rfl, rfl, hD, F8, F12, F14, F19, FL⟩ := hI
   obtain rfl : b21 = false := h1
   have h3 : b0 = true ∧ b1 = true ∧ b2 = true ∧ b3 = true ∧ b4 = true ∧ b5 = true ∧ b6 = true ∧ b7 = true ∧ b8 = true ∧ b9 = true ∧ b10 = true ∧ b11 = true ∧ b12 = true ∧ b13 = true ∧ b14 = true ∧ b15 = true ∧ b16 = true ∧ b17 = true ∧ b18 = true ∧ b19 = true ∧ b20 = true := by
     simp [Region.binds] at h2
     simp [h2]
   obtain ⟨rfl, rfl, rfl, rfl, rfl, rfl, rfl, rfl, rfl, rfl, rfl, rfl, rfl, rfl, rfl, rfl, rfl, rfl, rfl, rfl, rfl⟩ := h3
   clear h2 hlt
   simp only [cond_true, cond_false]
   refine wpOz_run rfl rfl (wpz_value (v := .int .i64 m) (w' := W) (d := 4) rfl (by go_simp) ?_)
   exact ⟨true, true, true, true, true, true, true, true, true, true, true, true, true, true, true, true, true, true, true, true, true, true, g8, g12, g14, g19, rfl, rfl, hD, (fun _ h => by cases h), (fun _ h => by cases h), (fun _ h => by cases h), (fun _ h => by cases h), (fun _ => ⟨rfl, rfl, rfl, rfl, rfl, rfl, rfl, rfl, rfl, rfl, rfl, rfl, rfl, rfl, rfl, rfl, rfl, rfl, rfl⟩)⟩
 ·intro l a W hI hr
  have hall := ready_nil hr (by obtain ⟨_, _, _, _, _, _, _, _, _, _, _, _, _, _, _, _, _, _, _, _, _, _, _, _, _, _, rfl, _⟩ := hI; rfl) (by kernel_rfl)
  obtain ⟨b0, b1, b2, b3, b4, b5, b6, b7, b8, b9, b10, b11, b12, b13, b14, b15, b16, b17, b18, b19, b20, b21, g8, g12, g14, g19, rfl, rfl, hD, F8, F12, F14, F19, FL⟩ := hI
  obtain rfl : b0 = true := hall 0 (by decide)
  obtain rfl : b1 = true := hall 1 (by decide)
  obtain rfl : b2 = true := hall 2 (by decide)
  obtain rfl : b3 = true := hall 3 (by decide)
  obtain rfl : b4 = true := hall 4 (by decide)
  obtain rfl : b5 = true := hall 5 (by decide)
  obtain rfl : b6 = true := hall 6 (by decide)
  obtain rfl : b7 = true := hall 7 (by decide)
  obtain rfl : b8 = true := hall 8 (by decide)
  obtain rfl : b9 = true := hall 9 (by decide)
  obtain rfl : b10 = true := hall 10 (by decide)
  obtain rfl : b11 = true := hall 11 (by decide)
  obtain rfl : b12 = true := hall 12 (by decide)
  obtain rfl : b13 = true := hall 13 (by decide)
  obtain rfl : b14 = true := hall 14 (by decide)
  obtain rfl : b15 = true := hall 15 (by decide)
  obtain rfl : b16 = true := hall 16 (by decide)
  obtain rfl : b17 = true := hall 17 (by decide)
  obtain rfl : b18 = true := hall 18 (by decide)
  obtain rfl : b19 = true := hall 19 (by decide)
  obtain rfl : b20 = true := hall 20 (by decide)
  obtain rfl : b21 = true := hall 21 (by decide)
  clear hall hr
  simp only [cond_true]
  have HBX3 := Lib.hid (HB0.out.trans ((HBX2.out.trans (hD.mono HBX2.out.size)).mono HB0.out.size))
  clear F8 F12 F14 F19 FL hD HQ HC1 HC2 HC3 HC4 HC5 HBX2 HB0
  go_wp2_with fail
  go_ret
  exact ⟨rfl, HBX3.out⟩
 ·exact ⟨false, false, false, false, false, false, false, false, false, false, false, false, false, false, false, false, false, false, false, false, false, false, 0, 0, 0, 0, rfl, rfl, (Below.refl _ _).drew, (fun h _ => by cases h), (fun h _ => by cases h), (fun h _ => by cases h), (fun h _ => by cases h), (fun h => by cases h)⟩
end
section
open Go.RowKit NV
theorem field_b (x y : ByteArray) (W : World) : (Instr.field 92 (.agg #[.string x, .string y]) 0).run Tryz.prog W = .ok (.agg #[.string x, .string y]) W := by kernel_rfl
def Dl (f d : ByteArray) (m : Int) (w : World) (e : Ending) (w' : World) : Prop := Does (.agg #[.string f, .string d]) m w e w'
set_option maxHeartbeats 3200000 in
set_option maxRecDepth 100000 in
theorem group_clo {f d x y : ByteArray} {k : Int} {m : Int} {bl bk : Nat} {w : World} (h0 : w.cell? ⟨bl, 0, none⟩ = some (.string f)) (h1 : w.cell? ⟨bl, 1, none⟩ = some (.string d)) (hp : bl < w.heap.size) (h2 : w.cell? ⟨bk, 0, none⟩ = some (.int .i64 k)) (hk : bk < w.heap.size)
  (hg : ∀ W, Below w.heap.size w W → Calls Tryz.prog 86 #[.agg #[.string f, .string d], .int .i64 k] W (Dl x y m W)) :
  Calls Tryz.prog 85 #[.pointer (some ⟨bl, 0, none⟩), .pointer (some ⟨bk, 0, none⟩)] w (Dl x y m w) := by
 have hb0 := (Below.refl w.heap.size w).alloc (Nat.le_refl _) (.cells #[.string ⟨#[]⟩, .string ⟨#[]⟩] 24)
 have r0 : RB w (w.alloc (.cells #[.string ⟨#[]⟩, .string ⟨#[]⟩] 24)) w.heap.size ⟨#[]⟩ ⟨#[]⟩ := RB.new (Nat.le_refl _)
 have HG := Lib.hid (hg _ hb0)
 have HB0 := Lib.hid (And.intro hb0 r0)
 have k0 := (hb0.cell (p := ⟨bl, 0, none⟩) hp).trans h0
 have k1 := (hb0.cell (p := ⟨bl, 1, none⟩) hp).trans h1
 have k2 := (hb0.cell (p := ⟨bk, 0, none⟩) hk).trans h2
 have hfb := field_b x y
 clear hb0 r0 hg h0 h1 h2 hp hk
 go_enter Tryz.func85, Tryz.ntmps85
 go_wp2_with fail
 refine HG.out.mono ?_
 rintro e w1 ⟨hr, hb⟩
 have HB := Lib.hid (HB0.out.1.trans (hb.mono HB0.out.1.size))
 have hrb := HB0.out.2.below hb
 clear hb HG HB0 k0 k1 k2
 rcases Or.symm hr with ⟨hn, rfl⟩ | ⟨hz, rfl⟩
 ·have HE := Lib.hid (show Dl x y m w _ _ from ⟨.inr ⟨hn, rfl⟩, HB.out⟩)
  clear hn hrb
  go_wp2_with fail
  exact ⟨rfl, HE.out⟩
 ·obtain ⟨_, _, c0, c1, z0, z1⟩ := hrb
  have HE := Lib.hid ((HB.out.setCell (p := ⟨w.heap.size, 0, none⟩) (Nat.le_refl _) (.string x)).setCell (p := ⟨w.heap.size, 1, none⟩) (Nat.le_refl _) (.string y))
  have HZ := Lib.hid hz
  clear hz
  clear hr
  go_wp2_with fail
  refine bodyPost_ret (v := .agg #[.string x, .string y]) (by simp [results, Tryz.results85, go_sem, c0, c1]) rfl ?_
  exact ⟨.inl ⟨HZ.out, rfl⟩, HE.out⟩
set_option maxHeartbeats 3200000 in
set_option maxRecDepth 100000 in
theorem late_clo {f d x y : ByteArray} {u : ByteArray} {m : Int} {bl bk : Nat} {w : World} (h0 : w.cell? ⟨bl, 0, none⟩ = some (.string f)) (h1 : w.cell? ⟨bl, 1, none⟩ = some (.string d)) (hp : bl < w.heap.size) (h2 : w.cell? ⟨bk, 0, none⟩ = some (.string u)) (hk : bk < w.heap.size)
  (hg : ∀ W, Below w.heap.size w W → Calls Tryz.prog 89 #[.agg #[.string f, .string d], .string u] W (Dl x y m W)) :
  Calls Tryz.prog 88 #[.pointer (some ⟨bl, 0, none⟩), .pointer (some ⟨bk, 0, none⟩)] w (Dl x y m w) := by
 have hb0 := (Below.refl w.heap.size w).alloc (Nat.le_refl _) (.cells #[.string ⟨#[]⟩, .string ⟨#[]⟩] 24)
 have r0 : RB w (w.alloc (.cells #[.string ⟨#[]⟩, .string ⟨#[]⟩] 24)) w.heap.size ⟨#[]⟩ ⟨#[]⟩ := RB.new (Nat.le_refl _)
 have HG := Lib.hid (hg _ hb0)
 have HB0 := Lib.hid (And.intro hb0 r0)
 have k0 := (hb0.cell (p := ⟨bl, 0, none⟩) hp).trans h0
 have k1 := (hb0.cell (p := ⟨bl, 1, none⟩) hp).trans h1
 have k2 := (hb0.cell (p := ⟨bk, 0, none⟩) hk).trans h2
 have hfb := field_b x y
 clear hb0 r0 hg h0 h1 h2 hp hk
 go_enter Tryz.func88, Tryz.ntmps88
 go_wp2_with fail
 refine HG.out.mono ?_
 rintro e w1 ⟨hr, hb⟩
 have HB := Lib.hid (HB0.out.1.trans (hb.mono HB0.out.1.size))
 have hrb := HB0.out.2.below hb
 clear hb HG HB0 k0 k1 k2
 rcases Or.symm hr with ⟨hn, rfl⟩ | ⟨hz, rfl⟩
 ·have HE := Lib.hid (show Dl x y m w _ _ from ⟨.inr ⟨hn, rfl⟩, HB.out⟩)
  clear hn hrb
  go_wp2_with fail
  exact ⟨rfl, HE.out⟩
 ·obtain ⟨_, _, c0, c1, z0, z1⟩ := hrb
  have HE := Lib.hid ((HB.out.setCell (p := ⟨w.heap.size, 0, none⟩) (Nat.le_refl _) (.string x)).setCell (p := ⟨w.heap.size, 1, none⟩) (Nat.le_refl _) (.string y))
  have HZ := Lib.hid hz
  clear hz
  clear hr
  go_wp2_with fail
  refine bodyPost_ret (v := .agg #[.string x, .string y]) (by simp [results, Tryz.results88, go_sem, c0, c1]) rfl ?_
  exact ⟨.inl ⟨HZ.out, rfl⟩, HE.out⟩
end
section
open Go.RowKit NV
theorem fin_loss {es : List Int} {x y : ByteArray} {m : Int} : ∃ x' y' : ByteArray, ∃ r : Int, (if fstL es = 0 ∧ m = 0 then Value.agg #[.string x, .string y] else .agg #[.string ⟨#[]⟩, .string ⟨#[]⟩]) = .agg #[.string x', .string y'] ∧ (if fstL es = 0 then m else fstL es) = r ∧ (r = 0 → x' = x ∧ y' = y) ∧ (r ≠ 0 → x' = ⟨#[]⟩ ∧ y' = ⟨#[]⟩) := by
 by_cases h1 : fstL es = 0
 ·by_cases h2 : m = 0
  ·exact ⟨x, y, 0, by rw [if_pos ⟨h1, h2⟩], by rw [if_pos h1, h2], fun _ => ⟨rfl, rfl⟩, fun h => absurd rfl h⟩
  ·exact ⟨⟨#[]⟩, ⟨#[]⟩, m, by rw [if_neg (fun h => h2 h.2)], by rw [if_pos h1], fun h => absurd h h2, fun _ => ⟨rfl, rfl⟩⟩
 ·exact ⟨⟨#[]⟩, ⟨#[]⟩, fstL es, by rw [if_neg (fun h => h1 h.1)], by rw [if_neg h1], fun h => absurd h h1, fun _ => ⟨rfl, rfl⟩⟩
set_option maxHeartbeats 6400000 in
set_option maxRecDepth 100000 in
theorem lGroup_any {f d x y : ByteArray} {k : Int} {m : Int} {w : World} (hf : f.size ≤ 1000000) (hd : d.size ≤ 1000000) (hm : ML w)
  (hg : chkL f d = 0 → (if k < 0 ∨ 50 < k then (2 : Int) else 0) = 0 → ∀ W bl bk, Below w.heap.size w W → W.cell? ⟨bl, 0, none⟩ = some (.string f) → W.cell? ⟨bl, 1, none⟩ = some (.string d) → bl < W.heap.size → W.cell? ⟨bk, 0, none⟩ = some (.int .i64 k) → bk < W.heap.size → Calls Tryz.prog 85 #[.pointer (some ⟨bl, 0, none⟩), .pointer (some ⟨bk, 0, none⟩)] W (Dl x y m W)) :
  Calls Tryz.prog 23 #[.agg #[.string f, .string d], .int .i64 k] w (Fin [chkL f d, (if k < 0 ∨ 50 < k then (2 : Int) else 0)] (.agg #[.string x, .string y]) (.agg #[.string ⟨#[]⟩, .string ⟨#[]⟩]) m w) := by
 have hmf : ∀ (fn : Fn) (first cap : Array Value) (w : World), (Instr.makeFunc fn first cap).run Tryz.prog w = .ok (.func fn first cap) w := fun _ _ _ _ => rfl
 obtain ⟨e1, he1⟩ : ∃ e1, e1 = chkL f d := ⟨_, rfl⟩
 obtain ⟨e2, he2⟩ : ∃ e2, e2 = (if k < 0 ∨ 50 < k then (2 : Int) else 0) := ⟨_, rfl⟩
 rw [← he1, ← he2] at hg ⊢
 have r1 : RB w (w.alloc (.cells #[.string f, .string d] 24)) w.heap.size f d := RB.new (Nat.le_refl _)
 have hb1 := (Below.refl w.heap.size w).alloc (Nat.le_refl _) (.cells #[.string f, .string d] 24)
 have hb2 := (Below.refl (w.alloc (.cells #[.string f, .string d] 24)).heap.size (w.alloc (.cells #[.string f, .string d] 24))).alloc (Nat.le_refl _) (.cells #[.int .i64 k] 3)
 have r3 : RB w (((w.alloc (.cells #[.string f, .string d] 24)).alloc (.cells #[.int .i64 k] 3)).alloc (.cells #[.string ⟨#[]⟩, .string ⟨#[]⟩] 24)) (w.heap.size + 2) ⟨#[]⟩ ⟨#[]⟩ := by
  have h := RB.new (w := w) (W := ((w.alloc (.cells #[.string f, .string d] 24)).alloc (.cells #[.int .i64 k] 3))) (s := ⟨#[]⟩) (t := ⟨#[]⟩) (ty := 24) (by simp; omega)
  simpa using h
 have hb3 := (Below.refl ((w.alloc (.cells #[.string f, .string d] 24)).alloc (.cells #[.int .i64 k] 3)).heap.size ((w.alloc (.cells #[.string f, .string d] 24)).alloc (.cells #[.int .i64 k] 3))).alloc (Nat.le_refl _) (.cells #[.string ⟨#[]⟩, .string ⟨#[]⟩] 24)
 have hbb := hb1.trans ((hb2.trans (hb3.mono hb2.size)).mono hb1.size)
 have r1' := (r1.below hb2).below hb3
 have k2 : (((w.alloc (.cells #[.string f, .string d] 24)).alloc (.cells #[.int .i64 k] 3)).alloc (.cells #[.string ⟨#[]⟩, .string ⟨#[]⟩] 24)).cell? ⟨w.heap.size + 1, 0, none⟩ = some (.int .i64 k) := (hb3.cell (p := ⟨w.heap.size + 1, 0, none⟩) (by simp)).trans (by simp)
 have z2 : w.heap.size + 1 < (((w.alloc (.cells #[.string f, .string d] 24)).alloc (.cells #[.int .i64 k] 3)).alloc (.cells #[.string ⟨#[]⟩, .string ⟨#[]⟩] 24)).heap.size := by simp
 have HML := Lib.hid (fun W (hb : Below w.heap.size w W) => ml_keep hm (ml_pos hm) hb)
 have K1 := Lib.hid (show ∀ W, Below w.heap.size w W → Calls Tryz.prog 27 #[.agg #[.string f, .string d]] W (Er e1 W) from fun W hb => by rw [he1]; exact lCheck_any hf hd (HML.out W hb))
 have K2 := Lib.hid (show ∀ W, Calls Tryz.prog 87 #[.int .i64 k, .int .i64 0, .int .i64 50] W (Er e2 W) from fun W => by rw [he2]; exact within_any k 0 50 W)
 obtain ⟨x', y', r, hr1, hr2, _, _⟩ := fin_loss (es := [e1, e2]) (x := x) (y := y) (m := m)
 have K3 := Lib.hid (show ∀ W ao c, Below (((w.alloc (.cells #[.string f, .string d] 24)).alloc (.cells #[.int .i64 k] 3)).alloc (.cells #[.string ⟨#[]⟩, .string ⟨#[]⟩] 24)).heap.size (((w.alloc (.cells #[.string f, .string d] 24)).alloc (.cells #[.int .i64 k] 3)).alloc (.cells #[.string ⟨#[]⟩, .string ⟨#[]⟩] 24)) W → ER W ao 2 [e1, e2] → Calls Tryz.prog 84 #[.func (.func 85) #[] #[.pointer (some ⟨w.heap.size, 0, none⟩), .pointer (some ⟨w.heap.size + 1, 0, none⟩)], .slice ao 2 c] W (fun e w' => e = .returned (.tuple #[.agg #[.string x', .string y'], .int .i64 r]) ∧ Below W.heap.size W w') from fun W ao c hb he => by
  have h := attempt_loss_any (g := 85) (cap := #[.pointer (some ⟨w.heap.size, 0, none⟩), .pointer (some ⟨w.heap.size + 1, 0, none⟩)]) (f := x) (d := y) (m := m) (c := c) he (by omega) (fun h W2 hb2 => by
   have hB2 := hb.trans (hb2.mono hb.size)
   have q := r1'.below hB2
   exact hg (fstL_zero h e1 (by simp)) (fstL_zero h e2 (by simp)) W2 _ _ (hbb.trans (hB2.mono hbb.size)) q.c0 q.c1 q.lt ((hB2.cell (p := ⟨w.heap.size + 1, 0, none⟩) z2).trans k2) (Nat.lt_of_lt_of_le z2 hB2.size)) (fun W => by simp [go_sem])
  unfold Fin at h
  rw [hr1, hr2] at h
  exact h)
 have HB0 := Lib.hid hbb
 have HR := Lib.hid (And.intro r1' (And.intro r3 (And.intro k2 z2)))
 unfold Fin
 rw [hr1, hr2]
 clear r1 hb1 hb2 r3 hb3 hbb r1' k2 z2 hr1 hr2 he1 he2 hg hf hd hm
 go_enter Tryz.func23, Tryz.ntmps23
 go_wp2_with fail
 refine wp_world (Below.refl (((w.alloc (.cells #[.string f, .string d] 24)).alloc (.cells #[.int .i64 k] 3)).alloc (.cells #[.string ⟨#[]⟩, .string ⟨#[]⟩] 24)).heap.size (((w.alloc (.cells #[.string f, .string d] 24)).alloc (.cells #[.int .i64 k] 3)).alloc (.cells #[.string ⟨#[]⟩, .string ⟨#[]⟩] 24))) (fun wx hbx => ?_)
 have HBX2 := Lib.hid hbx
 have q1 := HR.out.1.below hbx
 have q3 := HR.out.2.1.below hbx
 have q2 := (hbx.cell (p := ⟨w.heap.size + 1, 0, none⟩) HR.out.2.2.2).trans HR.out.2.2.1
 have z2 := Nat.lt_of_lt_of_le HR.out.2.2.2 hbx.size
 have HQ := Lib.hid (show ∀ W, SX wx (w.heap.size + 2) W → W.cell? ⟨w.heap.size, 0, none⟩ = some (.string f) ∧ W.cell? ⟨w.heap.size, 1, none⟩ = some (.string d) ∧ W.cell? ⟨w.heap.size + 1, 0, none⟩ = some (.int .i64 k) from fun W h =>
  ⟨(h.cell (p := ⟨w.heap.size, 0, none⟩) q1.lt (by show w.heap.size ≠ w.heap.size + 2; omega)).trans q1.c0, (h.cell (p := ⟨w.heap.size, 1, none⟩) q1.lt (by show w.heap.size ≠ w.heap.size + 2; omega)).trans q1.c1, (h.cell (p := ⟨w.heap.size + 1, 0, none⟩) z2 (by show w.heap.size + 1 ≠ w.heap.size + 2; omega)).trans q2⟩)
 have HQ3 := Lib.hid q3
 clear hbx q1 q2 q3 z2
 refine wp_region_held (S := fun W => SX wx (w.heap.size + 2) W) (by kernel_rfl) ?_
 change wpAnyH _ _ _ _ _ 11 _ _ wx.drew
 have hD0 := (Below.refl wx.heap.size wx).drew
 generalize wx.drew = W at *
 refine wpHz_take (i := 0) (d := 6) (v := .func (.func 85) #[] #[.pointer (some ⟨w.heap.size, 0, none⟩), .pointer (some ⟨w.heap.size + 1, 0, none⟩)]) rfl rfl (by kernel_rfl) (by kernel_rfl) (by kernel_rfl) (fun _ _ _ h => h) rfl (fun W _ => by go_simp) (SX.of hD0) ?_
 simp only [Act.put, sA, sB, sC]
 refine wpHz_take (i := 1) (d := 7) (v := .agg #[.string f, .string d]) rfl rfl (by kernel_rfl) (by kernel_rfl) (by kernel_rfl) (fun _ _ _ h => h) rfl (fun W hW => by have e0 := (HQ.out W hW).1; have e1 := (HQ.out W hW).2.1; go_simp) (SX.of hD0) ?_
 simp only [Act.put, sA, sB, sC]
 refine wpHz_take (i := 3) (d := 9) (v := .int .i64 k) rfl rfl (by kernel_rfl) (by kernel_rfl) (by kernel_rfl) (fun _ _ _ h => h) rfl (fun W hW => by have e0 := (HQ.out W hW).2.2; go_simp) (SX.of hD0) ?_
 simp only [Act.put, sA, sB, sC]
 refine wpHz_one (i := 2) (by kernel_rfl) ?_
 refine wpOz_run rfl rfl (wpz_enter (d := 8) rfl (by go_simp) ((K1.out _ (HB0.out.trans ((HBX2.out.trans (hD0.mono HBX2.out.size)).mono HB0.out.size))).mono ?_))
 rintro e u1 ⟨rfl, hb⟩
 have hD1 : Below wx.heap.size wx u1 := hD0.trans (hb.mono hD0.size)
 clear hb
 refine ⟨_, rfl, SX.of hD1, ?_⟩
 simp only [Act.put, sA, sB, sC]
 refine wpHz_one (i := 4) (by kernel_rfl) ?_
 refine wpOz_run rfl rfl (wpz_enter (d := 10) rfl (by go_simp) ((K2.out _).mono ?_))
 rintro e u2 ⟨rfl, hb⟩
 have hD2 : Below wx.heap.size wx u2 := hD1.trans (hb.mono hD1.size)
 clear hb
 refine ⟨_, rfl, SX.of hD2, ?_⟩
 simp only [Act.put, sA, sB, sC]
 refine wpHz_one (i := 5) (by kernel_rfl) ?_
 have hD3 : Below wx.heap.size wx (u2.alloc (.cells #[.int .i64 e1, .int .i64 e2] 27)) := hD2.alloc hD2.size _
 refine wpOz_run rfl rfl (wpz_value (v := .slice (some ⟨u2.heap.size, 0, none⟩) 2 2) (w' := u2.alloc (.cells #[.int .i64 e1, .int .i64 e2] 27)) (d := 11) rfl (by go_simp) ⟨SX.of hD3, ?_⟩)
 simp only [Act.put, sA, sB, sC]
 refine wpHz_one (i := 6) (by kernel_rfl) ?_
 refine wpOz_run rfl rfl (wpz_enter (d := 12) rfl (by go_simp) ((K3.out _ _ 2 (HBX2.out.trans (hD3.mono HBX2.out.size)) (ER.lit (es := [e1, e2]))).mono ?_))
 rintro e u3 ⟨rfl, hb⟩
 have hD4 : Below wx.heap.size wx u3 := hD3.trans (hb.mono hD3.size)
 clear hb
 refine ⟨_, rfl, SX.of hD4, ?_⟩
 simp only [Act.put, sA, sB, sC]
 refine wpHz_take (i := 7) (d := 13) (v := .agg #[.string x', .string y']) rfl rfl (by kernel_rfl) (by kernel_rfl) (by kernel_rfl) (fun _ _ _ h => h) rfl (fun W _ => by go_simp) (SX.of hD4) ?_
 simp only [Act.put, sA, sB, sC]
 refine wpHz_take (i := 8) (d := 14) (v := .int .i64 r) rfl rfl (by kernel_rfl) (by kernel_rfl) (by kernel_rfl) (fun _ _ _ h => h) rfl (fun W _ => by go_simp) (SX.of hD4) ?_
 simp only [Act.put, sA, sB, sC]
 have q4 := HQ3.out.below hD4
 have HE := Lib.hid (((HB0.out.trans ((HBX2.out.trans (hD4.mono HBX2.out.size)).mono HB0.out.size)).setCell (p := ⟨w.heap.size + 2, 0, none⟩) (by show w.heap.size ≤ w.heap.size + 2; omega) (.string x')).setCell (p := ⟨w.heap.size + 2, 1, none⟩) (by show w.heap.size ≤ w.heap.size + 2; omega) (.string y'))
 obtain ⟨_, _, c0, c1, z0, z1⟩ := q4
 refine wpHz_one (i := 9) (by kernel_rfl) ?_
 refine wpOz_run rfl rfl (wpz_skip (w' := (u3.setCell ⟨w.heap.size + 2, 0, none⟩ (.string x')).setCell ⟨w.heap.size + 2, 1, none⟩ (.string y')) rfl (by go_simp) ⟨SX.put hD4 _ _, ?_⟩)
 have hS := SX.put (b := w.heap.size + 2) hD4 (.string x') (.string y')
 refine wpHz_take (i := 10) (d := 5) (v := .int .i64 r) rfl rfl (by kernel_rfl) (by kernel_rfl) (by kernel_rfl) (fun _ _ _ h => h) rfl (fun W _ => by go_simp) hS ?_
 simp only [Act.put, sA, sB, sC]
 refine wpAnyH_done (by kernel_rfl) ?_ _
 clear hS K1 K2 K3 hD0 hD1 hD2 hD3 hD4 HML
 clear HBX2 HQ HQ3 HR HB0
 go_wp2_with fail
 refine bodyPost_ret (v := .tuple #[.agg #[.string x', .string y'], .int .i64 r]) (by simp [results, Tryz.results23, go_sem, c0, c1]) rfl ?_
 exact ⟨rfl, HE.out⟩
end
section
open Go.RowKit NV
set_option maxHeartbeats 6400000 in
set_option maxRecDepth 100000 in
theorem lLate_any {f d x y : ByteArray} {u : ByteArray} {m : Int} {w : World} (hf : f.size ≤ 1000000) (hd : d.size ≤ 1000000) (hm : ML w) (hu : u.size ≤ 1000000)
  (hg : chkL f d = 0 → ordE ⟨#[48]⟩ [u, ⟨#[49]⟩] = 0 → ∀ W bl bk, Below w.heap.size w W → W.cell? ⟨bl, 0, none⟩ = some (.string f) → W.cell? ⟨bl, 1, none⟩ = some (.string d) → bl < W.heap.size → W.cell? ⟨bk, 0, none⟩ = some (.string u) → bk < W.heap.size → Calls Tryz.prog 88 #[.pointer (some ⟨bl, 0, none⟩), .pointer (some ⟨bk, 0, none⟩)] W (Dl x y m W)) :
  Calls Tryz.prog 25 #[.agg #[.string f, .string d], .string u] w (Fin [chkL f d, ordE ⟨#[48]⟩ [u, ⟨#[49]⟩]] (.agg #[.string x, .string y]) (.agg #[.string ⟨#[]⟩, .string ⟨#[]⟩]) m w) := by
 have hmf : ∀ (fn : Fn) (first cap : Array Value) (w : World), (Instr.makeFunc fn first cap).run Tryz.prog w = .ok (.func fn first cap) w := fun _ _ _ _ => rfl
 obtain ⟨e1, he1⟩ : ∃ e1, e1 = chkL f d := ⟨_, rfl⟩
 obtain ⟨e2, he2⟩ : ∃ e2, e2 = ordE ⟨#[48]⟩ [u, ⟨#[49]⟩] := ⟨_, rfl⟩
 rw [← he1, ← he2] at hg ⊢
 have r1 : RB w (w.alloc (.cells #[.string f, .string d] 24)) w.heap.size f d := RB.new (Nat.le_refl _)
 have hb1 := (Below.refl w.heap.size w).alloc (Nat.le_refl _) (.cells #[.string f, .string d] 24)
 have hb2 := (Below.refl (w.alloc (.cells #[.string f, .string d] 24)).heap.size (w.alloc (.cells #[.string f, .string d] 24))).alloc (Nat.le_refl _) (.cells #[.string u] 22)
 have r3 : RB w (((w.alloc (.cells #[.string f, .string d] 24)).alloc (.cells #[.string u] 22)).alloc (.cells #[.string ⟨#[]⟩, .string ⟨#[]⟩] 24)) (w.heap.size + 2) ⟨#[]⟩ ⟨#[]⟩ := by
  have h := RB.new (w := w) (W := ((w.alloc (.cells #[.string f, .string d] 24)).alloc (.cells #[.string u] 22))) (s := ⟨#[]⟩) (t := ⟨#[]⟩) (ty := 24) (by simp; omega)
  simpa using h
 have hb3 := (Below.refl ((w.alloc (.cells #[.string f, .string d] 24)).alloc (.cells #[.string u] 22)).heap.size ((w.alloc (.cells #[.string f, .string d] 24)).alloc (.cells #[.string u] 22))).alloc (Nat.le_refl _) (.cells #[.string ⟨#[]⟩, .string ⟨#[]⟩] 24)
 have hbb := hb1.trans ((hb2.trans (hb3.mono hb2.size)).mono hb1.size)
 have r1' := (r1.below hb2).below hb3
 have k2 : (((w.alloc (.cells #[.string f, .string d] 24)).alloc (.cells #[.string u] 22)).alloc (.cells #[.string ⟨#[]⟩, .string ⟨#[]⟩] 24)).cell? ⟨w.heap.size + 1, 0, none⟩ = some (.string u) := (hb3.cell (p := ⟨w.heap.size + 1, 0, none⟩) (by simp)).trans (by simp)
 have z2 : w.heap.size + 1 < (((w.alloc (.cells #[.string f, .string d] 24)).alloc (.cells #[.string u] 22)).alloc (.cells #[.string ⟨#[]⟩, .string ⟨#[]⟩] 24)).heap.size := by simp
 have HML := Lib.hid (fun W (hb : Below w.heap.size w W) => ml_keep hm (ml_pos hm) hb)
 have K1 := Lib.hid (show ∀ W, Below w.heap.size w W → Calls Tryz.prog 27 #[.agg #[.string f, .string d]] W (Er e1 W) from fun W hb => by rw [he1]; exact lCheck_any hf hd (HML.out W hb))
 have K2 := Lib.hid (show ∀ W ao c, Below w.heap.size w W → SR W ao 2 [u, ⟨#[49]⟩] → Calls Tryz.prog 82 #[.string ⟨#[48]⟩, .slice ao 2 c] W (Er e2 W) from fun W ao c hb hr => by rw [he2]; exact inOrder_any hr (by omega) (by decide) (all2 hu (by decide)) (HML.out W hb))
 obtain ⟨x', y', r, hr1, hr2, _, _⟩ := fin_loss (es := [e1, e2]) (x := x) (y := y) (m := m)
 have K3 := Lib.hid (show ∀ W ao c, Below (((w.alloc (.cells #[.string f, .string d] 24)).alloc (.cells #[.string u] 22)).alloc (.cells #[.string ⟨#[]⟩, .string ⟨#[]⟩] 24)).heap.size (((w.alloc (.cells #[.string f, .string d] 24)).alloc (.cells #[.string u] 22)).alloc (.cells #[.string ⟨#[]⟩, .string ⟨#[]⟩] 24)) W → ER W ao 2 [e1, e2] → Calls Tryz.prog 84 #[.func (.func 88) #[] #[.pointer (some ⟨w.heap.size, 0, none⟩), .pointer (some ⟨w.heap.size + 1, 0, none⟩)], .slice ao 2 c] W (fun e w' => e = .returned (.tuple #[.agg #[.string x', .string y'], .int .i64 r]) ∧ Below W.heap.size W w') from fun W ao c hb he => by
  have h := attempt_loss_any (g := 88) (cap := #[.pointer (some ⟨w.heap.size, 0, none⟩), .pointer (some ⟨w.heap.size + 1, 0, none⟩)]) (f := x) (d := y) (m := m) (c := c) he (by omega) (fun h W2 hb2 => by
   have hB2 := hb.trans (hb2.mono hb.size)
   have q := r1'.below hB2
   exact hg (fstL_zero h e1 (by simp)) (fstL_zero h e2 (by simp)) W2 _ _ (hbb.trans (hB2.mono hbb.size)) q.c0 q.c1 q.lt ((hB2.cell (p := ⟨w.heap.size + 1, 0, none⟩) z2).trans k2) (Nat.lt_of_lt_of_le z2 hB2.size)) (fun W => by simp [go_sem])
  unfold Fin at h
  rw [hr1, hr2] at h
  exact h)
 have HB0 := Lib.hid hbb
 have HR := Lib.hid (And.intro r1' (And.intro r3 (And.intro k2 z2)))
 unfold Fin
 rw [hr1, hr2]
 clear r1 hb1 hb2 r3 hb3 hbb r1' k2 z2 hr1 hr2 he1 he2 hg hf hd hm hu
 go_enter Tryz.func25, Tryz.ntmps25
 go_wp2_with fail
 refine wp_world (Below.refl (((w.alloc (.cells #[.string f, .string d] 24)).alloc (.cells #[.string u] 22)).alloc (.cells #[.string ⟨#[]⟩, .string ⟨#[]⟩] 24)).heap.size (((w.alloc (.cells #[.string f, .string d] 24)).alloc (.cells #[.string u] 22)).alloc (.cells #[.string ⟨#[]⟩, .string ⟨#[]⟩] 24))) (fun wx hbx => ?_)
 have HBX2 := Lib.hid hbx
 have q1 := HR.out.1.below hbx
 have q3 := HR.out.2.1.below hbx
 have q2 := (hbx.cell (p := ⟨w.heap.size + 1, 0, none⟩) HR.out.2.2.2).trans HR.out.2.2.1
 have z2 := Nat.lt_of_lt_of_le HR.out.2.2.2 hbx.size
 have HQ := Lib.hid (show ∀ W, SX wx (w.heap.size + 2) W → W.cell? ⟨w.heap.size, 0, none⟩ = some (.string f) ∧ W.cell? ⟨w.heap.size, 1, none⟩ = some (.string d) ∧ W.cell? ⟨w.heap.size + 1, 0, none⟩ = some (.string u) from fun W h =>
  ⟨(h.cell (p := ⟨w.heap.size, 0, none⟩) q1.lt (by show w.heap.size ≠ w.heap.size + 2; omega)).trans q1.c0, (h.cell (p := ⟨w.heap.size, 1, none⟩) q1.lt (by show w.heap.size ≠ w.heap.size + 2; omega)).trans q1.c1, (h.cell (p := ⟨w.heap.size + 1, 0, none⟩) z2 (by show w.heap.size + 1 ≠ w.heap.size + 2; omega)).trans q2⟩)
 have HQ3 := Lib.hid q3
 clear hbx q1 q2 q3 z2
 refine wp_region_held (S := fun W => SX wx (w.heap.size + 2) W) (by kernel_rfl) ?_
 change wpAnyH _ _ _ _ _ 12 _ _ wx.drew
 have hD0 := (Below.refl wx.heap.size wx).drew
 generalize wx.drew = W at *
 refine wpHz_take (i := 0) (d := 6) (v := .func (.func 88) #[] #[.pointer (some ⟨w.heap.size, 0, none⟩), .pointer (some ⟨w.heap.size + 1, 0, none⟩)]) rfl rfl (by kernel_rfl) (by kernel_rfl) (by kernel_rfl) (fun _ _ _ h => h) rfl (fun W _ => by go_simp) (SX.of hD0) ?_
 simp only [Act.put, sA, sB, sC]
 refine wpHz_take (i := 1) (d := 7) (v := .agg #[.string f, .string d]) rfl rfl (by kernel_rfl) (by kernel_rfl) (by kernel_rfl) (fun _ _ _ h => h) rfl (fun W hW => by have e0 := (HQ.out W hW).1; have e1 := (HQ.out W hW).2.1; go_simp) (SX.of hD0) ?_
 simp only [Act.put, sA, sB, sC]
 refine wpHz_take (i := 3) (d := 9) (v := .string u) rfl rfl (by kernel_rfl) (by kernel_rfl) (by kernel_rfl) (fun _ _ _ h => h) rfl (fun W hW => by have e0 := (HQ.out W hW).2.2; go_simp) (SX.of hD0) ?_
 simp only [Act.put, sA, sB, sC]
 refine wpHz_two (i := 2) (j := 4) (by kernel_rfl) ?wa ?wb
 case' wa =>
  refine wpOz_run rfl rfl (wpz_enter (d := 8) rfl (by go_simp) ((K1.out _ (HB0.out.trans ((HBX2.out.trans (hD0.mono HBX2.out.size)).mono HB0.out.size))).mono ?_))
  rintro e u1 ⟨rfl, hb⟩
  have hD1 : Below wx.heap.size wx u1 := hD0.trans (hb.mono hD0.size)
  clear hb
  refine ⟨_, rfl, SX.of hD1, ?_⟩
  simp only [Act.put, sA, sB, sC]
  refine wpHz_one (i := 4) (by kernel_rfl) ?_
  have hD2 : Below wx.heap.size wx (u1.alloc (.cells #[.string u, .string ⟨#[49]⟩] 22)) := hD1.alloc hD1.size _
  refine wpOz_run rfl rfl (wpz_value (v := .slice (some ⟨u1.heap.size, 0, none⟩) 2 2) (w' := u1.alloc (.cells #[.string u, .string ⟨#[49]⟩] 22)) (d := 10) rfl (by go_simp) ⟨SX.of hD2, ?_⟩)
  simp only [Act.put, sA, sB, sC]
  have hSR : SR (u1.alloc (.cells #[.string u, .string ⟨#[49]⟩] 22)) (some ⟨u1.heap.size, 0, none⟩) 2 [u, ⟨#[49]⟩] := SR.lit (xs := [u, ⟨#[49]⟩])
  generalize u1.heap.size = g at hSR ⊢
  generalize u1.alloc (.cells #[.string u, .string ⟨#[49]⟩] 22) = u2 at hSR hD2 ⊢
 case' wb =>
  have hD1 : Below wx.heap.size wx (W.alloc (.cells #[.string u, .string ⟨#[49]⟩] 22)) := hD0.alloc hD0.size _
  refine wpOz_run rfl rfl (wpz_value (v := .slice (some ⟨W.heap.size, 0, none⟩) 2 2) (w' := W.alloc (.cells #[.string u, .string ⟨#[49]⟩] 22)) (d := 10) rfl (by go_simp) ⟨SX.of hD1, ?_⟩)
  simp only [Act.put, sA, sB, sC]
  have hSR : SR (W.alloc (.cells #[.string u, .string ⟨#[49]⟩] 22)) (some ⟨W.heap.size, 0, none⟩) 2 [u, ⟨#[49]⟩] := SR.lit (xs := [u, ⟨#[49]⟩])
  generalize W.heap.size = g at hSR ⊢
  generalize W.alloc (.cells #[.string u, .string ⟨#[49]⟩] 22) = W1 at hSR hD1 ⊢
  refine wpHz_one (i := 2) (by kernel_rfl) ?_
  refine wpOz_run rfl rfl (wpz_enter (d := 8) rfl (by go_simp) ((K1.out _ (HB0.out.trans ((HBX2.out.trans (hD1.mono HBX2.out.size)).mono HB0.out.size))).mono ?_))
  rintro e u2 ⟨rfl, hb⟩
  have hD2 : Below wx.heap.size wx u2 := hD1.trans (hb.mono hD1.size)
  have hb2 := hb
  clear hb
  refine ⟨_, rfl, SX.of hD2, ?_⟩
  simp only [Act.put, sA, sB, sC]
  have hSR := hSR.below hb2
 all_goals (
  refine wpHz_one (i := 5) (by kernel_rfl) ?_
  refine wpOz_run rfl rfl (wpz_enter (d := 11) rfl (by go_simp) ((K2.out _ _ 2 (HB0.out.trans ((HBX2.out.trans (hD2.mono HBX2.out.size)).mono HB0.out.size)) hSR).mono ?_))
  rintro e u3 ⟨rfl, hb⟩
  have hD3 : Below wx.heap.size wx u3 := hD2.trans (hb.mono hD2.size)
  clear hb
  refine ⟨_, rfl, SX.of hD3, ?_⟩
  simp only [Act.put, sA, sB, sC]
  refine wpHz_one (i := 6) (by kernel_rfl) ?_
  have hD4 : Below wx.heap.size wx (u3.alloc (.cells #[.int .i64 e1, .int .i64 e2] 27)) := hD3.alloc hD3.size _
  refine wpOz_run rfl rfl (wpz_value (v := .slice (some ⟨u3.heap.size, 0, none⟩) 2 2) (w' := u3.alloc (.cells #[.int .i64 e1, .int .i64 e2] 27)) (d := 12) rfl (by go_simp) ⟨SX.of hD4, ?_⟩)
  simp only [Act.put, sA, sB, sC]
  refine wpHz_one (i := 7) (by kernel_rfl) ?_
  refine wpOz_run rfl rfl (wpz_enter (d := 13) rfl (by go_simp) ((K3.out _ _ 2 (HBX2.out.trans (hD4.mono HBX2.out.size)) (ER.lit (es := [e1, e2]))).mono ?_))
  rintro e u4 ⟨rfl, hb⟩
  have hD5 : Below wx.heap.size wx u4 := hD4.trans (hb.mono hD4.size)
  clear hb
  refine ⟨_, rfl, SX.of hD5, ?_⟩
  simp only [Act.put, sA, sB, sC]
  refine wpHz_take (i := 8) (d := 14) (v := .agg #[.string x', .string y']) rfl rfl (by kernel_rfl) (by kernel_rfl) (by kernel_rfl) (fun _ _ _ h => h) rfl (fun W _ => by go_simp) (SX.of hD5) ?_
  simp only [Act.put, sA, sB, sC]
  refine wpHz_take (i := 9) (d := 15) (v := .int .i64 r) rfl rfl (by kernel_rfl) (by kernel_rfl) (by kernel_rfl) (fun _ _ _ h => h) rfl (fun W _ => by go_simp) (SX.of hD5) ?_
  simp only [Act.put, sA, sB, sC]
  have q4 := HQ3.out.below hD5
  have HE := Lib.hid (((HB0.out.trans ((HBX2.out.trans (hD5.mono HBX2.out.size)).mono HB0.out.size)).setCell (p := ⟨w.heap.size + 2, 0, none⟩) (by show w.heap.size ≤ w.heap.size + 2; omega) (.string x')).setCell (p := ⟨w.heap.size + 2, 1, none⟩) (by show w.heap.size ≤ w.heap.size + 2; omega) (.string y'))
  obtain ⟨_, _, c0, c1, z0, z1⟩ := q4
  refine wpHz_one (i := 10) (by kernel_rfl) ?_
  refine wpOz_run rfl rfl (wpz_skip (w' := (u4.setCell ⟨w.heap.size + 2, 0, none⟩ (.string x')).setCell ⟨w.heap.size + 2, 1, none⟩ (.string y')) rfl (by go_simp) ⟨SX.put hD5 _ _, ?_⟩)
  have hS := SX.put (b := w.heap.size + 2) hD5 (.string x') (.string y')
  refine wpHz_take (i := 11) (d := 5) (v := .int .i64 r) rfl rfl (by kernel_rfl) (by kernel_rfl) (by kernel_rfl) (fun _ _ _ h => h) rfl (fun W _ => by go_simp) hS ?_
  simp only [Act.put, sA, sB, sC]
  refine wpAnyH_done (by kernel_rfl) ?_ _
  clear hS K1 K2 K3 hD0 hD2 hD3 hD4 hD5 HML
  clear HBX2 HQ HQ3 HR HB0
  go_wp2_with fail
  refine bodyPost_ret (v := .tuple #[.agg #[.string x', .string y'], .int .i64 r]) (by simp [results, Tryz.results25, go_sem, c0, c1]) rfl ?_
  exact ⟨rfl, HE.out⟩)
end
section
open Go.RowKit NV
theorem RB.set {w W : World} {b : Nat} {s t : ByteArray} (h : RB w W b s t) (s' t' : ByteArray) : RB w ((W.setCell ⟨b, 0, none⟩ (.string s')).setCell ⟨b, 1, none⟩ (.string t')) b s' t' := by
 have e01 : (⟨b, 0, none⟩ : Addr) ≠ ⟨b, 1, none⟩ := fun e => by cases e
 have c1 : (W.setCell ⟨b, 0, none⟩ (.string s')).cell? ⟨b, 1, none⟩ = some (.string t) := (World.cell?_setCell_other _ _ _ _ e01).trans h.c1
 have c0 : (W.setCell ⟨b, 0, none⟩ (.string s')).cell? ⟨b, 0, none⟩ = some (.string s') := World.cell?_setCell_same _ _ _ h.c0
 refine ⟨by simpa [World.setCell] using h.lt, h.ge, (World.cell?_setCell_other _ _ _ _ e01.symm).trans c0, World.cell?_setCell_same _ _ _ c1, ?_, ?_⟩
 ·simpa using h.z0
 ·simpa using h.z1
theorem RB.other {w W : World} {b b' : Nat} {s t : ByteArray} (h : RB w W b s t) (hne : b' ≠ b) (u v : Value) : RB w ((W.setCell ⟨b', 0, none⟩ u).setCell ⟨b', 1, none⟩ v) b s t := by
 have e (i j : Nat) : (⟨b', i, none⟩ : Addr) ≠ ⟨b, j, none⟩ := fun e => hne (congrArg Addr.block e)
 refine ⟨by simpa [World.setCell] using h.lt, h.ge, ?_, ?_, ?_, ?_⟩
 ·exact ((World.cell?_setCell_other _ _ _ _ (e _ _)).trans (World.cell?_setCell_other _ _ _ _ (e _ _))).trans h.c0
 ·exact ((World.cell?_setCell_other _ _ _ _ (e _ _)).trans (World.cell?_setCell_other _ _ _ _ (e _ _))).trans h.c1
 ·simpa using h.z0
 ·simpa using h.z1
set_option maxHeartbeats 6400000 in
set_option maxRecDepth 100000 in
theorem lfold_any {g : Nat} {L : List MI} {n k c : Nat} {ao : Option Addr} {st : Nat → ByteArray × ByteArray} {m : Int} {w : World} (hr : MR w ao n L) (hn : n ≤ 1000000) (hk : k ≤ n) (hm : k < n → m ≠ 0) (h0 : k = n → m = 0)
  (eg : ∀ args W, (callFunc g args).run Tryz.prog W = .ok (.enter g args) W)
  (hok : ∀ i x W, i < k → L[i]? = some x → Below w.heap.size w W → Calls Tryz.prog g #[.agg #[.string (st i).1, .string (st i).2], .agg #[.string x.1, .string x.2]] W (Dl (st (i + 1)).1 (st (i + 1)).2 0 W))
  (hno : ∀ x W, k < n → L[k]? = some x → Below w.heap.size w W → Calls Tryz.prog g #[.agg #[.string (st k).1, .string (st k).2], .agg #[.string x.1, .string x.2]] W (Dl ⟨#[]⟩ ⟨#[]⟩ m W)) :
  Calls Tryz.prog 156 #[.slice ao n c, .agg #[.string (st 0).1, .string (st 0).2], .func (.func g) #[] #[]] w (Dl (st n).1 (st n).2 m w) := by
 have r1 : RB w (w.alloc (.cells #[.string (st 0).1, .string (st 0).2] 92)) w.heap.size (st 0).1 (st 0).2 := RB.new (Nat.le_refl _)
 have hb1 := (Below.refl w.heap.size w).alloc (Nat.le_refl _) (.cells #[.string (st 0).1, .string (st 0).2] 92)
 obtain ⟨V1, hV1⟩ : ∃ V1, V1 = w.alloc (.cells #[.string (st 0).1, .string (st 0).2] 92) := ⟨_, rfl⟩
 have hs1 : V1.heap.size = w.heap.size + 1 := by rw [hV1]; simp
 have r2 : RB w (V1.alloc (.cells #[.string ⟨#[]⟩, .string ⟨#[]⟩] 92)) (w.heap.size + 1) ⟨#[]⟩ ⟨#[]⟩ := by
  have h := RB.new (w := w) (W := V1) (s := ⟨#[]⟩) (t := ⟨#[]⟩) (ty := 92) (by omega)
  rwa [hs1] at h
 rw [← hV1] at r1 hb1
 have hb2 := (Below.refl V1.heap.size V1).alloc (Nat.le_refl _) (.cells #[.string ⟨#[]⟩, .string ⟨#[]⟩] 92)
 have HB0 := Lib.hid (And.intro (hb1.trans (hb2.mono hb1.size)) (And.intro (r1.below hb2) r2))
 subst hV1
 have HR := Lib.hid (fun W (hb : Below w.heap.size w W) => hr.below hb)
 have HOK := Lib.hid hok
 have HNO := Lib.hid hno
 have HM := Lib.hid (And.intro hm h0)
 clear r1 hb1 r2 hb2 hs1 hr hok hno hm h0
 obtain ⟨s0, hs0⟩ : ∃ s0, s0 = (st 0).1 := ⟨_, rfl⟩
 obtain ⟨t0, ht0⟩ : ∃ t0, t0 = (st 0).2 := ⟨_, rfl⟩
 rw [← hs0, ← ht0] at HB0 ⊢
 have H00 := Lib.hid (And.intro hs0 ht0)
 clear hs0 ht0
 go_enter Tryz.func156, Tryz.ntmps156
 go_wp2_with fail
 go_loopw [11] (fun iv wr => ∃ i : Nat, i ≤ k ∧ iv = .int .i64 (i : Int) ∧ Hid (Below w.heap.size w wr ∧ RB w wr w.heap.size (st i).1 (st i).2 ∧ RB w wr (w.heap.size + 1) ⟨#[]⟩ ⟨#[]⟩)) (fun iv _ => n - (intOf iv).toNat)
 case atStart => exact ⟨0, Nat.zero_le _, rfl, by rw [← H00.out.1, ← H00.out.2]; exact HB0⟩
 case round =>
  obtain ⟨i, hi, rfl, HI⟩ := hrel
  by_cases hlt : i < n
  ·obtain ⟨a, x, rfl, hx, _, c0, c1⟩ := (HR.out wr HI.out.1).at hlt
   obtain ⟨x1, x2⟩ := x
   have hbA := (Below.refl wr.heap.size wr).alloc (Nat.le_refl _) (.cells #[.string x1, .string x2] 24)
   have hbW := HI.out.1.trans (hbA.mono HI.out.1.size)
   have q1 := HI.out.2.1.below hbA
   have q2 := HI.out.2.2.below hbA
   have k0 := q1.c0
   have k1 := q1.c1
   have HX := Lib.hid hx
   have HQ := Lib.hid (And.intro hbW (And.intro q1 q2))
   clear hbA hbW q1 q2 HI hx
   obtain ⟨a1, ha1⟩ : ∃ a1, a1 = (st i).1 := ⟨_, rfl⟩
   obtain ⟨a2, ha2⟩ : ∃ a2, a2 = (st i).2 := ⟨_, rfl⟩
   rw [← ha1] at k0
   rw [← ha2] at k1
   have HA := Lib.hid (And.intro ha1 ha2)
   clear ha1 ha2
   by_cases hik : i < k
   ·have HS := Lib.hid (HOK.out i (x1, x2) _ hik HX.out HQ.out.1)
    rw [← HA.out.1, ← HA.out.2] at HS
    go_wp2_with fail
    refine HS.out.mono ?_
    rintro e w2 ⟨hrr, hb⟩
    have HQ2 := Lib.hid (And.intro (HQ.out.1.trans (hb.mono HQ.out.1.size)) (And.intro (HQ.out.2.1.below hb) (HQ.out.2.2.below hb)))
    clear hb HS k0 k1 HQ
    rcases hrr with ⟨_, rfl⟩ | ⟨h, _⟩
    ·obtain ⟨_, _, k0, k1, z0, z1⟩ := HQ2.out.2.1
     obtain ⟨b1, hb1⟩ : ∃ b1, b1 = (st (i + 1)).1 := ⟨_, rfl⟩
     obtain ⟨b2, hb2⟩ : ∃ b2, b2 = (st (i + 1)).2 := ⟨_, rfl⟩
     have HN := Lib.hid (show Below w.heap.size w ((w2.setCell ⟨w.heap.size, 0, none⟩ (.string b1)).setCell ⟨w.heap.size, 1, none⟩ (.string b2)) ∧ RB w ((w2.setCell ⟨w.heap.size, 0, none⟩ (.string b1)).setCell ⟨w.heap.size, 1, none⟩ (.string b2)) w.heap.size b1 b2 ∧ RB w ((w2.setCell ⟨w.heap.size, 0, none⟩ (.string b1)).setCell ⟨w.heap.size, 1, none⟩ (.string b2)) (w.heap.size + 1) ⟨#[]⟩ ⟨#[]⟩ from
      ⟨(HQ2.out.1.setCell (p := ⟨w.heap.size, 0, none⟩) (Nat.le_refl _) _).setCell (p := ⟨w.heap.size, 1, none⟩) (Nat.le_refl _) _, HQ2.out.2.1.set _ _, HQ2.out.2.2.other (by omega) _ _⟩)
     rw [← hb1, ← hb2]
     have HBB := Lib.hid (And.intro hb1 hb2)
     clear hb1 hb2
     go_wp2_with fail
     go_roundw
     case rel => exact ⟨i + 1, by omega, by go_num, by rw [← HBB.out.1, ← HBB.out.2]; exact HN⟩
     case measure => simp [intOf]; omega
    ·exact absurd rfl h
   ·obtain rfl : i = k := by omega
    have HS := Lib.hid (HNO.out (x1, x2) _ hlt HX.out HQ.out.1)
    rw [← HA.out.1, ← HA.out.2] at HS
    have HMM := Lib.hid (HM.out.1 hlt)
    go_wp2_with fail
    refine HS.out.mono ?_
    rintro e w2 ⟨hrr, hb⟩
    have HQ2 := Lib.hid (HQ.out.1.trans (hb.mono HQ.out.1.size))
    clear hb HS k0 k1 HQ
    rcases hrr with ⟨h, _⟩ | ⟨h, rfl⟩
    ·exact absurd h HMM.out
    ·have HE := Lib.hid (show Dl (st n).1 (st n).2 m w _ _ from ⟨.inr ⟨h, rfl⟩, HQ2.out⟩)
     clear h HMM HM
     go_wp2_with fail
     exact ⟨rfl, HE.out⟩
  ·obtain rfl : i = n := by omega
   obtain rfl : i = k := by omega
   have HZ := Lib.hid (HM.out.2 rfl)
   obtain ⟨_, _, k0, k1, _, _⟩ := HI.out.2.1
   obtain ⟨_, _, c0, c1, z0, z1⟩ := HI.out.2.2
   have HE := Lib.hid ((HI.out.1.setCell (p := ⟨w.heap.size + 1, 0, none⟩) (Nat.le_succ _) (.string (st i).1)).setCell (p := ⟨w.heap.size + 1, 1, none⟩) (Nat.le_succ _) (.string (st i).2))
   clear HM HOK HNO HI HB0 H00
   go_wp2_with fail
   refine bodyPost_ret (v := .agg #[.string (st i).1, .string (st i).2]) (by simp [results, Tryz.results156, go_sem, c0, c1]) rfl ?_
   exact ⟨.inl ⟨HZ.out, rfl⟩, HE.out⟩
end
section
open Go.RowKit NV
theorem none_ret (w : World) : Calls Tryz.prog 91 #[] w fun e w' => e = .returned (.agg #[.string ⟨#[49]⟩, .string ⟨#[48]⟩]) ∧ Below w.heap.size w w' :=
 (none_any w).mono (by
  rintro e w' ⟨⟨_, rfl⟩ | ⟨h, _⟩, hb⟩
  ·exact ⟨rfl, hb⟩
  ·exact absurd rfl h)
set_option maxHeartbeats 6400000 in
set_option maxRecDepth 100000 in
theorem folded_clo {g n c bl bs : Nat} {ao : Option Addr} {x y : ByteArray} {m : Int} {w : World} (h0 : w.cell? ⟨bl, 0, none⟩ = some (.slice ao n c)) (hl : bl < w.heap.size) (h1 : w.cell? ⟨bs, 0, none⟩ = some (.func (.func g) #[] #[])) (hs : bs < w.heap.size)
  (hg : ∀ W, Below w.heap.size w W → Calls Tryz.prog 156 #[.slice ao n c, .agg #[.string ⟨#[49]⟩, .string ⟨#[48]⟩], .func (.func g) #[] #[]] W (Dl x y m W)) :
  Calls Tryz.prog 155 #[.pointer (some ⟨bl, 0, none⟩), .pointer (some ⟨bs, 0, none⟩)] w (Dl x y m w) := by
 have hb0 := (Below.refl w.heap.size w).alloc (Nat.le_refl _) (.cells #[.string ⟨#[]⟩, .string ⟨#[]⟩] 24)
 have r0 : RB w (w.alloc (.cells #[.string ⟨#[]⟩, .string ⟨#[]⟩] 24)) w.heap.size ⟨#[]⟩ ⟨#[]⟩ := RB.new (Nat.le_refl _)
 have HG := Lib.hid hg
 have HB0 := Lib.hid hb0
 have HR := Lib.hid r0
 have HC := Lib.hid (And.intro h0 (And.intro hl (And.intro h1 hs)))
 have hfb := field_b x y
 clear hb0 r0 hg h0 h1 hl hs
 go_enter Tryz.func155, Tryz.ntmps155
 go_wp2_with fail
 refine wp_world (Below.refl (w.alloc (.cells #[.string ⟨#[]⟩, .string ⟨#[]⟩] 24)).heap.size (w.alloc (.cells #[.string ⟨#[]⟩, .string ⟨#[]⟩] 24))) (fun wx hbx => ?_)
 have HBX2 := Lib.hid hbx
 have q3 := HR.out.below hbx
 have hbw := HB0.out.trans (hbx.mono HB0.out.size)
 have HQ := Lib.hid (show ∀ W, SX wx (w.heap.size) W → W.cell? ⟨bl, 0, none⟩ = some (.slice ao n c) ∧ W.cell? ⟨bs, 0, none⟩ = some (.func (.func g) #[] #[]) from fun W h =>
  ⟨((h.cell (p := ⟨bl, 0, none⟩) (Nat.lt_of_lt_of_le HC.out.2.1 hbw.size) (Nat.ne_of_lt HC.out.2.1)).trans (hbw.cell HC.out.2.1)).trans HC.out.1, ((h.cell (p := ⟨bs, 0, none⟩) (Nat.lt_of_lt_of_le HC.out.2.2.2 hbw.size) (Nat.ne_of_lt HC.out.2.2.2)).trans (hbw.cell HC.out.2.2.2)).trans HC.out.2.2.1⟩)
 have HQ3 := Lib.hid q3
 clear hbx q3 hbw
 refine wp_region_held (S := fun W => SX wx (w.heap.size) W) (by kernel_rfl) ?_
 change wpAnyH _ _ _ _ _ 7 _ _ wx.drew
 have hD0 := (Below.refl wx.heap.size wx).drew
 generalize wx.drew = W at *
 refine wpHz_take (i := 0) (d := 3) (v := .slice ao n c) rfl rfl (by kernel_rfl) (by kernel_rfl) (by kernel_rfl) (fun _ _ _ h => h) rfl (fun W hW => by have e0 := (HQ.out W hW).1; go_simp) (SX.of hD0) ?_
 simp only [Act.put, sA, sB, sC]
 refine wpHz_take (i := 3) (d := 6) (v := .func (.func g) #[] #[]) rfl rfl (by kernel_rfl) (by kernel_rfl) (by kernel_rfl) (fun _ _ _ h => h) rfl (fun W hW => by have e0 := (HQ.out W hW).2; go_simp) (SX.of hD0) ?_
 simp only [Act.put, sA, sB, sC]
 refine wpHz_one (i := 1) (by kernel_rfl) ?_
 refine wpOz_run rfl rfl (wpz_enter (d := 4) rfl (by go_simp) ((none_ret _).mono ?_))
 rintro e u1 ⟨rfl, hb⟩
 have hD1 : Below wx.heap.size wx u1 := hD0.trans (hb.mono hD0.size)
 clear hb
 refine ⟨_, rfl, SX.of hD1, ?_⟩
 simp only [Act.put, sA, sB, sC]
 refine wpHz_take (i := 2) (d := 5) (v := .agg #[.string ⟨#[49]⟩, .string ⟨#[48]⟩]) rfl rfl (by kernel_rfl) (by kernel_rfl) (by kernel_rfl) (fun _ _ _ h => h) rfl (fun W _ => by go_simp) (SX.of hD1) ?_
 simp only [Act.put, sA, sB, sC]
 refine wpHz_one (i := 4) (by kernel_rfl) ?_
 refine wpOz_run rfl rfl (wpz_enterP (d := 7) rfl (by go_simp) ((HG.out _ (HB0.out.trans ((HBX2.out.trans (hD1.mono HBX2.out.size)).mono HB0.out.size))).mono ?_))
 rintro e u2 ⟨hr, hb⟩
 have hD2 : Below wx.heap.size wx u2 := hD1.trans (hb.mono hD1.size)
 clear hb
 rcases Or.symm hr with ⟨hn, rfl⟩ | ⟨hz, rfl⟩
 ·exact .inr ⟨_, rfl, rfl, (show Dl x y m w _ _ from ⟨.inr ⟨hn, rfl⟩, (HB0.out.trans ((HBX2.out.trans (hD2.mono HBX2.out.size)).mono HB0.out.size))⟩)⟩
 refine .inl ⟨_, rfl, SX.of hD2, ?_⟩
 simp only [Act.put, sA, sB, sC]
 refine wpHz_take (i := 5) (d := 8) (v := .agg #[.string x, .string y]) rfl rfl (by kernel_rfl) (by kernel_rfl) (by kernel_rfl) (fun _ _ _ h => h) rfl (fun W _ => by go_simp) (SX.of hD2) ?_
 simp only [Act.put, sA, sB, sC]
 have q4 := HQ3.out.below hD2
 have HE := Lib.hid (((HB0.out.trans ((HBX2.out.trans (hD2.mono HBX2.out.size)).mono HB0.out.size)).setCell (p := ⟨w.heap.size, 0, none⟩) (Nat.le_refl _) (.string x)).setCell (p := ⟨w.heap.size, 1, none⟩) (Nat.le_refl _) (.string y))
 obtain ⟨_, _, c0, c1, z0, z1⟩ := q4
 refine wpHz_one (i := 6) (by kernel_rfl) ?_
 refine wpOz_run rfl rfl (wpz_skip (w' := (u2.setCell ⟨w.heap.size, 0, none⟩ (.string x)).setCell ⟨w.heap.size, 1, none⟩ (.string y)) rfl (by go_simp) ⟨SX.put hD2 _ _, ?_⟩)
 refine wpAnyH_done (by kernel_rfl) ?_ _
 have HZ := Lib.hid hz
 clear hz hD0 hD1 hD2 HBX2 HQ HQ3 HR HB0 HG HC
 go_wp2_with fail
 refine bodyPost_ret (v := .agg #[.string x, .string y]) (by simp [results, Tryz.results155, go_sem, c0, c1]) rfl ?_
 exact ⟨.inl ⟨HZ.out, rfl⟩, HE.out⟩
def ces (L : List MI) (k : Nat) : List Int := (L.take k).map fun x => chkL x.1 x.2
theorem ces_len {L : List MI} {k : Nat} (h : k ≤ L.length) : (ces L k).length = k := by
 unfold ces
 rw [List.length_map, List.length_take]
 omega
theorem ces_step {L : List MI} {k : Nat} {x : MI} (h : L[k]? = some x) : ces L (k + 1) = ces L k ++ [chkL x.1 x.2] := by
 unfold ces
 rw [List.take_add_one, h]
 simp
theorem infoER : (Tryz.prog.info? 27).map (fun i => (i.zero, i.size, i.bytes)) = some (some (.int .i64 0), 1, 8) := by kernel_rfl
theorem ER.own {W : World} {base n : Nat} {v : Value} {es : List Int} (h : W.ownsRow base 27 1 v n (es.map (Value.int .i64))) (hl : es.length = n) : ∃ ao c, v = .slice ao n c ∧ ER W ao n es := by
 rcases h.2 with ⟨hv, h0⟩ | ⟨g, cl, cur, hv, _, hh, _⟩
 ·exact ⟨none, 0, by rw [hv, h0], hl, .inl h0⟩
 ·subst hv
  refine ⟨_, _, rfl, hl, .inr ⟨_, rfl, (Array.getElem?_eq_some_iff.1 hh).1, fun j x hx => ?_⟩⟩
  exact h.cells (g := g) rfl j _ (by rw [List.getElem?_map, hx]; rfl)
set_option maxHeartbeats 12800000 in
set_option maxRecDepth 100000 in
theorem lfolded_any {g : Nat} {L : List MI} {n c : Nat} {ao : Option Addr} {x y : ByteArray} {m : Int} {w : World} (hr : MR w ao n L) (hn : n ≤ 1000) (hsz : ∀ x, x ∈ L → x.1.size ≤ 1000000 ∧ x.2.size ≤ 1000000) (hm : ML w)
  (hg : fstL (ces L n) = 0 → ∀ W bl bs, Below w.heap.size w W → W.cell? ⟨bl, 0, none⟩ = some (.slice ao n c) → bl < W.heap.size → W.cell? ⟨bs, 0, none⟩ = some (.func (.func g) #[] #[]) → bs < W.heap.size → Calls Tryz.prog 155 #[.pointer (some ⟨bl, 0, none⟩), .pointer (some ⟨bs, 0, none⟩)] W (Dl x y m W)) :
  Calls Tryz.prog 74 #[.func (.func g) #[] #[], .slice ao n c] w (Fin (ces L n) (.agg #[.string x, .string y]) (.agg #[.string ⟨#[]⟩, .string ⟨#[]⟩]) m w) := by
 have hmf : ∀ (fn : Fn) (first cap : Array Value) (w : World), (Instr.makeFunc fn first cap).run Tryz.prog w = .ok (.func fn first cap) w := fun _ _ _ _ => rfl
 obtain ⟨i0, hi, hz0, hz1, hz2⟩ : ∃ i0, Tryz.prog.info? 27 = some i0 ∧ i0.zero = some (.int .i64 0) ∧ i0.size = 1 ∧ i0.bytes = 8 := by
  have h := infoER
  cases hI : Tryz.prog.info? 27 with
  | none => rw [hI] at h; cases h
  | some i => rw [hI] at h; simp only [Option.map_some, Option.some.injEq, Prod.mk.injEq] at h; exact ⟨i, rfl, h.1, h.2.1, h.2.2⟩
 have hb1 := (Below.refl w.heap.size w).alloc (Nat.le_refl _) (.cells #[.func (.func g) #[] #[]] 89)
 have hb2 := (Below.refl (w.alloc (.cells #[.func (.func g) #[] #[]] 89)).heap.size (w.alloc (.cells #[.func (.func g) #[] #[]] 89))).alloc (Nat.le_refl _) (.cells #[.slice ao n c] 36)
 have hb3 := (Below.refl ((w.alloc (.cells #[.func (.func g) #[] #[]] 89)).alloc (.cells #[.slice ao n c] 36)).heap.size ((w.alloc (.cells #[.func (.func g) #[] #[]] 89)).alloc (.cells #[.slice ao n c] 36))).alloc (Nat.le_refl _) (.cells #[.string ⟨#[]⟩, .string ⟨#[]⟩] 24)
 have hbb := hb1.trans ((hb2.trans (hb3.mono hb2.size)).mono hb1.size)
 have r3 : RB w (((w.alloc (.cells #[.func (.func g) #[] #[]] 89)).alloc (.cells #[.slice ao n c] 36)).alloc (.cells #[.string ⟨#[]⟩, .string ⟨#[]⟩] 24)) (w.heap.size + 2) ⟨#[]⟩ ⟨#[]⟩ := by
  have h := RB.new (w := w) (W := ((w.alloc (.cells #[.func (.func g) #[] #[]] 89)).alloc (.cells #[.slice ao n c] 36))) (s := ⟨#[]⟩) (t := ⟨#[]⟩) (ty := 24) (by simp; omega)
  simpa using h
 have s3 : (((w.alloc (.cells #[.func (.func g) #[] #[]] 89)).alloc (.cells #[.slice ao n c] 36)).alloc (.cells #[.string ⟨#[]⟩, .string ⟨#[]⟩] 24)).heap.size = w.heap.size + 3 := by simp
 have k1 : (((w.alloc (.cells #[.func (.func g) #[] #[]] 89)).alloc (.cells #[.slice ao n c] 36)).alloc (.cells #[.string ⟨#[]⟩, .string ⟨#[]⟩] 24)).cell? ⟨w.heap.size + 1, 0, none⟩ = some (.slice ao n c) := (hb3.cell (p := ⟨w.heap.size + 1, 0, none⟩) (by simp)).trans (by simp)
 have k0 : (((w.alloc (.cells #[.func (.func g) #[] #[]] 89)).alloc (.cells #[.slice ao n c] 36)).alloc (.cells #[.string ⟨#[]⟩, .string ⟨#[]⟩] 24)).cell? ⟨w.heap.size, 0, none⟩ = some (.func (.func g) #[] #[]) := ((hb2.trans (hb3.mono hb2.size)).cell (p := ⟨w.heap.size, 0, none⟩) (by simp)).trans (by simp)
 have HK := Lib.hid (show ∀ W, Below (((w.alloc (.cells #[.func (.func g) #[] #[]] 89)).alloc (.cells #[.slice ao n c] 36)).alloc (.cells #[.string ⟨#[]⟩, .string ⟨#[]⟩] 24)).heap.size (((w.alloc (.cells #[.func (.func g) #[] #[]] 89)).alloc (.cells #[.slice ao n c] 36)).alloc (.cells #[.string ⟨#[]⟩, .string ⟨#[]⟩] 24)) W → Below w.heap.size w W ∧ W.cell? ⟨w.heap.size + 1, 0, none⟩ = some (.slice ao n c) ∧ W.cell? ⟨w.heap.size, 0, none⟩ = some (.func (.func g) #[] #[]) ∧ RB w W (w.heap.size + 2) ⟨#[]⟩ ⟨#[]⟩ ∧ w.heap.size + 3 ≤ W.heap.size from fun W hb =>
  ⟨hbb.trans (hb.mono hbb.size), (hb.cell (p := ⟨w.heap.size + 1, 0, none⟩) (by rw [s3]; show w.heap.size + 1 < _; omega)).trans k1, (hb.cell (p := ⟨w.heap.size, 0, none⟩) (by rw [s3]; show w.heap.size < _; omega)).trans k0, r3.below hb, by have := hb.size; omega⟩)
 have HCK := Lib.hid (fun W (x : MI) (hx : x ∈ L) (hb : Below (((w.alloc (.cells #[.func (.func g) #[] #[]] 89)).alloc (.cells #[.slice ao n c] 36)).alloc (.cells #[.string ⟨#[]⟩, .string ⟨#[]⟩] 24)).heap.size (((w.alloc (.cells #[.func (.func g) #[] #[]] 89)).alloc (.cells #[.slice ao n c] 36)).alloc (.cells #[.string ⟨#[]⟩, .string ⟨#[]⟩] 24)) W) => lCheck_any (w := W) (hsz x hx).1 (hsz x hx).2 (ml_keep hm (ml_pos hm) (HK.out W hb).1))
 have HR := Lib.hid (fun W (hb : Below (((w.alloc (.cells #[.func (.func g) #[] #[]] 89)).alloc (.cells #[.slice ao n c] 36)).alloc (.cells #[.string ⟨#[]⟩, .string ⟨#[]⟩] 24)).heap.size (((w.alloc (.cells #[.func (.func g) #[] #[]] 89)).alloc (.cells #[.slice ao n c] 36)).alloc (.cells #[.string ⟨#[]⟩, .string ⟨#[]⟩] 24)) W) => hr.below (HK.out W hb).1)
 obtain ⟨x', y', r, hr1, hr2, _, _⟩ := fin_loss (es := ces L n) (x := x) (y := y) (m := m)
 have HAT := Lib.hid (show ∀ W ao' c', Below (((w.alloc (.cells #[.func (.func g) #[] #[]] 89)).alloc (.cells #[.slice ao n c] 36)).alloc (.cells #[.string ⟨#[]⟩, .string ⟨#[]⟩] 24)).heap.size (((w.alloc (.cells #[.func (.func g) #[] #[]] 89)).alloc (.cells #[.slice ao n c] 36)).alloc (.cells #[.string ⟨#[]⟩, .string ⟨#[]⟩] 24)) W → ER W ao' n (ces L n) → Calls Tryz.prog 84 #[.func (.func 155) #[] #[.pointer (some ⟨w.heap.size + 1, 0, none⟩), .pointer (some ⟨w.heap.size, 0, none⟩)], .slice ao' n c'] W (fun e w' => e = .returned (.tuple #[.agg #[.string x', .string y'], .int .i64 r]) ∧ Below W.heap.size W w') from fun W ao' c' hb he => by
  have h := attempt_loss_any (g := 155) (cap := #[.pointer (some ⟨w.heap.size + 1, 0, none⟩), .pointer (some ⟨w.heap.size, 0, none⟩)]) (f := x) (d := y) (m := m) (c := c') he (by omega) (fun h W2 hb2 => by
   have hB2 := HK.out W2 (hb.trans (hb2.mono hb.size))
   exact hg h W2 _ _ hB2.1 hB2.2.1 (by omega) hB2.2.2.1 (by omega)) (fun W => by simp [go_sem])
  unfold Fin at h
  rw [hr1, hr2] at h
  exact h)
 have HLEN := Lib.hid hr.1
 have HN := Lib.hid hn
 unfold Fin
 rw [hr1, hr2]
 clear hb1 hb2 hb3 hbb r3 s3 k1 k0 hr1 hr2 hg hsz hm hr
 have c9 := (HK.out _ (Below.refl _ _)).2.1
 go_enter Tryz.func74, Tryz.ntmps74
 go_wp2_with fail
 clear c9
 go_loopw [6, 11] (fun v iv wr => ∃ i : Nat, i ≤ n ∧ iv = .int .i64 (i : Int) ∧ Hid (Below (((w.alloc (.cells #[.func (.func g) #[] #[]] 89)).alloc (.cells #[.slice ao n c] 36)).alloc (.cells #[.string ⟨#[]⟩, .string ⟨#[]⟩] 24)).heap.size (((w.alloc (.cells #[.func (.func g) #[] #[]] 89)).alloc (.cells #[.slice ao n c] 36)).alloc (.cells #[.string ⟨#[]⟩, .string ⟨#[]⟩] 24)) wr ∧ wr.ownsRow (((w.alloc (.cells #[.func (.func g) #[] #[]] 89)).alloc (.cells #[.slice ao n c] 36)).alloc (.cells #[.string ⟨#[]⟩, .string ⟨#[]⟩] 24)).heap.size 27 1 v i ((ces L i).map (Value.int .i64)))) (fun _ iv _ => n - (intOf iv).toNat)
 case atStart => exact ⟨0, Nat.zero_le _, rfl, Lib.hid ⟨Below.refl _ _, World.ownsRow_nil _ _ _ _⟩⟩
 case round =>
  obtain ⟨i, hi', rfl, HI⟩ := hrel
  by_cases hlt : i < n
  ·obtain ⟨a, z, rfl, hx, _, c0, c1⟩ := (HR.out wr HI.out.1).at hlt
   obtain ⟨z1, z2⟩ := z
   have hbA := (Below.refl wr.heap.size wr).alloc (Nat.le_refl _) (.cells #[.string z1, .string z2] 24)
   have hbW := HI.out.1.trans (hbA.mono HI.out.1.size)
   have HC := Lib.hid (HCK.out _ (z1, z2) (List.mem_of_getElem? hx) hbW)
   have HX := Lib.hid (ces_step hx)
   have HW := Lib.hid (And.intro hbW (rowM_below HI.out.2 hbA))
   obtain ⟨so, sc, rfl, _⟩ := rowM_shape HI.out.2
   obtain ⟨e, he⟩ : ∃ e, e = chkL z1 z2 := ⟨_, rfl⟩
   have HE := Lib.hid he
   unfold Er at HC
   rw [← he] at HC
   clear hbA hbW hx he HI
   go_wp2_with fail
   refine HC.out.mono ?_
   rintro e' w2 ⟨rfl, hb⟩
   have HW2 := Lib.hid (And.intro (HW.out.1.trans (hb.mono HW.out.1.size)) (rowM_below HW.out.2 hb))
   have HSZ := Lib.hid (HW2.out.1.size)
   clear hb HC HW c0 c1
   go_wp2_with (at_builtin; refine wpList_append_own _ rfl _ _ 152 rfl (((w.alloc (.cells #[.func (.func g) #[] #[]] 89)).alloc (.cells #[.slice (some a) n c] 36)).alloc (.cells #[.string ⟨#[]⟩, .string ⟨#[]⟩] 24)).heap.size 27 i0 (.int .i64 0) 1 8 Tryz.underlying152 hi hz0 hz1 hz2 rfl (by decide) _ _ _ rfl (HW2.out.2.alloc _) ⟨w2.heap.size, 0, none⟩ 1 1 [.int .i64 e] rfl rfl (World.news_of_block (heap_alloc_new _ _)) (fun u hu => by simp at hu; subst hu; rfl) ?c3 ?c4 ?c5 ?_)
   case c3 => have := HN.out; unfold maxLen; omega
   case c4 => have := HN.out; omega
   case c5 => have := HSZ.out; simp at this ⊢; omega
   intro v' w6 hown' hgrow _
   have hlt5 := HW2.out.2.lt
   have HF := Lib.hid (show Below (((w.alloc (.cells #[.func (.func g) #[] #[]] 89)).alloc (.cells #[.slice (some a) n c] 36)).alloc (.cells #[.string ⟨#[]⟩, .string ⟨#[]⟩] 24)).heap.size (((w.alloc (.cells #[.func (.func g) #[] #[]] 89)).alloc (.cells #[.slice (some a) n c] 36)).alloc (.cells #[.string ⟨#[]⟩, .string ⟨#[]⟩] 24)) w6 ∧ w6.ownsRow (((w.alloc (.cells #[.func (.func g) #[] #[]] 89)).alloc (.cells #[.slice (some a) n c] 36)).alloc (.cells #[.string ⟨#[]⟩, .string ⟨#[]⟩] 24)).heap.size 27 1 v' (i + 1) ((ces L (i + 1)).map (Value.int .i64)) from
    ⟨(HW2.out.1.alloc HW2.out.1.size (.cells #[.int .i64 e] 27)).grown hgrow (by have := HSZ.out; simp at this ⊢; omega) (fun q hq => (hlt5 q hq).1), by rw [HX.out, List.map_append, ← HE.out]; simpa using hown'⟩)
   clear hown' hgrow hlt5 HW2 HSZ
   go_wp2_with fail
   go_roundw
   case rel => exact ⟨i + 1, by omega, by go_num, HF⟩
   case measure => simp [intOf]; omega
  ·obtain rfl : i = n := by omega
   obtain ⟨so, sc, rfl, he⟩ := ER.own HI.out.2 (ces_len (Nat.le_of_eq HLEN.out.symm))
   have HA := Lib.hid (HAT.out wr so sc HI.out.1 he)
   have HQ := Lib.hid HI.out.1
   clear HI he HCK HR HAT
   go_wp2_with fail
   refine HA.out.mono ?_
   rintro e w2 ⟨rfl, hb⟩
   have hq := HK.out w2 (HQ.out.trans (hb.mono HQ.out.size))
   obtain ⟨_, _, c0, c1, z0, z1⟩ := hq.2.2.2.1
   have HE := Lib.hid ((hq.1.setCell (p := ⟨w.heap.size + 2, 0, none⟩) (by show w.heap.size ≤ w.heap.size + 2; omega) (.string x')).setCell (p := ⟨w.heap.size + 2, 1, none⟩) (by show w.heap.size ≤ w.heap.size + 2; omega) (.string y'))
   clear hb hq HA HQ HK
   go_wp2_with fail
   refine bodyPost_ret (v := .tuple #[.agg #[.string x', .string y'], .int .i64 r]) (by simp [results, Tryz.results74, go_sem, c0, c1]) rfl ?_
   exact ⟨rfl, HE.out⟩
end
section
open Go.RowKit NV
theorem MR.litT {w : World} {g : Nat} {L : List MI} {ty : TypeId} (h : w.heap[g]? = some (.cells (cellsZ L).toArray ty (0, 0))) : MR w (some ⟨g, 0, none⟩) L.length L := by
 refine ⟨rfl, ?_⟩
 by_cases h0 : L.length = 0
 ·exact .inl h0
 refine .inr ⟨_, rfl, (Array.getElem?_eq_some_iff.1 h).1, fun j x hx => ?_⟩
 obtain ⟨h1, h2⟩ := cellsZ_get L j x hx
 have hc : ∀ i v, (cellsZ L)[i]? = some v → w.cell? ⟨g, i, none⟩ = some v := fun i v hi => by
  rw [Lib.cell_of_heap h]
  simpa using hi
 have e : (⟨g, 0, none⟩ : Addr).add (j * 2) = ⟨g, j * 2, none⟩ := by rw [Addr.add_lit, Nat.zero_add]
 rw [e]
 exact ⟨hc _ _ h1, hc _ _ h2⟩
set_option maxHeartbeats 6400000 in
set_option maxRecDepth 100000 in
theorem lAdd_any {a1 a2 b1 b2 x y : ByteArray} {m : Int} {w : World} (ha1 : a1.size ≤ 1000000) (ha2 : a2.size ≤ 1000000) (hb1 : b1.size ≤ 1000000) (hb2 : b2.size ≤ 1000000) (hm : ML w)
  (hg : chkL a1 a2 = 0 → chkL b1 b2 = 0 → ∀ W ao c, Below w.heap.size w W → MR W ao 2 [(a1, a2), (b1, b2)] → Calls Tryz.prog 156 #[.slice ao 2 c, .agg #[.string ⟨#[49]⟩, .string ⟨#[48]⟩], .func (.func 75) #[] #[]] W (Dl x y m W)) :
  Calls Tryz.prog 17 #[.agg #[.string a1, .string a2], .agg #[.string b1, .string b2]] w (Fin [chkL a1 a2, chkL b1 b2] (.agg #[.string x, .string y]) (.agg #[.string ⟨#[]⟩, .string ⟨#[]⟩]) m w) := by
 have h1 := (Below.refl w.heap.size w).alloc (Nat.le_refl _) (.cells #[.string a1, .string a2] 24)
 have h2 := h1.alloc h1.size (.cells #[.string b1, .string b2] 24)
 have h3 := h2.alloc h2.size (.cells #[.string ⟨#[]⟩, .string ⟨#[]⟩] 24)
 have h4 := h3.alloc h3.size (.cells #[.string a1, .string a2, .string b1, .string b2] 24)
 have r3 : RB w (((w.alloc (.cells #[.string a1, .string a2] 24)).alloc (.cells #[.string b1, .string b2] 24)).alloc (.cells #[.string ⟨#[]⟩, .string ⟨#[]⟩] 24)) (w.heap.size + 2) ⟨#[]⟩ ⟨#[]⟩ := by
  have h := RB.new (w := w) (W := ((w.alloc (.cells #[.string a1, .string a2] 24)).alloc (.cells #[.string b1, .string b2] 24))) (s := ⟨#[]⟩) (t := ⟨#[]⟩) (ty := 24) (by simp; omega)
  simpa using h
 have r4 := r3.below ((Below.refl (((w.alloc (.cells #[.string a1, .string a2] 24)).alloc (.cells #[.string b1, .string b2] 24)).alloc (.cells #[.string ⟨#[]⟩, .string ⟨#[]⟩] 24)).heap.size (((w.alloc (.cells #[.string a1, .string a2] 24)).alloc (.cells #[.string b1, .string b2] 24)).alloc (.cells #[.string ⟨#[]⟩, .string ⟨#[]⟩] 24))).alloc (Nat.le_refl _) (.cells #[.string a1, .string a2, .string b1, .string b2] 24))
 have hmr : MR ((((w.alloc (.cells #[.string a1, .string a2] 24)).alloc (.cells #[.string b1, .string b2] 24)).alloc (.cells #[.string ⟨#[]⟩, .string ⟨#[]⟩] 24)).alloc (.cells #[.string a1, .string a2, .string b1, .string b2] 24)) (some ⟨(((w.alloc (.cells #[.string a1, .string a2] 24)).alloc (.cells #[.string b1, .string b2] 24)).alloc (.cells #[.string ⟨#[]⟩, .string ⟨#[]⟩] 24)).heap.size, 0, none⟩) 2 [(a1, a2), (b1, b2)] := MR.litT (L := [(a1, a2), (b1, b2)]) (heap_alloc_new (((w.alloc (.cells #[.string a1, .string a2] 24)).alloc (.cells #[.string b1, .string b2] 24)).alloc (.cells #[.string ⟨#[]⟩, .string ⟨#[]⟩] 24)) (.cells #[.string a1, .string a2, .string b1, .string b2] 24))
 have hf := lfolded_any (g := 75) (c := 2) (x := x) (y := y) (m := m) hmr (by omega) (fun z hz => by
  rcases List.mem_cons.1 hz with rfl | hz
  ·exact ⟨ha1, ha2⟩
  ·rcases List.mem_cons.1 hz with rfl | hz
   ·exact ⟨hb1, hb2⟩
   ·cases hz) (ml_keep hm (ml_pos hm) h4) (fun h W bl bs hb c1 l1 c2 l2 => by
  have e1 := fstL_zero (l := [chkL a1 a2, chkL b1 b2]) h (chkL a1 a2) (by simp)
  have e2 := fstL_zero (l := [chkL a1 a2, chkL b1 b2]) h (chkL b1 b2) (by simp)
  exact folded_clo c1 l1 c2 l2 (fun W2 hb2 => hg e1 e2 W2 _ _ (h4.trans ((hb.trans (hb2.mono hb.size)).mono h4.size)) (hmr.below (hb.trans (hb2.mono hb.size)))))
 obtain ⟨x', y', r, hr1, hr2, _, _⟩ := fin_loss (es := [chkL a1 a2, chkL b1 b2]) (x := x) (y := y) (m := m)
 unfold Fin at hf ⊢
 rw [show ces [(a1, a2), (b1, b2)] 2 = [chkL a1 a2, chkL b1 b2] from rfl, hr1, hr2] at hf
 rw [hr1, hr2]
 have hz4 : (((w.alloc (.cells #[.string a1, .string a2] 24)).alloc (.cells #[.string b1, .string b2] 24)).alloc (.cells #[.string ⟨#[]⟩, .string ⟨#[]⟩] 24)).heap.size = w.heap.size + 1 + 1 + 1 := by simp
 rw [hz4] at hf
 have HF := Lib.hid hf
 have HB := Lib.hid (And.intro h4 r4)
 clear hf h1 h2 h3 h4 r3 r4 hmr hz4 hr1 hr2 hg hm ha1 ha2 hb1 hb2
 go_enter Tryz.func17, Tryz.ntmps17
 go_wp2_with fail
 refine HF.out.mono ?_
 rintro e w2 ⟨rfl, hb⟩
 have hbb := HB.out.1.trans (hb.mono HB.out.1.size)
 obtain ⟨_, _, c0, c1, z0, z1⟩ := HB.out.2.below hb
 have HE := Lib.hid ((hbb.setCell (p := ⟨w.heap.size + 2, 0, none⟩) (by show w.heap.size ≤ w.heap.size + 2; omega) (.string x')).setCell (p := ⟨w.heap.size + 2, 1, none⟩) (by show w.heap.size ≤ w.heap.size + 2; omega) (.string y'))
 clear hb hbb HF HB
 go_wp2_with fail
 refine bodyPost_ret (v := .tuple #[.agg #[.string x', .string y'], .int .i64 r]) (by simp [results, Tryz.results17, go_sem, c0, c1]) rfl ?_
 exact ⟨rfl, HE.out⟩
end
section
open Go.RowKit NV
theorem q1L : qstr 1 = ⟨#[49]⟩ := by decide +kernel
theorem oplus_q {p q : Rat} (hp : QOk p) (hq : QOk q) (h : QOk (p + q)) {w : World} (htab : Tab w) (hm : ML w) : Calls Tryz.prog 100 #[.string (qstr p), .string (qstr q)] w (Dn (qstr (p + q), 0) w) := by
 refine plus_d ?_
 have h1 := Add_q p q hp hq w htab hm
 unfold RQ at h1
 rw [wQ_oQ, okQ_yes h] at h1
 exact h1
theorem otimes_q {p q : Rat} (hp : QOk p) (hq : QOk q) (h : QOk (p * q)) {w : World} (htab : Tab w) (hm : ML w) : Calls Tryz.prog 97 #[.string (qstr p), .string (qstr q)] w (Dn (qstr (p * q), 0) w) := by
 refine times_d ?_
 have h1 := Mul_oQ p q hp hq w htab hm
 rw [okQ_yes h] at h1
 exact h1
def mn1 (d : Rat) : Rat := if d < 1 then d else 1
theorem mn1_le {d : Rat} : mn1 d ≤ 1 := by unfold mn1; grind
theorem mn1_nn {d : Rat} (h : 0 ≤ d) : 0 ≤ mn1 d := by unfold mn1; grind
theorem mn1_id {d : Rat} (h : d ≤ 1) : mn1 d = d := by unfold mn1; grind
theorem mn1_ok {d : Rat} (h : QOk d) : QOk (mn1 d) := by
 unfold mn1
 split
 ·exact h
 ·decide +kernel
theorem o1Q : QOk (1 : Rat) := by decide +kernel
theorem o0Q : QOk (0 : Rat) := by decide +kernel
theorem lim_q {F : ByteArray} {d : Rat} (h : QOk d) {w : World} (hm : ∀ W, Below w.heap.size w W → ML W) : Calls Tryz.prog 157 #[.string F, .string (qstr d)] w (Does (.agg #[.string F, .string (qstr (mn1 d))]) 0 w) := by
 refine limited_d (T := (qstr (mn1 d), 0)) fun W hb => ?_
 have h1 := Min_q d 1 h o1Q W (hm W hb)
 rw [q1L] at h1
 have e : (if cmpQ d 1 < 0 then qstr d else (⟨#[49]⟩ : ByteArray)) = qstr (mn1 d) := by
  unfold cmpQ mn1
  by_cases h2 : d < 1
  ·rw [if_pos h2, if_pos h2, if_pos (by decide)]
  ·rw [if_neg h2, if_neg h2, ← q1L]
   by_cases h3 : 1 < d
   ·rw [if_pos h3, if_neg (by decide)]
   ·rw [if_neg h3, if_neg (by decide)]
 rw [e] at h1
 exact h1
structure LQ (F D : Rat) : Prop where
 okF : QOk F
 okD : QOk D
 f1 : 1 ≤ F
 d0 : 0 ≤ D
 d1 : D ≤ 1
theorem cmpQ_pos {p q : Rat} : 0 < cmpQ p q ↔ q < p := by
 unfold cmpQ
 by_cases h1 : p < q
 ·rw [if_pos h1]
  constructor
  ·intro h; exact absurd h (by decide)
  ·intro h; exact absurd h (lt_asymm' h1)
 ·rw [if_neg h1]
  by_cases h2 : q < p
  ·rw [if_pos h2]; exact ⟨fun _ => h2, fun _ => by decide⟩
  ·rw [if_neg h2]
   constructor
   ·intro h; exact absurd h (by decide)
   ·intro h; exact absurd h h2
theorem ord_q {p q : Rat} {l : List ByteArray} (hp : QOk p) (hq : QOk q) : ordE (qstr p) (qstr q :: l) = if q < p then 2 else ordE (qstr q) l := by
 have e : ordE (qstr p) (qstr q :: l) = if (cmpT (qstr p) (qstr q)).2 ≠ 0 then (cmpT (qstr p) (qstr q)).2 else if 0 < (cmpT (qstr p) (qstr q)).1 then 2 else ordE (qstr q) l := rfl
 rw [e, cmpT_q hp hq]
 show (if (0 : Int) ≠ 0 then 0 else if 0 < cmpQ p q then 2 else ordE (qstr q) l) = _
 rw [if_neg (by simp)]
 by_cases h : q < p
 ·rw [if_pos h, if_pos (cmpQ_pos.2 h)]
 ·rw [if_neg h, if_neg (fun h2 => h (cmpQ_pos.1 h2))]
theorem LQ.chk {F D : Rat} (h : LQ F D) : chkL (qstr F) (qstr D) = 0 := by
 unfold chkL
 rw [qstr_chk h.okF, qstr_chk h.okD, ← q1L, ← q0Z, ord_q o1Q h.okF, ord_q o0Q h.okD, ord_q h.okD o1Q]
 have e1 : ¬ F < 1 := Rat.not_lt.2 h.f1
 have e2 : ¬ D < 0 := Rat.not_lt.2 h.d0
 have e3 : ¬ 1 < D := Rat.not_lt.2 h.d1
 rw [if_neg e1, if_neg e2, if_neg e3]
 rfl
theorem sz_q {p : Rat} (h : QOk p) : (qstr p).size ≤ 1000000 := Nat.le_trans (qstr_size h) (by omega)
theorem Dn.ret {s : ByteArray} {w : World} {f : FuncId} {args : Array Value} (h : Calls Tryz.prog f args w (Dn (s, 0) w)) : Calls Tryz.prog f args w fun e w' => e = .returned (.string s) ∧ Below w.heap.size w w' :=
 h.mono (by
  rintro e w' ⟨⟨_, rfl⟩ | ⟨h, _⟩, hb⟩
  ·exact ⟨rfl, hb⟩
  ·exact absurd rfl h)
theorem bplus_q {F D G E : Rat} (hF : QOk F) (hD : QOk D) (hG : QOk G) (hE : QOk E) (h1 : QOk (F * G)) (h2 : QOk (D + E)) {w : World} (htm : ∀ W, Below w.heap.size w W → Tab W ∧ ML W) :
  Calls Tryz.prog 75 #[.agg #[.string (qstr F), .string (qstr D)], .agg #[.string (qstr G), .string (qstr E)]] w (Dl (qstr (F * G)) (qstr (mn1 (D + E))) 0 w) :=
 bplus_d (T1 := (qstr (F * G), 0)) (T2 := (qstr (D + E), 0)) (T3 := (qstr (mn1 (D + E)), 0)) (fun W hb => otimes_q hF hG h1 (htm W hb).1 (htm W hb).2) (fun _ W hb => oplus_q hD hE h2 (htm W hb).1 (htm W hb).2)
  (fun _ _ _ hb => lim_q h2 (fun W2 hb2 => (htm W2 (hb.trans (hb2.mono hb.size))).2))
def Rl (f d : ByteArray) (w : World) (e : Ending) (w' : World) : Prop := e = .returned (.tuple #[.agg #[.string f, .string d], .int .i64 0]) ∧ Below w.heap.size w w'
theorem Fin.rl {es : List Int} {f d : ByteArray} {w : World} {g : FuncId} {args : Array Value} (he : fstL es = 0) (h : Calls Tryz.prog g args w (Fin es (.agg #[.string f, .string d]) (.agg #[.string ⟨#[]⟩, .string ⟨#[]⟩]) 0 w)) : Calls Tryz.prog g args w (Rl f d w) := by
 unfold Fin at h
 rw [if_pos ⟨he, rfl⟩, if_pos he] at h
 exact h
theorem lAdd_q {F D G E : Rat} (ha : LQ F D) (hb : LQ G E) (h1 : QOk (F * G)) (h2 : QOk (D + E)) {w : World} (htm : ∀ W, Below w.heap.size w W → Tab W ∧ ML W) :
  Calls Tryz.prog 17 #[.agg #[.string (qstr F), .string (qstr D)], .agg #[.string (qstr G), .string (qstr E)]] w (Rl (qstr (F * G)) (qstr (mn1 (D + E))) w) := by
 refine Fin.rl (es := [chkL (qstr F) (qstr D), chkL (qstr G) (qstr E)]) (by rw [ha.chk, hb.chk]; rfl) (lAdd_any (sz_q ha.okF) (sz_q ha.okD) (sz_q hb.okF) (sz_q hb.okD) (htm w (Below.refl _ _)).2 fun _ _ W ao c hbw hmr => ?_)
 obtain ⟨st, hst⟩ : ∃ st : Nat → ByteArray × ByteArray, st = fun i => if i = 0 then (⟨#[49]⟩, ⟨#[48]⟩) else if i = 1 then (qstr F, qstr D) else (qstr (F * G), qstr (mn1 (D + E))) := ⟨_, rfl⟩
 have s0 : st 0 = (⟨#[49]⟩, ⟨#[48]⟩) := by rw [hst]; rfl
 have s1 : st 1 = (qstr F, qstr D) := by rw [hst]; rfl
 have s2 : st 2 = (qstr (F * G), qstr (mn1 (D + E))) := by rw [hst]; rfl
 have h := lfold_any (g := 75) (k := 2) (c := c) (st := st) (m := 0) hmr (by omega) (Nat.le_refl _) (fun h => absurd h (by omega)) (fun _ => rfl) (fun args W => by simp [go_sem]) (fun i x W2 hi hx hb2 => ?_) (fun x W2 h => absurd h (by omega))
 ·rw [s0, s2] at h
  exact h
 ·have hW := fun W3 (hb3 : Below W2.heap.size W2 W3) => htm W3 (hbw.trans ((hb2.trans (hb3.mono hb2.size)).mono hbw.size))
  rcases (show i = 0 ∨ i = 1 by omega) with rfl | rfl
  ·obtain rfl : x = (qstr F, qstr D) := (Option.some.inj hx).symm
   rw [s0, s1]
   have h3 := bplus_q (F := 1) (D := 0) o1Q o0Q ha.okF ha.okD (by rw [Rat.one_mul]; exact ha.okF) (by rw [Rat.zero_add]; exact ha.okD) hW
   rw [Rat.one_mul, Rat.zero_add, mn1_id ha.d1, q1L, q0Z] at h3
   exact h3
  ·obtain rfl : x = (qstr G, qstr E) := (Option.some.inj hx).symm
   rw [s1, s2]
   exact bplus_q ha.okF ha.okD hb.okF hb.okD h1 h2 hW
end
section
open Go.RowKit NV
def gs (F : Rat) (k : Nat) : Rat := sm (fun j => F ^ j) k
theorem lGroup_q {F D : Rat} {k : Nat} (ha : LQ F D) (hk : k ≤ 50) (hp : ∀ i, i ≤ k → QOk (F ^ i)) (hs : ∀ i, i ≤ k → QOk (gs F i)) (hd : QOk (D * gs F k)) {w : World} (htm : ∀ W, Below w.heap.size w W → Tab W ∧ ML W) :
  Calls Tryz.prog 23 #[.agg #[.string (qstr F), .string (qstr D)], .int .i64 (k : Int)] w (Rl (qstr (F ^ k)) (qstr (mn1 (D * gs F k))) w) := by
 refine Fin.rl (es := [chkL (qstr F) (qstr D), if (k : Int) < 0 ∨ 50 < (k : Int) then 2 else 0]) (by rw [ha.chk, if_neg (by omega)]; rfl) (lGroup_any (sz_q ha.okF) (sz_q ha.okD) (htm w (Below.refl _ _)).2 fun _ _ W bl bk hbw c0 c1 l1 c2 l2 => group_clo c0 c1 l1 c2 l2 fun W2 hb2 => ?_)
 have hW := fun W3 (hb3 : Below W2.heap.size W2 W3) => htm W3 (hbw.trans ((hb2.trans (hb3.mono hb2.size)).mono hbw.size))
 exact bgroup_d (k := k) (pw := fun i => qstr (F ^ i)) (sg := fun i => qstr (gs F i)) (T1 := (qstr (D * gs F k), 0)) (T2 := (qstr (mn1 (D * gs F k)), 0)) hk (by show qstr (F ^ 0) = _; rw [Rat.pow_zero, q1L]) (by show qstr (gs F 0) = _; rw [show gs F 0 = 0 from rfl, q0Z])
  (fun i W3 hi hb3 => Dn.ret (oplus_q (hs i (by omega)) (hp i (by omega)) (hs (i + 1) (by omega)) (hW W3 hb3).1 (hW W3 hb3).2))
  (fun i W3 hi hb3 => by
   have h := otimes_q (hp i (by omega)) ha.okF (by rw [← Rat.pow_succ]; exact hp (i + 1) (by omega)) (hW W3 hb3).1 (hW W3 hb3).2
   rw [← Rat.pow_succ] at h
   exact Dn.ret h)
  (fun W3 hb3 => otimes_q ha.okD (hs k (Nat.le_refl _)) hd (hW W3 hb3).1 (hW W3 hb3).2)
  (fun _ W3 hb3 => lim_q hd (fun W4 hb4 => (hW W4 (hb3.trans (hb4.mono hb3.size))).2))
theorem lLate_q {F D u : Rat} (ha : LQ F D) (hu : QOk u) (u0 : 0 ≤ u) (u1 : u ≤ 1) (h1 : QOk (F + 1)) (h2 : QOk ((F + 1) * u)) (h3 : QOk (D + (F + 1) * u)) {w : World} (htm : ∀ W, Below w.heap.size w W → Tab W ∧ ML W) :
  Calls Tryz.prog 25 #[.agg #[.string (qstr F), .string (qstr D)], .string (qstr u)] w (Rl (qstr F) (qstr (mn1 (D + (F + 1) * u))) w) := by
 have he : ordE ⟨#[48]⟩ [qstr u, ⟨#[49]⟩] = 0 := by
  rw [← q1L, ← q0Z, ord_q o0Q hu, ord_q hu o1Q, if_neg (Rat.not_lt.2 u0), if_neg (Rat.not_lt.2 u1)]
  rfl
 refine Fin.rl (es := [chkL (qstr F) (qstr D), ordE ⟨#[48]⟩ [qstr u, ⟨#[49]⟩]]) (by rw [ha.chk, he]; rfl) (lLate_any (sz_q ha.okF) (sz_q ha.okD) (htm w (Below.refl _ _)).2 (sz_q hu) fun _ _ W bl bk hbw c0 c1 l1 c2 l2 => late_clo c0 c1 l1 c2 l2 fun W2 hb2 => ?_)
 have hW := fun W3 (hb3 : Below W2.heap.size W2 W3) => htm W3 (hbw.trans ((hb2.trans (hb3.mono hb2.size)).mono hbw.size))
 exact blate_d (T1 := (qstr (F + 1), 0)) (T2 := (qstr ((F + 1) * u), 0)) (T3 := (qstr (D + (F + 1) * u), 0)) (T4 := (qstr (mn1 (D + (F + 1) * u)), 0))
  (fun W3 hb3 => by
   have h := oplus_q ha.okF o1Q h1 (hW W3 hb3).1 (hW W3 hb3).2
   rw [q1L] at h
   exact h)
  (fun _ W3 hb3 => otimes_q h1 hu h2 (hW W3 hb3).1 (hW W3 hb3).2)
  (fun _ _ W3 hb3 => oplus_q ha.okD h2 h3 (hW W3 hb3).1 (hW W3 hb3).2)
  (fun _ _ _ W3 hb3 => lim_q h3 (fun W4 hb4 => (hW W4 (hb3.trans (hb4.mono hb3.size))).2))
end
section
open Go.RowKit NV
theorem held_loss : Tryz.prog.stoodInHeld 24 = false := by kernel_rfl
theorem struct_loss : Tryz.prog.underlying 24 = some (.struct (Tryz.prog.fieldsOf 24)) := by kernel_rfl
def fieldsLO : List (String × Nat × Nat) := [("Factor", 22, 0), ("Delta", 22, 1)]
theorem fields_loss : (Tryz.prog.fieldsOf 24).toList.map (fun f => (f.name, f.type, f.offset)) = fieldsLO := by kernel_rfl
theorem eqIn_loss (x y : MI) (W : World) : (Op.equalIn 10000 24 (.agg #[.string x.1, .string x.2]) (.agg #[.string y.1, .string y.2])).run Tryz.prog W = .ok (eqMZ x y) W := by
 rw [run_equalIn_agg W 9999 _ _ _ struct_loss held_loss]
 have hf := fields_loss
 generalize (Tryz.prog.fieldsOf 24).toList = l at hf ⊢
 unfold fieldsLO at hf
 obtain ⟨f0, f1, rfl⟩ := list_twoZ (show l.length = 2 by have := congrArg List.length hf; simpa using this)
 simp only [List.map_cons, List.map_nil, List.cons.injEq, Prod.mk.injEq, and_true] at hf
 obtain ⟨⟨n0, t0, o0⟩, ⟨n1, t1, o1⟩⟩ := hf
 unfold eqMZ
 simp only [Op.eqFields, n0, t0, o0, n1, t1, o1]
 cases h1 : (x.1.toList == y.1.toList) <;> cases h2 : (x.2.toList == y.2.toList) <;>
 simp [Sem.run_bind, part_numZ #[.string x.1, .string x.2] 0 (.string x.1) rfl, part_numZ #[.string x.1, .string x.2] 1 (.string x.2) rfl, part_numZ #[.string y.1, .string y.2] 0 (.string y.1) rfl, part_numZ #[.string y.1, .string y.2] 1 (.string y.2) rfl,
  run_equalIn_string _ _ _ _ _ Tryz.underlying22, h1, h2]
theorem eql_loss (a b c d : ByteArray) (W : World) : (binOp .eql 24 (.agg #[.string a, .string b]) (.agg #[.string c, .string d])).run Tryz.prog W = .ok (.bool (decide (a = c) && decide (b = d))) W := by
 rw [run_eql_struct, eqIn_loss (a, b) (c, d)]
 have e : eqMZ (a, b) (c, d) = (decide (a = c) && decide (b = d)) := by
  rw [Bool.eq_iff_iff, eqMZ_iff, Bool.and_eq_true, decide_eq_true_iff, decide_eq_true_iff, Prod.mk.injEq]
 rw [e]
 rfl
theorem eql_same (a b : ByteArray) (W : World) : (binOp .eql 24 (.agg #[.string a, .string b]) (.agg #[.string a, .string b])).run Tryz.prog W = .ok (.bool true) W := by
 rw [eql_loss]
 simp
set_option maxHeartbeats 6400000 in
set_option maxRecDepth 100000 in
theorem lives9_any (w : World) (htab : Tab w) (hm : ML w) : Calls Tryz.prog 15 #[] w fun e w' => e = .returned (.bool true) ∧ Below w.heap.size w w' := by
 have HTM := Lib.hid (fun W (hb : Below w.heap.size w W) => And.intro (htab.below hb) (ml_keep hm (ml_pos hm) hb))
 have t1 : qstr (3 / 2) = ⟨#[51, 47, 50]⟩ := by decide +kernel
 have t2 : qstr (1 / 10) = ⟨#[49, 47, 49, 48]⟩ := by decide +kernel
 have t3 : qstr 2 = ⟨#[50]⟩ := by decide +kernel
 have t4 : qstr 0 = ⟨#[48]⟩ := q0Z
 have t5 : qstr (3 / 2 * 2) = ⟨#[51]⟩ := by decide +kernel
 have t6 : qstr (mn1 (1 / 10 + 0)) = ⟨#[49, 47, 49, 48]⟩ := by decide +kernel
 have t7 : qstr ((3 / 2 : Rat) ^ 2) = ⟨#[57, 47, 52]⟩ := by decide +kernel
 have t8 : qstr (mn1 (1 / 10 * gs (3 / 2) 2)) = ⟨#[49, 47, 52]⟩ := by decide +kernel
 have t9 : qstr (1 / 100) = ⟨#[49, 47, 49, 48, 48]⟩ := by decide +kernel
 have t10 : qstr (mn1 (0 + (2 + 1) * (1 / 100))) = ⟨#[51, 47, 49, 48, 48]⟩ := by decide +kernel
 have la : LQ (3 / 2) (1 / 10) := ⟨by decide +kernel, by decide +kernel, by decide +kernel, by decide +kernel, by decide +kernel⟩
 have lb : LQ 2 0 := ⟨by decide +kernel, by decide +kernel, by decide +kernel, by decide +kernel, by decide +kernel⟩
 have HA := Lib.hid (show ∀ W, Below w.heap.size w W → Calls Tryz.prog 17 #[.agg #[.string ⟨#[51, 47, 50]⟩, .string ⟨#[49, 47, 49, 48]⟩], .agg #[.string ⟨#[50]⟩, .string ⟨#[48]⟩]] W (Rl ⟨#[51]⟩ ⟨#[49, 47, 49, 48]⟩ W) from fun W hb => by
  have h := lAdd_q la lb (by decide +kernel) (by decide +kernel) (w := W) (fun W2 hb2 => HTM.out W2 (hb.trans (hb2.mono hb.size)))
  rw [t1, t2, t3, t4, t5, t6] at h
  exact h)
 have HG := Lib.hid (show ∀ W, Below w.heap.size w W → Calls Tryz.prog 23 #[.agg #[.string ⟨#[51, 47, 50]⟩, .string ⟨#[49, 47, 49, 48]⟩], .int .i64 2] W (Rl ⟨#[57, 47, 52]⟩ ⟨#[49, 47, 52]⟩ W) from fun W hb => by
  have h := lGroup_q la (k := 2) (by omega) (by decide +kernel) (by decide +kernel) (by decide +kernel) (w := W) (fun W2 hb2 => HTM.out W2 (hb.trans (hb2.mono hb.size)))
  rw [t1, t2, t7, t8] at h
  exact h)
 have HL := Lib.hid (show ∀ W, Below w.heap.size w W → Calls Tryz.prog 25 #[.agg #[.string ⟨#[50]⟩, .string ⟨#[48]⟩], .string ⟨#[49, 47, 49, 48, 48]⟩] W (Rl ⟨#[50]⟩ ⟨#[51, 47, 49, 48, 48]⟩ W) from fun W hb => by
  have h := lLate_q lb (u := 1 / 100) (by decide +kernel) (by decide +kernel) (by decide +kernel) (by decide +kernel) (by decide +kernel) (by decide +kernel) (w := W) (fun W2 hb2 => HTM.out W2 (hb.trans (hb2.mono hb.size)))
  rw [t3, t4, t9, t10] at h
  exact h)
 unfold Rl at HA HG HL
 clear t1 t2 t3 t4 t5 t6 t7 t8 t9 t10 la lb htab hm HTM
 have r1 : RB w (w.alloc (.cells #[.string ⟨#[51, 47, 50]⟩, .string ⟨#[49, 47, 49, 48]⟩] 24)) w.heap.size ⟨#[51, 47, 50]⟩ ⟨#[49, 47, 49, 48]⟩ := RB.new (Nat.le_refl _)
 have h1 := (Below.refl w.heap.size w).alloc (Nat.le_refl _) (.cells #[.string ⟨#[51, 47, 50]⟩, .string ⟨#[49, 47, 49, 48]⟩] 24)
 have h2 := h1.alloc h1.size (.cells #[.string ⟨#[50]⟩, .string ⟨#[48]⟩] 24)
 have r2 : RB w ((w.alloc (.cells #[.string ⟨#[51, 47, 50]⟩, .string ⟨#[49, 47, 49, 48]⟩] 24)).alloc (.cells #[.string ⟨#[50]⟩, .string ⟨#[48]⟩] 24)) (w.heap.size + 1) ⟨#[50]⟩ ⟨#[48]⟩ := by
  have h := RB.new (w := w) (W := (w.alloc (.cells #[.string ⟨#[51, 47, 50]⟩, .string ⟨#[49, 47, 49, 48]⟩] 24))) (s := ⟨#[50]⟩) (t := ⟨#[48]⟩) (ty := 24) (by simp)
  simpa using h
 have r1 := r1.below ((Below.refl (w.alloc (.cells #[.string ⟨#[51, 47, 50]⟩, .string ⟨#[49, 47, 49, 48]⟩] 24)).heap.size (w.alloc (.cells #[.string ⟨#[51, 47, 50]⟩, .string ⟨#[49, 47, 49, 48]⟩] 24))).alloc (Nat.le_refl _) (.cells #[.string ⟨#[50]⟩, .string ⟨#[48]⟩] 24))
 have HB0 := Lib.hid h2
 have HR0 := Lib.hid (And.intro r1 r2)
 clear h1 h2 r1 r2
 go_enter Tryz.func15, Tryz.ntmps15
 go_wp2_with fail
 refine (HA.out _ HB0.out).mono ?_
 rintro e w1 ⟨rfl, hb⟩
 have hbk := HB0.out.trans (hb.mono HB0.out.size)
 have hbA := (Below.refl w1.heap.size w1).alloc (Nat.le_refl _) (.cells #[.string ⟨#[51]⟩, .string ⟨#[49, 47, 49, 48]⟩] 24)
 have n1 : RB w (w1.alloc (.cells #[.string ⟨#[51]⟩, .string ⟨#[49, 47, 49, 48]⟩] 24)) w1.heap.size ⟨#[51]⟩ ⟨#[49, 47, 49, 48]⟩ := RB.new hbk.size
 have q0 := (HR0.out.1.below hb).below hbA
 have q1 := (HR0.out.2.below hb).below hbA
 have HR1 := Lib.hid (And.intro q0 (And.intro q1 n1))
 have HB1 := Lib.hid (hbk.alloc hbk.size (.cells #[.string ⟨#[51]⟩, .string ⟨#[49, 47, 49, 48]⟩] 24))
 have c00 := q0.c0
 have c01 := q0.c1
 clear hb hbk hbA q0 q1 n1 HA HR0 HB0
 go_wp2_with fail
 clear c00 c01
 refine (HG.out _ HB1.out).mono ?_
 rintro e w2 ⟨rfl, hb⟩
 have hbk := HB1.out.trans (hb.mono HB1.out.size)
 have hbA := (Below.refl w2.heap.size w2).alloc (Nat.le_refl _) (.cells #[.string ⟨#[57, 47, 52]⟩, .string ⟨#[49, 47, 52]⟩] 24)
 have n2 : RB w (w2.alloc (.cells #[.string ⟨#[57, 47, 52]⟩, .string ⟨#[49, 47, 52]⟩] 24)) w2.heap.size ⟨#[57, 47, 52]⟩ ⟨#[49, 47, 52]⟩ := RB.new hbk.size
 have q0 := (HR1.out.1.below hb).below hbA
 have q1 := (HR1.out.2.1.below hb).below hbA
 have q2 := (HR1.out.2.2.below hb).below hbA
 have HR2 := Lib.hid (And.intro q0 (And.intro q1 (And.intro q2 n2)))
 have HB2 := Lib.hid (hbk.alloc hbk.size (.cells #[.string ⟨#[57, 47, 52]⟩, .string ⟨#[49, 47, 52]⟩] 24))
 have c10 := q1.c0
 have c11 := q1.c1
 clear hb hbk hbA q0 q1 q2 n2 HG HR1 HB1
 go_wp2_with fail
 clear c10 c11
 refine (HL.out _ HB2.out).mono ?_
 rintro e w3 ⟨rfl, hb⟩
 have hbk := HB2.out.trans (hb.mono HB2.out.size)
 have hbA := (Below.refl w3.heap.size w3).alloc (Nat.le_refl _) (.cells #[.string ⟨#[50]⟩, .string ⟨#[51, 47, 49, 48, 48]⟩] 24)
 have n3 : RB w (w3.alloc (.cells #[.string ⟨#[50]⟩, .string ⟨#[51, 47, 49, 48, 48]⟩] 24)) w3.heap.size ⟨#[50]⟩ ⟨#[51, 47, 49, 48, 48]⟩ := RB.new hbk.size
 have q0 := (HR2.out.1.below hb).below hbA
 have q1 := (HR2.out.2.1.below hb).below hbA
 have q2 := (HR2.out.2.2.1.below hb).below hbA
 have q3 := (HR2.out.2.2.2.below hb).below hbA
 have HR3 := Lib.hid (And.intro q0 (And.intro q1 (And.intro q2 (And.intro q3 n3))))
 have HB3 := Lib.hid (hbk.alloc hbk.size (.cells #[.string ⟨#[50]⟩, .string ⟨#[51, 47, 49, 48, 48]⟩] 24))
 have c20 := q2.c0
 have c21 := q2.c1
 have c30 := q3.c0
 have c31 := q3.c1
 have c40 := n3.c0
 have c41 := n3.c1
 clear hb hbk hbA q0 q1 q2 q3 n3 HL HR2 HB2
 have es1 := eql_same ⟨#[51]⟩ ⟨#[49, 47, 49, 48]⟩
 have es2 := eql_same ⟨#[57, 47, 52]⟩ ⟨#[49, 47, 52]⟩
 have es3 := eql_same ⟨#[50]⟩ ⟨#[51, 47, 49, 48, 48]⟩
 go_wp2_with fail
 go_ret
 exact ⟨rfl, HB3.out⟩
end
section
open Go.RowKit NV
theorem rCmpT_any (s t : ByteArray) (hs : s.size ≤ 140737488351232) (ht : t.size ≤ 140737488351232) (w : World) : Calls Tryz.prog 113 #[.string s, .string t] w (Cm (cmpT s t).1 (cmpT s t).2 w) := by
 by_cases h1 : rchk s = 0
 ·by_cases h2 : rchk t = 0
  ·obtain ⟨p, rfl, hp⟩ := rchk_rat h1
   obtain ⟨q, rfl, hq⟩ := rchk_rat h2
   rw [cmpT_q hp hq]
   exact rCmp_q w hp hq
  ·have e : cmpT s t = (0, (rchk t : Int)) := by unfold cmpT; rw [if_neg (by omega), if_pos h2]
   rw [e]
   exact rCmp_err w hs ht (if_neg (by omega)) h2
 ·have e : cmpT s t = (0, (rchk s : Int)) := by unfold cmpT; rw [if_pos h1]
  rw [e]
  exact rCmp_err w hs ht (if_pos h1) h1
def facB (s : ByteArray) : Bool := decide (s.size ≤ 12) && (decide ((cmpT ⟨#[49]⟩ s).2 = 0) && decide ((cmpT ⟨#[49]⟩ s).1 ≤ 0))
set_option maxHeartbeats 1600000 in
set_option maxRecDepth 100000 in
theorem fac9_any (s : ByteArray) (hs : s.size ≤ 140737488351232) (w : World) : Calls Tryz.prog 42 #[.string s] w fun e w' => e = .returned (.bool (facB s)) ∧ Below w.heap.size w w' := by
 have HS := Lib.hid (rCmpT_any ⟨#[49]⟩ s (by decide) hs w)
 unfold facB
 unfold Cm at HS
 generalize (cmpT ⟨#[49]⟩ s).1 = x at *
 generalize (cmpT ⟨#[49]⟩ s).2 = c at *
 by_cases h1 : s.size ≤ 12
 ·rw [decide_eq_true h1]
  have h1i : (s.size : Int) ≤ 12 := by omega
  by_cases h2 : c = 0
  ·subst h2
   rw [decide_eq_true rfl]
   by_cases h3 : x ≤ 0
   ·rw [decide_eq_true h3]
    clear hs
    go_enter Tryz.func42, Tryz.ntmps42
    go_wp2_with fail
    refine HS.out.mono ?_
    rintro e w1 ⟨rfl, hb⟩
    have HB := Lib.hid hb
    clear hb HS
    go_wp2_with fail
    go_ret
    exact ⟨ret_bool (by simp), HB.out⟩
   ·rw [decide_eq_false h3]
    clear hs
    go_enter Tryz.func42, Tryz.ntmps42
    go_wp2_with fail
    refine HS.out.mono ?_
    rintro e w1 ⟨rfl, hb⟩
    have HB := Lib.hid hb
    clear hb HS
    go_wp2_with fail
    go_ret
    exact ⟨ret_bool (by simp [h3]), HB.out⟩
  ·rw [decide_eq_false h2]
   have hz2 : (c == 0) = false := by rw [beq_eq_false_iff_ne]; exact h2
   clear hs h2
   go_enter Tryz.func42, Tryz.ntmps42
   go_wp2_with fail
   refine HS.out.mono ?_
   rintro e w1 ⟨rfl, hb⟩
   have HB := Lib.hid hb
   clear hb HS
   go_wp2_with fail
   go_ret
   exact ⟨rfl, HB.out⟩
 ·rw [decide_eq_false h1]
  have h1i : ¬ (s.size : Int) ≤ 12 := by omega
  clear hs
  go_enter Tryz.func42, Tryz.ntmps42
  go_wp2_with fail
  refine HS.out.mono ?_
  rintro e w1 ⟨rfl, hb⟩
  have HB := Lib.hid hb
  clear hb HS
  go_wp2_with fail
  go_ret
  exact ⟨rfl, HB.out⟩
theorem Sz.ofA {q : Rat} {d : Nat} (hd0 : 0 < d) (h : (qstr q).size ≤ d) : Sz d q := by
 obtain ⟨s1, s2⟩ := qstr_sizes q
 exact ⟨(dec_len_le hd0).1 (by omega), (dec_len_le hd0).1 (by omega)⟩
theorem facB_yes {s : ByteArray} (h : facB s = true) : ∃ f, s = qstr f ∧ QOk f ∧ 1 ≤ f ∧ Sz 12 f := by
 unfold facB at h
 rw [Bool.and_eq_true, Bool.and_eq_true, decide_eq_true_iff, decide_eq_true_iff, decide_eq_true_iff] at h
 obtain ⟨h1, h2, h3⟩ := h
 have hc : rchk s = 0 := by
  by_cases h0 : rchk s = 0
  ·exact h0
  ·have e : cmpT ⟨#[49]⟩ s = (0, (rchk s : Int)) := by
    unfold cmpT
    rw [if_neg (by rw [← q1L, qstr_chk o1Q]; omega), if_pos h0]
   rw [e] at h2
   exact absurd h2 (by show ¬ ((rchk s : Nat) : Int) = 0; omega)
 obtain ⟨f, rfl, hf⟩ := rchk_rat hc
 refine ⟨f, rfl, hf, ?_, Sz.ofA (by omega) h1⟩
 rw [← q1L, cmpT_q o1Q hf] at h3
 exact cmpQ_le.1 h3
set_option maxHeartbeats 800000 in
set_option maxRecDepth 100000 in
theorem lPick_any (x n : Int) (hn : 1 ≤ n) (hn2 : n ≤ 9223372036854775807) (_hx0 : -9223372036854775808 ≤ x) (_hx1 : x ≤ 9223372036854775807) (w : World) :
  Calls Tryz.prog 71 #[.int .i64 x, .int .i64 n] w fun e w' => (∃ r : Nat, (r : Int) < n ∧ e = .returned (.int .i64 (r : Int))) ∧ w = w' := by
 have hlt : x.tmod n < n := Int.tmod_lt_of_pos x (by omega)
 have hgt : -n < x.tmod n := Int.lt_tmod_of_pos x (by omega)
 go_enter Tryz.func71, Tryz.ntmps71
 go_wp2_with fail
 ·rename_i hneg
  have hc : (((x.tmod n + n).toNat : Nat) : Int) = x.tmod n + n := Int.toNat_of_nonneg (by omega)
  go_ret
  refine ⟨⟨(x.tmod n + n).toNat, ?_, ?_⟩, rfl⟩
  ·rw [hc]; omega
  ·rw [hc]; rfl
 ·rename_i hneg
  have hc : (((x.tmod n).toNat : Nat) : Int) = x.tmod n := Int.toNat_of_nonneg (by omega)
  go_ret
  refine ⟨⟨(x.tmod n).toNat, ?_, ?_⟩, rfl⟩
  ·rw [hc]; omega
  ·rw [hc]; rfl
end
end Go.Proofs.YtkponlbpgmnpgaaGreatDoor
