/-
  Package loss: Check, Group, Late, fold, folded, Add, Max; in rational numbers; the examples of the laws; numbers and Pick.
-/
import Derived.Test.YtjpepjooefkbkaaGreatDoorLA
import Derived.Test.YtjpepjooefkbkaaGreatDoorHD
namespace Go.Proofs.YtjpepjooefkbkaaGreatDoor
section
open Go.RowKit NV
theorem all1 {a : ByteArray} (ha : a.size ≤ 1000000) : ∀ x, x ∈ [a] → x.size ≤ 1000000 := fun x hx => by
 rcases List.mem_cons.1 hx with rfl | hx
 ·exact ha
 ·cases hx
theorem all2 {a b : ByteArray} (ha : a.size ≤ 1000000) (hb : b.size ≤ 1000000) : ∀ x, x ∈ [a, b] → x.size ≤ 1000000 := fun x hx => by
 rcases List.mem_cons.1 hx with rfl | hx
 ·exact ha
 ·exact all1 hb x hx
def lchkI (B : Nat) (f d x y : ByteArray) (e1 e2 e3 e4 m : Int) (wx : World) (l : Array Bool) (a : Act) (W : World) : Prop :=
 ∃ (b0 b1 b2 b3 b4 b5 b6 b7 b8 b9 b10 b11 b12 b13 b14 b15 b16 b17 b18 b19 b20 b21 : Bool) (g8 g12 g14 g19 : Nat), l = #[b0, b1, b2, b3, b4, b5, b6, b7, b8, b9, b10, b11, b12, b13, b14, b15, b16, b17, b18, b19, b20, b21] ∧ a = { tmps := #[.agg #[.string f, .string d], .pointer (some ⟨B, 0, none⟩), .int .i64 0, (cond b19 (.pointer (some ⟨g19, 0, none⟩)) undef), (cond b21 (.int .i64 m) undef), (cond b16 (.tuple #[.agg #[.string x, .string y], .int .i64 m]) undef), (cond b0 (.pointer (some ⟨B, 0, none⟩)) undef), (cond b1 (.string f) undef), (cond b2 (.int .i64 e1) undef), (cond b3 (.pointer (some ⟨B, 1, none⟩)) undef), (cond b4 (.string d) undef), (cond b5 (.int .i64 e2) undef), (cond b6 (.pointer (some ⟨B, 0, none⟩)) undef), (cond b7 (.string f) undef), (cond b8 (.slice (some ⟨g8, 0, none⟩) 1 1) undef), (cond b9 (.int .i64 e3) undef), (cond b10 (.pointer (some ⟨B, 1, none⟩)) undef), (cond b11 (.string d) undef), (cond b12 (.slice (some ⟨g12, 0, none⟩) 2 2) undef), (cond b13 (.int .i64 e4) undef), (cond b14 (.slice (some ⟨g14, 0, none⟩) 4 4) undef), (cond b15 (.tuple #[.agg #[.string x, .string y], .int .i64 m]) undef), (cond b17 (.agg #[.string x, .string y]) undef), (cond b18 (.int .i64 m) undef), undef], defers := [] } ∧ Below wx.heap.size wx W ∧ (b8 = true → b20 = false → SR W (some ⟨g8, 0, none⟩) 1 [f]) ∧ (b12 = true → b20 = false → SR W (some ⟨g12, 0, none⟩) 2 [d, ⟨#[49]⟩]) ∧ (b14 = true → b20 = false → ER W (some ⟨g14, 0, none⟩) 4 [e1, e2, e3, e4]) ∧ (b19 = true → b20 = false → RB wx W g19 ⟨#[]⟩ ⟨#[]⟩) ∧ (b20 = true → b0 = true ∧ b1 = true ∧ b2 = true ∧ b3 = true ∧ b4 = true ∧ b5 = true ∧ b6 = true ∧ b7 = true ∧ b8 = true ∧ b9 = true ∧ b10 = true ∧ b11 = true ∧ b12 = true ∧ b13 = true ∧ b14 = true ∧ b15 = true ∧ b16 = true ∧ b17 = true ∧ b19 = true)
def chkL (f d : ByteArray) : Int := fstL [(rchk f : Int), (rchk d : Int), ordE ⟨#[49]⟩ [f], ordE ⟨#[48]⟩ [d, ⟨#[49]⟩]]
set_option maxHeartbeats 12800000 in
set_option maxRecDepth 100000 in
theorem lCheck_any {f d : ByteArray} {w : World} (hf : f.size ≤ 1000000) (hd : d.size ≤ 1000000) (hm : ML w) : Calls Tryz.prog 25 #[.agg #[.string f, .string d]] w (Er (chkL f d) w) := by
 obtain ⟨e1, he1⟩ : ∃ e1, e1 = (rchk f : Int) := ⟨_, rfl⟩
 obtain ⟨e2, he2⟩ : ∃ e2, e2 = (rchk d : Int) := ⟨_, rfl⟩
 obtain ⟨e3, he3⟩ : ∃ e3, e3 = ordE ⟨#[49]⟩ [f] := ⟨_, rfl⟩
 obtain ⟨e4, he4⟩ : ∃ e4, e4 = ordE ⟨#[48]⟩ [d, ⟨#[49]⟩] := ⟨_, rfl⟩
 have hb0 := (Below.refl w.heap.size w).alloc (Nat.le_refl _) (.cells #[.string f, .string d] 49)
 have r0 : RB w (w.alloc (.cells #[.string f, .string d] 49)) w.heap.size f d := RB.new (Nat.le_refl _)
 have HML := Lib.hid (fun W (hb : Below w.heap.size w W) => ml_keep hm (ml_pos hm) hb)
 have h1s : (⟨#[49]⟩ : ByteArray).size ≤ 1000000 := by decide
 have h0s : (⟨#[48]⟩ : ByteArray).size ≤ 1000000 := by decide
 have K1 := Lib.hid (show ∀ W, Below w.heap.size w W → Calls Tryz.prog 63 #[.string f] W (Er e1 W) from fun W hb => by rw [he1]; exact qcheck_any f W hf (HML.out W hb))
 have K2 := Lib.hid (show ∀ W, Below w.heap.size w W → Calls Tryz.prog 63 #[.string d] W (Er e2 W) from fun W hb => by rw [he2]; exact qcheck_any d W hd (HML.out W hb))
 have K3 := Lib.hid (show ∀ W ao c, Below w.heap.size w W → SR W ao 1 [f] → Calls Tryz.prog 64 #[.string ⟨#[49]⟩, .slice ao 1 c] W (Er e3 W) from fun W ao c hb hr => by rw [he3]; exact inOrder_any hr (by omega) h1s (all1 hf) (HML.out W hb))
 have K4 := Lib.hid (show ∀ W ao c, Below w.heap.size w W → SR W ao 2 [d, ⟨#[49]⟩] → Calls Tryz.prog 64 #[.string ⟨#[48]⟩, .slice ao 2 c] W (Er e4 W) from fun W ao c hb hr => by rw [he4]; exact inOrder_any hr (by omega) h0s (all2 hd h1s) (HML.out W hb))
 obtain ⟨m, hmm⟩ : ∃ m, m = fstL [e1, e2, e3, e4] := ⟨_, rfl⟩
 obtain ⟨x, y, K5⟩ : ∃ x y : ByteArray, Hid (∀ W ao c, ER W ao 4 [e1, e2, e3, e4] → Calls Tryz.prog 61 #[.func (.func 62) #[] #[], .slice ao 4 c] W fun e w' => e = .returned (.tuple #[.agg #[.string x, .string y], .int .i64 m]) ∧ Below W.heap.size W w') := by
  refine ⟨if m = 0 then ⟨#[49]⟩ else ⟨#[]⟩, if m = 0 then ⟨#[48]⟩ else ⟨#[]⟩, Lib.hid fun W ao c he => (attempt_loss_any (f := ⟨#[49]⟩) (d := ⟨#[48]⟩) (m := 0) he (by omega) (fun _ W2 _ => none_any W2) (fun W => by simp [go_sem])).mono ?_⟩
  rintro e w' ⟨rfl, hb⟩
  refine ⟨?_, hb⟩
  rw [← hmm]
  by_cases h : m = 0
  ·rw [if_pos ⟨h, rfl⟩, if_pos h, if_pos h, if_pos h, h]
  ·rw [if_neg (fun h2 => h h2.1), if_neg h, if_neg h, if_neg h]
 have hM : chkL f d = m := by rw [hmm, he1, he2, he3, he4]; rfl
 rw [hM]
 have HB0 := Lib.hid hb0
 have HR0 := Lib.hid r0
 clear hM hmm he1 he2 he3 he4 hb0 r0 HML h1s h0s hf hd hm
 go_enter Tryz.func25, Tryz.ntmps25
 go_wp2_with fail
 refine wp_world (Below.refl (w.alloc (.cells #[.string f, .string d] 49)).heap.size (w.alloc (.cells #[.string f, .string d] 49))) (fun wx hbx => ?_)
 have HBX2 := Lib.hid hbx
 have hbw := Lib.hid (fun W (h : Below wx.heap.size wx W) => HB0.out.trans ((hbx.trans (h.mono hbx.size)).mono HB0.out.size))
 have q := HR0.out.below hbx
 have HQ := Lib.hid (fun W (h : Below wx.heap.size wx W) => And.intro ((h.cell (p := ⟨w.heap.size, 0, none⟩) q.lt).trans q.c0) ((h.cell (p := ⟨w.heap.size, 1, none⟩) q.lt).trans q.c1))
 have HC1 := Lib.hid (fun W (h : Below wx.heap.size wx W) => K1.out W (hbw.out W h))
 have HC2 := Lib.hid (fun W (h : Below wx.heap.size wx W) => K2.out W (hbw.out W h))
 have HC3 := Lib.hid (fun W ao c (h : Below wx.heap.size wx W) (hr : SR W ao 1 [f]) => K3.out W ao c (hbw.out W h) hr)
 have HC4 := Lib.hid (fun W ao c (h : Below wx.heap.size wx W) (hr : SR W ao 2 [d, ⟨#[49]⟩]) => K4.out W ao c (hbw.out W h) hr)
 have HC5 := Lib.hid (fun W ao c (_ : Below wx.heap.size wx W) (he : ER W ao 4 [e1, e2, e3, e4]) => K5.out W ao c he)
 clear hbx q K1 K2 K3 K4 K5 hbw HR0
 refine wp_region_inv (I := lchkI w.heap.size f d x y e1 e2 e3 e4 m wx) (by kernel_rfl) ?_ ?_ ?_ ?_
 ·rintro l a W ⟨_, _, _, _, _, _, _, _, _, _, _, _, _, _, _, _, _, _, _, _, _, _, _, _, _, _, rfl, _⟩; rfl
 ·intro i l a W hI hi
  obtain ⟨hlt, h1, h2⟩ := ready_mem hi
  clear hi
  have hlt : i < 22 := hlt
  rcases (show i = 0 ∨ i = 1 ∨ i = 2 ∨ i = 3 ∨ i = 4 ∨ i = 5 ∨ i = 6 ∨ i = 7 ∨ i = 8 ∨ i = 9 ∨ i = 10 ∨ i = 11 ∨ i = 12 ∨ i = 13 ∨ i = 14 ∨ i = 15 ∨ i = 16 ∨ i = 17 ∨ i = 18 ∨ i = 19 ∨ i = 20 ∨ i = 21 by omega) with rfl | rfl | rfl | rfl | rfl | rfl | rfl | rfl | rfl | rfl | rfl | rfl | rfl | rfl | rfl | rfl | rfl | rfl | rfl | rfl | rfl | rfl
  ·obtain ⟨b0, b1, b2, b3, b4, b5, b6, b7, b8, b9, b10, b11, b12, b13, b14, b15, b16, b17, b18, b19, b20, b21, g8, g12, g14, g19, rfl, rfl, hD, F8, F12, F14, F19, FL⟩ := hI
   obtain rfl : b0 = false := h1
   obtain rfl : b20 = false := by
     cases b20 with
     | false => rfl
     | true => exact absurd (FL rfl) (by simp)
   clear h2 hlt
   simp only [cond_false]
   refine wpOz_run rfl rfl (wpz_value (v := .pointer (some ⟨w.heap.size, 0, none⟩)) (w' := W) (d := 6) rfl (by go_simp) ?_)
   exact ⟨true, b1, b2, b3, b4, b5, b6, b7, b8, b9, b10, b11, b12, b13, b14, b15, b16, b17, b18, b19, false, b21, g8, g12, g14, g19, rfl, rfl, hD, F8, F12, F14, F19, (fun h => by cases h)⟩
  ·obtain ⟨b0, b1, b2, b3, b4, b5, b6, b7, b8, b9, b10, b11, b12, b13, b14, b15, b16, b17, b18, b19, b20, b21, g8, g12, g14, g19, rfl, rfl, hD, F8, F12, F14, F19, FL⟩ := hI
   obtain rfl : b1 = false := h1
   obtain rfl : b20 = false := by
     cases b20 with
     | false => rfl
     | true => exact absurd (FL rfl) (by simp)
   have h3 : b0 = true := by
     simp [Region.binds] at h2
     simp [h2]
   obtain rfl := h3
   clear h2 hlt
   simp only [cond_true, cond_false]
   have e0 := (HQ.out W hD).1
   refine wpOz_run rfl rfl (wpz_value (v := .string f) (w' := W) (d := 7) rfl (by go_simp) ?_)
   exact ⟨true, true, b2, b3, b4, b5, b6, b7, b8, b9, b10, b11, b12, b13, b14, b15, b16, b17, b18, b19, false, b21, g8, g12, g14, g19, rfl, rfl, hD, F8, F12, F14, F19, (fun h => by cases h)⟩
  ·obtain ⟨b0, b1, b2, b3, b4, b5, b6, b7, b8, b9, b10, b11, b12, b13, b14, b15, b16, b17, b18, b19, b20, b21, g8, g12, g14, g19, rfl, rfl, hD, F8, F12, F14, F19, FL⟩ := hI
   obtain rfl : b2 = false := h1
   obtain rfl : b20 = false := by
     cases b20 with
     | false => rfl
     | true => exact absurd (FL rfl) (by simp)
   have h3 : b1 = true := by
     simp [Region.binds] at h2
     simp [h2]
   obtain rfl := h3
   clear h2 hlt
   simp only [cond_true, cond_false]
   refine wpOz_run rfl rfl (wpz_enter (d := 8) rfl (by go_simp) ((HC1.out W hD).mono ?_))
   rintro e W2 ⟨rfl, hb⟩
   refine ⟨_, rfl, ?_⟩
   exact ⟨b0, true, true, b3, b4, b5, b6, b7, b8, b9, b10, b11, b12, b13, b14, b15, b16, b17, b18, b19, false, b21, g8, g12, g14, g19, rfl, rfl, hD.trans (hb.mono hD.size), (fun h k => (F8 h k).below hb), (fun h k => (F12 h k).below hb), (fun h k => (F14 h k).below hb), (fun h k => (F19 h k).below hb), (fun h => by cases h)⟩
  ·obtain ⟨b0, b1, b2, b3, b4, b5, b6, b7, b8, b9, b10, b11, b12, b13, b14, b15, b16, b17, b18, b19, b20, b21, g8, g12, g14, g19, rfl, rfl, hD, F8, F12, F14, F19, FL⟩ := hI
   obtain rfl : b3 = false := h1
   obtain rfl : b20 = false := by
     cases b20 with
     | false => rfl
     | true => exact absurd (FL rfl) (by simp)
   clear h2 hlt
   simp only [cond_false]
   refine wpOz_run rfl rfl (wpz_value (v := .pointer (some ⟨w.heap.size, 1, none⟩)) (w' := W) (d := 9) rfl (by go_simp) ?_)
   exact ⟨b0, b1, b2, true, b4, b5, b6, b7, b8, b9, b10, b11, b12, b13, b14, b15, b16, b17, b18, b19, false, b21, g8, g12, g14, g19, rfl, rfl, hD, F8, F12, F14, F19, (fun h => by cases h)⟩
  ·obtain ⟨b0, b1, b2, b3, b4, b5, b6, b7, b8, b9, b10, b11, b12, b13, b14, b15, b16, b17, b18, b19, b20, b21, g8, g12, g14, g19, rfl, rfl, hD, F8, F12, F14, F19, FL⟩ := hI
   obtain rfl : b4 = false := h1
   obtain rfl : b20 = false := by
     cases b20 with
     | false => rfl
     | true => exact absurd (FL rfl) (by simp)
   have h3 : b3 = true := by
     simp [Region.binds] at h2
     simp [h2]
   obtain rfl := h3
   clear h2 hlt
   simp only [cond_true, cond_false]
   have e0 := (HQ.out W hD).2
   refine wpOz_run rfl rfl (wpz_value (v := .string d) (w' := W) (d := 10) rfl (by go_simp) ?_)
   exact ⟨b0, b1, b2, true, true, b5, b6, b7, b8, b9, b10, b11, b12, b13, b14, b15, b16, b17, b18, b19, false, b21, g8, g12, g14, g19, rfl, rfl, hD, F8, F12, F14, F19, (fun h => by cases h)⟩
  ·obtain ⟨b0, b1, b2, b3, b4, b5, b6, b7, b8, b9, b10, b11, b12, b13, b14, b15, b16, b17, b18, b19, b20, b21, g8, g12, g14, g19, rfl, rfl, hD, F8, F12, F14, F19, FL⟩ := hI
   obtain rfl : b5 = false := h1
   obtain rfl : b20 = false := by
     cases b20 with
     | false => rfl
     | true => exact absurd (FL rfl) (by simp)
   have h3 : b4 = true ∧ b2 = true := by
     simp [Region.binds] at h2
     simp [h2]
   obtain ⟨rfl, rfl⟩ := h3
   clear h2 hlt
   simp only [cond_true, cond_false]
   refine wpOz_run rfl rfl (wpz_enter (d := 11) rfl (by go_simp) ((HC2.out W hD).mono ?_))
   rintro e W2 ⟨rfl, hb⟩
   refine ⟨_, rfl, ?_⟩
   exact ⟨b0, b1, true, b3, true, true, b6, b7, b8, b9, b10, b11, b12, b13, b14, b15, b16, b17, b18, b19, false, b21, g8, g12, g14, g19, rfl, rfl, hD.trans (hb.mono hD.size), (fun h k => (F8 h k).below hb), (fun h k => (F12 h k).below hb), (fun h k => (F14 h k).below hb), (fun h k => (F19 h k).below hb), (fun h => by cases h)⟩
  ·obtain ⟨b0, b1, b2, b3, b4, b5, b6, b7, b8, b9, b10, b11, b12, b13, b14, b15, b16, b17, b18, b19, b20, b21, g8, g12, g14, g19, rfl, rfl, hD, F8, F12, F14, F19, FL⟩ := hI
   obtain rfl : b6 = false := h1
   obtain rfl : b20 = false := by
     cases b20 with
     | false => rfl
     | true => exact absurd (FL rfl) (by simp)
   clear h2 hlt
   simp only [cond_false]
   refine wpOz_run rfl rfl (wpz_value (v := .pointer (some ⟨w.heap.size, 0, none⟩)) (w' := W) (d := 12) rfl (by go_simp) ?_)
   exact ⟨b0, b1, b2, b3, b4, b5, true, b7, b8, b9, b10, b11, b12, b13, b14, b15, b16, b17, b18, b19, false, b21, g8, g12, g14, g19, rfl, rfl, hD, F8, F12, F14, F19, (fun h => by cases h)⟩
  ·obtain ⟨b0, b1, b2, b3, b4, b5, b6, b7, b8, b9, b10, b11, b12, b13, b14, b15, b16, b17, b18, b19, b20, b21, g8, g12, g14, g19, rfl, rfl, hD, F8, F12, F14, F19, FL⟩ := hI
   obtain rfl : b7 = false := h1
   obtain rfl : b20 = false := by
     cases b20 with
     | false => rfl
     | true => exact absurd (FL rfl) (by simp)
   have h3 : b6 = true := by
     simp [Region.binds] at h2
     simp [h2]
   obtain rfl := h3
   clear h2 hlt
   simp only [cond_true, cond_false]
   have e0 := (HQ.out W hD).1
   refine wpOz_run rfl rfl (wpz_value (v := .string f) (w' := W) (d := 13) rfl (by go_simp) ?_)
   exact ⟨b0, b1, b2, b3, b4, b5, true, true, b8, b9, b10, b11, b12, b13, b14, b15, b16, b17, b18, b19, false, b21, g8, g12, g14, g19, rfl, rfl, hD, F8, F12, F14, F19, (fun h => by cases h)⟩
  ·obtain ⟨b0, b1, b2, b3, b4, b5, b6, b7, b8, b9, b10, b11, b12, b13, b14, b15, b16, b17, b18, b19, b20, b21, g8, g12, g14, g19, rfl, rfl, hD, F8, F12, F14, F19, FL⟩ := hI
   obtain rfl : b8 = false := h1
   obtain rfl : b20 = false := by
     cases b20 with
     | false => rfl
     | true => exact absurd (FL rfl) (by simp)
   have h3 : b7 = true := by
     simp [Region.binds] at h2
     simp [h2]
   obtain rfl := h3
   clear h2 hlt
   simp only [cond_true, cond_false]
   have hb := (Below.refl W.heap.size W).alloc (Nat.le_refl _) (.cells #[.string f] 23)
   refine wpOz_run rfl rfl (wpz_value (v := .slice (some ⟨W.heap.size, 0, none⟩) 1 1) (w' := W.alloc (.cells #[.string f] 23)) (d := 14) rfl (by go_simp) ?_)
   exact ⟨b0, b1, b2, b3, b4, b5, b6, true, true, b9, b10, b11, b12, b13, b14, b15, b16, b17, b18, b19, false, b21, W.heap.size, g12, g14, g19, rfl, rfl, hD.trans (hb.mono hD.size), (fun _ _ => SR.lit (xs := [f])), (fun h k => (F12 h k).below hb), (fun h k => (F14 h k).below hb), (fun h k => (F19 h k).below hb), (fun h => by cases h)⟩
  ·obtain ⟨b0, b1, b2, b3, b4, b5, b6, b7, b8, b9, b10, b11, b12, b13, b14, b15, b16, b17, b18, b19, b20, b21, g8, g12, g14, g19, rfl, rfl, hD, F8, F12, F14, F19, FL⟩ := hI
   obtain rfl : b9 = false := h1
   obtain rfl : b20 = false := by
     cases b20 with
     | false => rfl
     | true => exact absurd (FL rfl) (by simp)
   have h3 : b8 = true ∧ b5 = true := by
     simp [Region.binds] at h2
     simp [h2]
   obtain ⟨rfl, rfl⟩ := h3
   clear h2 hlt
   have G8 := F8 rfl rfl
   simp only [cond_true, cond_false]
   refine wpOz_run rfl rfl (wpz_enter (d := 15) rfl (by go_simp) ((HC3.out W _ 1 hD G8).mono ?_))
   rintro e W2 ⟨rfl, hb⟩
   refine ⟨_, rfl, ?_⟩
   exact ⟨b0, b1, b2, b3, b4, true, b6, b7, true, true, b10, b11, b12, b13, b14, b15, b16, b17, b18, b19, false, b21, g8, g12, g14, g19, rfl, rfl, hD.trans (hb.mono hD.size), (fun h k => (F8 h k).below hb), (fun h k => (F12 h k).below hb), (fun h k => (F14 h k).below hb), (fun h k => (F19 h k).below hb), (fun h => by cases h)⟩
  ·obtain ⟨b0, b1, b2, b3, b4, b5, b6, b7, b8, b9, b10, b11, b12, b13, b14, b15, b16, b17, b18, b19, b20, b21, g8, g12, g14, g19, rfl, rfl, hD, F8, F12, F14, F19, FL⟩ := hI
   obtain rfl : b10 = false := h1
   obtain rfl : b20 = false := by
     cases b20 with
     | false => rfl
     | true => exact absurd (FL rfl) (by simp)
   clear h2 hlt
   simp only [cond_false]
   refine wpOz_run rfl rfl (wpz_value (v := .pointer (some ⟨w.heap.size, 1, none⟩)) (w' := W) (d := 16) rfl (by go_simp) ?_)
   exact ⟨b0, b1, b2, b3, b4, b5, b6, b7, b8, b9, true, b11, b12, b13, b14, b15, b16, b17, b18, b19, false, b21, g8, g12, g14, g19, rfl, rfl, hD, F8, F12, F14, F19, (fun h => by cases h)⟩
  ·obtain ⟨b0, b1, b2, b3, b4, b5, b6, b7, b8, b9, b10, b11, b12, b13, b14, b15, b16, b17, b18, b19, b20, b21, g8, g12, g14, g19, rfl, rfl, hD, F8, F12, F14, F19, FL⟩ := hI
   obtain rfl : b11 = false := h1
   obtain rfl : b20 = false := by
     cases b20 with
     | false => rfl
     | true => exact absurd (FL rfl) (by simp)
   have h3 : b10 = true := by
     simp [Region.binds] at h2
     simp [h2]
   obtain rfl := h3
   clear h2 hlt
   simp only [cond_true, cond_false]
   have e0 := (HQ.out W hD).2
   refine wpOz_run rfl rfl (wpz_value (v := .string d) (w' := W) (d := 17) rfl (by go_simp) ?_)
   exact ⟨b0, b1, b2, b3, b4, b5, b6, b7, b8, b9, true, true, b12, b13, b14, b15, b16, b17, b18, b19, false, b21, g8, g12, g14, g19, rfl, rfl, hD, F8, F12, F14, F19, (fun h => by cases h)⟩
  ·obtain ⟨b0, b1, b2, b3, b4, b5, b6, b7, b8, b9, b10, b11, b12, b13, b14, b15, b16, b17, b18, b19, b20, b21, g8, g12, g14, g19, rfl, rfl, hD, F8, F12, F14, F19, FL⟩ := hI
   obtain rfl : b12 = false := h1
   obtain rfl : b20 = false := by
     cases b20 with
     | false => rfl
     | true => exact absurd (FL rfl) (by simp)
   have h3 : b11 = true := by
     simp [Region.binds] at h2
     simp [h2]
   obtain rfl := h3
   clear h2 hlt
   simp only [cond_true, cond_false]
   have hb := (Below.refl W.heap.size W).alloc (Nat.le_refl _) (.cells #[.string d, .string ⟨#[49]⟩] 23)
   refine wpOz_run rfl rfl (wpz_value (v := .slice (some ⟨W.heap.size, 0, none⟩) 2 2) (w' := W.alloc (.cells #[.string d, .string ⟨#[49]⟩] 23)) (d := 18) rfl (by go_simp) ?_)
   exact ⟨b0, b1, b2, b3, b4, b5, b6, b7, b8, b9, b10, true, true, b13, b14, b15, b16, b17, b18, b19, false, b21, g8, W.heap.size, g14, g19, rfl, rfl, hD.trans (hb.mono hD.size), (fun h k => (F8 h k).below hb), (fun _ _ => SR.lit (xs := [d, ⟨#[49]⟩])), (fun h k => (F14 h k).below hb), (fun h k => (F19 h k).below hb), (fun h => by cases h)⟩
  ·obtain ⟨b0, b1, b2, b3, b4, b5, b6, b7, b8, b9, b10, b11, b12, b13, b14, b15, b16, b17, b18, b19, b20, b21, g8, g12, g14, g19, rfl, rfl, hD, F8, F12, F14, F19, FL⟩ := hI
   obtain rfl : b13 = false := h1
   obtain rfl : b20 = false := by
     cases b20 with
     | false => rfl
     | true => exact absurd (FL rfl) (by simp)
   have h3 : b12 = true ∧ b9 = true := by
     simp [Region.binds] at h2
     simp [h2]
   obtain ⟨rfl, rfl⟩ := h3
   clear h2 hlt
   have G12 := F12 rfl rfl
   simp only [cond_true, cond_false]
   refine wpOz_run rfl rfl (wpz_enter (d := 19) rfl (by go_simp) ((HC4.out W _ 2 hD G12).mono ?_))
   rintro e W2 ⟨rfl, hb⟩
   refine ⟨_, rfl, ?_⟩
   exact ⟨b0, b1, b2, b3, b4, b5, b6, b7, b8, true, b10, b11, true, true, b14, b15, b16, b17, b18, b19, false, b21, g8, g12, g14, g19, rfl, rfl, hD.trans (hb.mono hD.size), (fun h k => (F8 h k).below hb), (fun h k => (F12 h k).below hb), (fun h k => (F14 h k).below hb), (fun h k => (F19 h k).below hb), (fun h => by cases h)⟩
  ·obtain ⟨b0, b1, b2, b3, b4, b5, b6, b7, b8, b9, b10, b11, b12, b13, b14, b15, b16, b17, b18, b19, b20, b21, g8, g12, g14, g19, rfl, rfl, hD, F8, F12, F14, F19, FL⟩ := hI
   obtain rfl : b14 = false := h1
   obtain rfl : b20 = false := by
     cases b20 with
     | false => rfl
     | true => exact absurd (FL rfl) (by simp)
   have h3 : b2 = true ∧ b5 = true ∧ b9 = true ∧ b13 = true := by
     simp [Region.binds] at h2
     simp [h2]
   obtain ⟨rfl, rfl, rfl, rfl⟩ := h3
   clear h2 hlt
   simp only [cond_true, cond_false]
   have hb := (Below.refl W.heap.size W).alloc (Nat.le_refl _) (.cells #[.int .i64 e1, .int .i64 e2, .int .i64 e3, .int .i64 e4] 29)
   refine wpOz_run rfl rfl (wpz_value (v := .slice (some ⟨W.heap.size, 0, none⟩) 4 4) (w' := W.alloc (.cells #[.int .i64 e1, .int .i64 e2, .int .i64 e3, .int .i64 e4] 29)) (d := 20) rfl (by go_simp) ?_)
   exact ⟨b0, b1, true, b3, b4, true, b6, b7, b8, true, b10, b11, b12, true, true, b15, b16, b17, b18, b19, false, b21, g8, g12, W.heap.size, g19, rfl, rfl, hD.trans (hb.mono hD.size), (fun h k => (F8 h k).below hb), (fun h k => (F12 h k).below hb), (fun _ _ => ER.lit (es := [e1, e2, e3, e4])), (fun h k => (F19 h k).below hb), (fun h => by cases h)⟩
  ·obtain ⟨b0, b1, b2, b3, b4, b5, b6, b7, b8, b9, b10, b11, b12, b13, b14, b15, b16, b17, b18, b19, b20, b21, g8, g12, g14, g19, rfl, rfl, hD, F8, F12, F14, F19, FL⟩ := hI
   obtain rfl : b15 = false := h1
   obtain rfl : b20 = false := by
     cases b20 with
     | false => rfl
     | true => exact absurd (FL rfl) (by simp)
   have h3 : b14 = true ∧ b13 = true := by
     simp [Region.binds] at h2
     simp [h2]
   obtain ⟨rfl, rfl⟩ := h3
   clear h2 hlt
   have G14 := F14 rfl rfl
   simp only [cond_true, cond_false]
   refine wpOz_run rfl rfl (wpz_enter (d := 21) rfl (by go_simp) ((HC5.out W _ 4 hD G14).mono ?_))
   rintro e W2 ⟨rfl, hb⟩
   refine ⟨_, rfl, ?_⟩
   exact ⟨b0, b1, b2, b3, b4, b5, b6, b7, b8, b9, b10, b11, b12, true, true, true, b16, b17, b18, b19, false, b21, g8, g12, g14, g19, rfl, rfl, hD.trans (hb.mono hD.size), (fun h k => (F8 h k).below hb), (fun h k => (F12 h k).below hb), (fun h k => (F14 h k).below hb), (fun h k => (F19 h k).below hb), (fun h => by cases h)⟩
  ·obtain ⟨b0, b1, b2, b3, b4, b5, b6, b7, b8, b9, b10, b11, b12, b13, b14, b15, b16, b17, b18, b19, b20, b21, g8, g12, g14, g19, rfl, rfl, hD, F8, F12, F14, F19, FL⟩ := hI
   obtain rfl : b16 = false := h1
   obtain rfl : b20 = false := by
     cases b20 with
     | false => rfl
     | true => exact absurd (FL rfl) (by simp)
   have h3 : b15 = true := by
     simp [Region.binds] at h2
     simp [h2]
   obtain rfl := h3
   clear h2 hlt
   simp only [cond_true, cond_false]
   refine wpOz_run rfl rfl (wpz_value (v := .tuple #[.agg #[.string x, .string y], .int .i64 m]) (w' := W) (d := 5) rfl (by go_simp) ?_)
   exact ⟨b0, b1, b2, b3, b4, b5, b6, b7, b8, b9, b10, b11, b12, b13, b14, true, true, b17, b18, b19, false, b21, g8, g12, g14, g19, rfl, rfl, hD, F8, F12, F14, F19, (fun h => by cases h)⟩
  ·obtain ⟨b0, b1, b2, b3, b4, b5, b6, b7, b8, b9, b10, b11, b12, b13, b14, b15, b16, b17, b18, b19, b20, b21, g8, g12, g14, g19, rfl, rfl, hD, F8, F12, F14, F19, FL⟩ := hI
   obtain rfl : b17 = false := h1
   obtain rfl : b20 = false := by
     cases b20 with
     | false => rfl
     | true => exact absurd (FL rfl) (by simp)
   have h3 : b16 = true := by
     simp [Region.binds] at h2
     simp [h2]
   obtain rfl := h3
   clear h2 hlt
   simp only [cond_true, cond_false]
   refine wpOz_run rfl rfl (wpz_value (v := .agg #[.string x, .string y]) (w' := W) (d := 22) rfl (by go_simp) ?_)
   exact ⟨b0, b1, b2, b3, b4, b5, b6, b7, b8, b9, b10, b11, b12, b13, b14, b15, true, true, b18, b19, false, b21, g8, g12, g14, g19, rfl, rfl, hD, F8, F12, F14, F19, (fun h => by cases h)⟩
  ·obtain ⟨b0, b1, b2, b3, b4, b5, b6, b7, b8, b9, b10, b11, b12, b13, b14, b15, b16, b17, b18, b19, b20, b21, g8, g12, g14, g19, rfl, rfl, hD, F8, F12, F14, F19, FL⟩ := hI
   obtain rfl : b18 = false := h1
   have h3 : b16 = true := by
     simp [Region.binds] at h2
     simp [h2]
   obtain rfl := h3
   clear h2 hlt
   simp only [cond_true, cond_false]
   refine wpOz_run rfl rfl (wpz_value (v := .int .i64 m) (w' := W) (d := 23) rfl (by go_simp) ?_)
   exact ⟨b0, b1, b2, b3, b4, b5, b6, b7, b8, b9, b10, b11, b12, b13, b14, b15, true, b17, true, b19, b20, b21, g8, g12, g14, g19, rfl, rfl, hD, F8, F12, F14, F19, FL⟩
  ·obtain ⟨b0, b1, b2, b3, b4, b5, b6, b7, b8, b9, b10, b11, b12, b13, b14, b15, b16, b17, b18, b19, b20, b21, g8, g12, g14, g19, rfl, rfl, hD, F8, F12, F14, F19, FL⟩ := hI
   obtain rfl : b19 = false := h1
   obtain rfl : b20 = false := by
     cases b20 with
     | false => rfl
     | true => exact absurd (FL rfl) (by simp)
   clear h2 hlt
   simp only [cond_false]
   have hb := (Below.refl W.heap.size W).alloc (Nat.le_refl _) (.cells #[.string ⟨#[]⟩, .string ⟨#[]⟩] 49)
   refine wpOz_run rfl rfl (wpz_value (v := .pointer (some ⟨W.heap.size, 0, none⟩)) (w' := W.alloc (.cells #[.string ⟨#[]⟩, .string ⟨#[]⟩] 49)) (d := 3) rfl (by go_simp) ?_)
   exact ⟨b0, b1, b2, b3, b4, b5, b6, b7, b8, b9, b10, b11, b12, b13, b14, b15, b16, b17, b18, true, false, b21, g8, g12, g14, W.heap.size, rfl, rfl, hD.trans (hb.mono hD.size), (fun h k => (F8 h k).below hb), (fun h k => (F12 h k).below hb), (fun h k => (F14 h k).below hb), (fun _ _ => RB.new hD.size), (fun h => by cases h)⟩
  ·obtain ⟨b0, b1, b2, b3, b4, b5, b6, b7, b8, b9, b10, b11, b12, b13, b14, b15, b16, b17, b18, b19, b20, b21, g8, g12, g14, g19, rfl, rfl, hD, F8, F12, F14, F19, FL⟩ := hI
   obtain rfl : b20 = false := h1
   have h3 : b0 = true ∧ b1 = true ∧ b2 = true ∧ b3 = true ∧ b4 = true ∧ b5 = true ∧ b6 = true ∧ b7 = true ∧ b8 = true ∧ b9 = true ∧ b10 = true ∧ b11 = true ∧ b12 = true ∧ b13 = true ∧ b14 = true ∧ b15 = true ∧ b16 = true ∧ b17 = true ∧ b19 = true := by
     simp [Region.binds] at h2
     simp [h2]
   obtain ⟨rfl, rfl, rfl, rfl, rfl, rfl, rfl, rfl, rfl, rfl, rfl, rfl, rfl, rfl, rfl, rfl, rfl, rfl, rfl⟩ := h3
   clear h2 hlt
   have G8 := F8 rfl rfl
   have G12 := F12 rfl rfl
   have G14 := F14 rfl rfl
   have G19 := F19 rfl rfl
   simp only [cond_true]
   obtain ⟨q1, q2, c0, c1, z0, z1⟩ := G19
   refine wpOz_run rfl rfl (wpz_skip (w' := (W.setCell ⟨g19, 0, none⟩ (.string x)).setCell ⟨g19, 1, none⟩ (.string y)) rfl (by go_simp) ?_)
   exact ⟨true, true, true, true, true, true, true, true, true, true, true, true, true, true, true, true, true, true, b18, true, true, b21, g8, g12, g14, g19, rfl, rfl, (hD.setCell (p := ⟨g19, 0, none⟩) q2 (.string x)).setCell (p := ⟨g19, 1, none⟩) q2 (.string y), (fun _ h => by cases h), (fun _ h => by cases h), (fun _ h => by cases h), (fun _ h => by cases h), (fun _ => ⟨rfl, rfl, rfl, rfl, rfl, rfl, rfl, rfl, rfl, rfl, rfl, rfl, rfl, rfl, rfl, rfl, rfl, rfl, rfl⟩)⟩
  ·obtain ⟨b0, b1, b2, b3, b4, b5, b6, b7, b8, b9, b10, b11, b12, b13, b14, b15, b16, b17, b18, b19, b20, b21, g8, g12, g14, g19, rfl, rfl, hD, F8, F12, F14, F19, FL⟩ := hI
   obtain rfl : b21 = false := h1
   have h3 : b0 = true ∧ b1 = true ∧ b2 = true ∧ b3 = true ∧ b4 = true ∧ b5 = true ∧ b6 = true ∧ b7 = true ∧ b8 = true ∧ b9 = true ∧ b10 = true ∧ b11 = true ∧ b12 = true ∧ b13 = true ∧ b14 = true ∧ b15 = true ∧ b16 = true ∧ b17 = true ∧ b18 = true ∧ b19 = true ∧ b20 = true := by
     simp [Region.binds] at h2
     simp [h2]
   obtain ⟨rfl, rfl, rfl, rfl, rfl, rfl, rfl, rfl, rfl, rfl, rfl, rfl, rfl, rfl, rfl, rfl, rfl, rfl, rfl, rfl, rfl⟩ := h3
   clear h2 hlt
   simp only [cond_true, cond_false]
   refine wpOz_run rfl rfl (wpz_value (v := .int .i64 m) (w' := W) (d := 4) rfl (by go_simp) ?_)
   exact ⟨true, true, true, true, true, true, true, true, true, true, true, true, true, true, true, true, true, true, true, true, true, true, g8, g12, g14, g19, rfl, rfl, hD, (fun _ h => by cases h), (fun _ h => by cases h), (fun _ h => by cases h), (fun _ h => by cases h), (fun _ => ⟨rfl, rfl, rfl, rfl, rfl, rfl, rfl, rfl, rfl, rfl, rfl, rfl, rfl, rfl, rfl, rfl, rfl, rfl, rfl⟩)⟩
 ·intro l a W hI hr
  have hall := ready_nil hr (by obtain ⟨_, _, _, _, _, _, _, _, _, _, _, _, _, _, _, _, _, _, _, _, _, _, _, _, _, _, rfl, _⟩ := hI; rfl) (by kernel_rfl)
  obtain ⟨b0, b1, b2, b3, b4, b5, b6, b7, b8, b9, b10, b11, b12, b13, b14, b15, b16, b17, b18, b19, b20, b21, g8, g12, g14, g19, rfl, rfl, hD, F8, F12, F14, F19, FL⟩ := hI
  obtain rfl : b0 = true := hall 0 (by decide)
  obtain rfl : b1 = true := hall 1 (by decide)
  obtain rfl : b2 = true := hall 2 (by decide)
  obtain rfl : b3 = true := hall 3 (by decide)
  obtain rfl : b4 = true := hall 4 (by decide)
  obtain rfl : b5 = true := hall 5 (by decide)
  obtain rfl : b6 = true := hall 6 (by decide)
  obtain rfl : b7 = true := hall 7 (by decide)
  obtain rfl : b8 = true := hall 8 (by decide)
  obtain rfl : b9 = true := hall 9 (by decide)
  obtain rfl : b10 = true := hall 10 (by decide)
  obtain rfl : b11 = true := hall 11 (by decide)
  obtain rfl : b12 = true := hall 12 (by decide)
  obtain rfl : b13 = true := hall 13 (by decide)
  obtain rfl : b14 = true := hall 14 (by decide)
  obtain rfl : b15 = true := hall 15 (by decide)
  obtain rfl : b16 = true := hall 16 (by decide)
  obtain rfl : b17 = true := hall 17 (by decide)
  obtain rfl : b18 = true := hall 18 (by decide)
  obtain rfl : b19 = true := hall 19 (by decide)
  obtain rfl : b20 = true := hall 20 (by decide)
  obtain rfl : b21 = true := hall 21 (by decide)
  clear hall hr
  simp only [cond_true]
  have HBX3 := Lib.hid (HB0.out.trans ((HBX2.out.trans (hD.mono HBX2.out.size)).mono HB0.out.size))
  clear F8 F12 F14 F19 FL hD HQ HC1 HC2 HC3 HC4 HC5 HBX2 HB0
  go_wp2_with fail
  go_ret
  exact ⟨rfl, HBX3.out⟩
 ·exact ⟨false, false, false, false, false, false, false, false, false, false, false, false, false, false, false, false, false, false, false, false, false, false, 0, 0, 0, 0, rfl, rfl, (Below.refl _ _).drew, (fun h _ => by cases h), (fun h _ => by cases h), (fun h _ => by cases h), (fun h _ => by cases h), (fun h => by cases h)⟩
end
section
open Go.RowKit NV
end
section
open Go.RowKit NV
end
section
open Go.RowKit NV
end
section
open Go.RowKit NV
theorem RB.set {w W : World} {b : Nat} {s t : ByteArray} (h : RB w W b s t) (s' t' : ByteArray) : RB w ((W.setCell ⟨b, 0, none⟩ (.string s')).setCell ⟨b, 1, none⟩ (.string t')) b s' t' := by
 have e01 : (⟨b, 0, none⟩ : Addr) ≠ ⟨b, 1, none⟩ := fun e => by cases e
 have c1 : (W.setCell ⟨b, 0, none⟩ (.string s')).cell? ⟨b, 1, none⟩ = some (.string t) := (World.cell?_setCell_other _ _ _ _ e01).trans h.c1
 have c0 : (W.setCell ⟨b, 0, none⟩ (.string s')).cell? ⟨b, 0, none⟩ = some (.string s') := World.cell?_setCell_same _ _ _ h.c0
 refine ⟨by simpa [World.setCell] using h.lt, h.ge, (World.cell?_setCell_other _ _ _ _ e01.symm).trans c0, World.cell?_setCell_same _ _ _ c1, ?_, ?_⟩
 ·simpa using h.z0
 ·simpa using h.z1
theorem RB.other {w W : World} {b b' : Nat} {s t : ByteArray} (h : RB w W b s t) (hne : b' ≠ b) (u v : Value) : RB w ((W.setCell ⟨b', 0, none⟩ u).setCell ⟨b', 1, none⟩ v) b s t := by
 have e (i j : Nat) : (⟨b', i, none⟩ : Addr) ≠ ⟨b, j, none⟩ := fun e => hne (congrArg Addr.block e)
 refine ⟨by simpa [World.setCell] using h.lt, h.ge, ?_, ?_, ?_, ?_⟩
 ·exact ((World.cell?_setCell_other _ _ _ _ (e _ _)).trans (World.cell?_setCell_other _ _ _ _ (e _ _))).trans h.c0
 ·exact ((World.cell?_setCell_other _ _ _ _ (e _ _)).trans (World.cell?_setCell_other _ _ _ _ (e _ _))).trans h.c1
 ·simpa using h.z0
 ·simpa using h.z1
end
section
open Go.RowKit NV
theorem ER.own {W : World} {base n : Nat} {v : Value} {es : List Int} (h : W.ownsRow base 29 1 v n (es.map (Value.int .i64))) (hl : es.length = n) : ∃ ao c, v = .slice ao n c ∧ ER W ao n es := by
 rcases h.2 with ⟨hv, h0⟩ | ⟨g, cl, cur, hv, _, hh, _⟩
 ·exact ⟨none, 0, by rw [hv, h0], hl, .inl h0⟩
 ·subst hv
  refine ⟨_, _, rfl, hl, .inr ⟨_, rfl, (Array.getElem?_eq_some_iff.1 hh).1, fun j x hx => ?_⟩⟩
  exact h.cells (g := g) rfl j _ (by rw [List.getElem?_map, hx]; rfl)
end
section
open Go.RowKit NV
end
section
open Go.RowKit NV
theorem q1L : qstr 1 = ⟨#[49]⟩ := by decide +kernel
def mn1 (d : Rat) : Rat := if d < 1 then d else 1
theorem mn1_le {d : Rat} : mn1 d ≤ 1 := by unfold mn1; grind
theorem mn1_nn {d : Rat} (h : 0 ≤ d) : 0 ≤ mn1 d := by unfold mn1; grind
theorem mn1_ok {d : Rat} (h : QOk d) : QOk (mn1 d) := by
 unfold mn1
 split
 ·exact h
 ·decide +kernel
theorem o1Q : QOk (1 : Rat) := by decide +kernel
theorem o0Q : QOk (0 : Rat) := by decide +kernel
structure LQ (F D : Rat) : Prop where
 okF : QOk F
 okD : QOk D
 f1 : 1 ≤ F
 d0 : 0 ≤ D
 d1 : D ≤ 1
theorem cmpQ_pos {p q : Rat} : 0 < cmpQ p q ↔ q < p := by
 unfold cmpQ
 by_cases h1 : p < q
 ·rw [if_pos h1]
  constructor
  ·intro h; exact absurd h (by decide)
  ·intro h; exact absurd h (lt_asymm' h1)
 ·rw [if_neg h1]
  by_cases h2 : q < p
  ·rw [if_pos h2]; exact ⟨fun _ => h2, fun _ => by decide⟩
  ·rw [if_neg h2]
   constructor
   ·intro h; exact absurd h (by decide)
   ·intro h; exact absurd h h2
theorem ord_q {p q : Rat} {l : List ByteArray} (hp : QOk p) (hq : QOk q) : ordE (qstr p) (qstr q :: l) = if q < p then 2 else ordE (qstr q) l := by
 have e : ordE (qstr p) (qstr q :: l) = if (cmpT (qstr p) (qstr q)).2 ≠ 0 then (cmpT (qstr p) (qstr q)).2 else if 0 < (cmpT (qstr p) (qstr q)).1 then 2 else ordE (qstr q) l := rfl
 rw [e, cmpT_q hp hq]
 show (if (0 : Int) ≠ 0 then 0 else if 0 < cmpQ p q then 2 else ordE (qstr q) l) = _
 rw [if_neg (by simp)]
 by_cases h : q < p
 ·rw [if_pos h, if_pos (cmpQ_pos.2 h)]
 ·rw [if_neg h, if_neg (fun h2 => h (cmpQ_pos.1 h2))]
theorem LQ.chk {F D : Rat} (h : LQ F D) : chkL (qstr F) (qstr D) = 0 := by
 unfold chkL
 rw [qstr_chk h.okF, qstr_chk h.okD, ← q1L, ← q0Z, ord_q o1Q h.okF, ord_q o0Q h.okD, ord_q h.okD o1Q]
 have e1 : ¬ F < 1 := Rat.not_lt.2 h.f1
 have e2 : ¬ D < 0 := Rat.not_lt.2 h.d0
 have e3 : ¬ 1 < D := Rat.not_lt.2 h.d1
 rw [if_neg e1, if_neg e2, if_neg e3]
 rfl
theorem sz_q {p : Rat} (h : QOk p) : (qstr p).size ≤ 1000000 := Nat.le_trans (qstr_size h) (by omega)
theorem Dn.ret {s : ByteArray} {w : World} {f : FuncId} {args : Array Value} (h : Calls Tryz.prog f args w (Dn (s, 0) w)) : Calls Tryz.prog f args w fun e w' => e = .returned (.string s) ∧ Below w.heap.size w w' :=
 h.mono (by
  rintro e w' ⟨⟨_, rfl⟩ | ⟨h, _⟩, hb⟩
  ·exact ⟨rfl, hb⟩
  ·exact absurd rfl h)
def Rl (f d : ByteArray) (w : World) (e : Ending) (w' : World) : Prop := e = .returned (.tuple #[.agg #[.string f, .string d], .int .i64 0]) ∧ Below w.heap.size w w'
end
section
open Go.RowKit NV
def gs (F : Rat) (k : Nat) : Rat := sm (fun j => F ^ j) k
end
section
open Go.RowKit NV
theorem held_loss : Tryz.prog.stoodInHeld 49 = false := by kernel_rfl
theorem struct_loss : Tryz.prog.underlying 49 = some (.struct (Tryz.prog.fieldsOf 49)) := by kernel_rfl
def fieldsLO : List (String × Nat × Nat) := [("Factor", 23, 0), ("Delta", 23, 1)]
theorem fields_loss : (Tryz.prog.fieldsOf 49).toList.map (fun f => (f.name, f.type, f.offset)) = fieldsLO := by kernel_rfl
theorem eqIn_loss (x y : MI) (W : World) : (Op.equalIn 10000 49 (.agg #[.string x.1, .string x.2]) (.agg #[.string y.1, .string y.2])).run Tryz.prog W = .ok (eqMZ x y) W := by
 rw [run_equalIn_agg W 9999 _ _ _ struct_loss held_loss]
 have hf := fields_loss
 generalize (Tryz.prog.fieldsOf 49).toList = l at hf ⊢
 unfold fieldsLO at hf
 obtain ⟨f0, f1, rfl⟩ := list_twoZ (show l.length = 2 by have := congrArg List.length hf; simpa using this)
 simp only [List.map_cons, List.map_nil, List.cons.injEq, Prod.mk.injEq, and_true] at hf
 obtain ⟨⟨n0, t0, o0⟩, ⟨n1, t1, o1⟩⟩ := hf
 unfold eqMZ
 simp only [Op.eqFields, n0, t0, o0, n1, t1, o1]
 cases h1 : (x.1.toList == y.1.toList) <;> cases h2 : (x.2.toList == y.2.toList) <;>
 simp [Sem.run_bind, part_numZ #[.string x.1, .string x.2] 0 (.string x.1) rfl, part_numZ #[.string x.1, .string x.2] 1 (.string x.2) rfl, part_numZ #[.string y.1, .string y.2] 0 (.string y.1) rfl, part_numZ #[.string y.1, .string y.2] 1 (.string y.2) rfl,
  run_equalIn_string _ _ _ _ _ Tryz.underlying23, h1, h2]
theorem eql_loss (a b c d : ByteArray) (W : World) : (binOp .eql 49 (.agg #[.string a, .string b]) (.agg #[.string c, .string d])).run Tryz.prog W = .ok (.bool (decide (a = c) && decide (b = d))) W := by
 rw [run_eql_struct, eqIn_loss (a, b) (c, d)]
 have e : eqMZ (a, b) (c, d) = (decide (a = c) && decide (b = d)) := by
  rw [Bool.eq_iff_iff, eqMZ_iff, Bool.and_eq_true, decide_eq_true_iff, decide_eq_true_iff, Prod.mk.injEq]
 rw [e]
 rfl
theorem eql_same (a b : ByteArray) (W : World) : (binOp .eql 49 (.agg #[.string a, .string b]) (.agg #[.string a, .string b])).run Tryz.prog W = .ok (.bool true) W := by
 rw [eql_loss]
 simp
end
section
open Go.RowKit NV
theorem rCmpT_any (s t : ByteArray) (hs : s.size ≤ 140737488351232) (ht : t.size ≤ 140737488351232) (w : World) : Calls Tryz.prog 18 #[.string s, .string t] w (Cm (cmpT s t).1 (cmpT s t).2 w) := by
 by_cases h1 : rchk s = 0
 ·by_cases h2 : rchk t = 0
  ·obtain ⟨p, rfl, hp⟩ := rchk_rat h1
   obtain ⟨q, rfl, hq⟩ := rchk_rat h2
   rw [cmpT_q hp hq]
   exact rCmp_q w hp hq
  ·have e : cmpT s t = (0, (rchk t : Int)) := by unfold cmpT; rw [if_neg (by omega), if_pos h2]
   rw [e]
   exact rCmp_err w hs ht (if_neg (by omega)) h2
 ·have e : cmpT s t = (0, (rchk s : Int)) := by unfold cmpT; rw [if_pos h1]
  rw [e]
  exact rCmp_err w hs ht (if_pos h1) h1
def facB (s : ByteArray) : Bool := decide (s.size ≤ 12) && (decide ((cmpT ⟨#[49]⟩ s).2 = 0) && decide ((cmpT ⟨#[49]⟩ s).1 ≤ 0))
theorem Sz.ofA {q : Rat} {d : Nat} (hd0 : 0 < d) (h : (qstr q).size ≤ d) : Sz d q := by
 obtain ⟨s1, s2⟩ := qstr_sizes q
 exact ⟨(dec_len_le hd0).1 (by omega), (dec_len_le hd0).1 (by omega)⟩
theorem facB_yes {s : ByteArray} (h : facB s = true) : ∃ f, s = qstr f ∧ QOk f ∧ 1 ≤ f ∧ Sz 12 f := by
 unfold facB at h
 rw [Bool.and_eq_true, Bool.and_eq_true, decide_eq_true_iff, decide_eq_true_iff, decide_eq_true_iff] at h
 obtain ⟨h1, h2, h3⟩ := h
 have hc : rchk s = 0 := by
  by_cases h0 : rchk s = 0
  ·exact h0
  ·have e : cmpT ⟨#[49]⟩ s = (0, (rchk s : Int)) := by
    unfold cmpT
    rw [if_neg (by rw [← q1L, qstr_chk o1Q]; omega), if_pos h0]
   rw [e] at h2
   exact absurd h2 (by show ¬ ((rchk s : Nat) : Int) = 0; omega)
 obtain ⟨f, rfl, hf⟩ := rchk_rat hc
 refine ⟨f, rfl, hf, ?_, Sz.ofA (by omega) h1⟩
 rw [← q1L, cmpT_q o1Q hf] at h3
 exact cmpQ_le.1 h3
end
end Go.Proofs.YtjpepjooefkbkaaGreatDoor
