/-
  LossOrder is walked.
-/
import Derived.Test.YtofanopnibbaeaaGreatDoorLX
namespace Go.Proofs.YtofanopnibbaeaaGreatDoor
section
open Go.RowKit NV

set_option maxHeartbeats 6400000 in
set_option maxRecDepth 100000 in
theorem fits_clo {f d g e : ByteArray} {bl bk : Nat} {w : World} (hf : f.size ≤ 1000000) (hd : d.size ≤ 1000000) (hg : g.size ≤ 1000000) (he : e.size ≤ 1000000) (htm : ∀ W, Below w.heap.size w W → ML W) (h0 : w.cell? ⟨bl, 0, none⟩ = some (.string f)) (h1 : w.cell? ⟨bl, 1, none⟩ = some (.string d)) (hl : bl < w.heap.size) (h2 : w.cell? ⟨bk, 0, none⟩ = some (.string g)) (h3 : w.cell? ⟨bk, 1, none⟩ = some (.string e)) (hk : bk < w.heap.size) :
    Calls Tryz.prog 119 #[.pointer (some ⟨bl, 0, none⟩), .pointer (some ⟨bk, 0, none⟩)] w (Does (.bool (decide (ordE f [g] = 0) && decide (ordE d [e] = 0))) 0 w) := by
  have hb1 := (Below.refl w.heap.size w).alloc (Nat.le_refl _) (.cells #[.string g] 27)
  have HI1 := Lib.hid (inOrder_any (c := 1) (SR.lit (w := w) (xs := [g]) (ty := 27)) (show (1 : Nat) ≤ 1000000 by omega) hf (all1 hg) (htm _ hb1))
  have HI2 := Lib.hid (fun W (hb : Below w.heap.size w W) => inOrder_any (c := 1) (SR.lit (w := W) (xs := [e]) (ty := 27)) (show (1 : Nat) ≤ 1000000 by omega) hd (all1 he) (htm _ (hb.alloc hb.size _)))
  have HC := Lib.hid (fun W (hb : Below w.heap.size w W) => And.intro ((hb.cell (p := ⟨bl, 0, none⟩) hl).trans h0) (And.intro ((hb.cell (p := ⟨bl, 1, none⟩) hl).trans h1) (And.intro ((hb.cell (p := ⟨bk, 0, none⟩) hk).trans h2) ((hb.cell (p := ⟨bk, 1, none⟩) hk).trans h3))))
  have HB0 := Lib.hid hb1
  obtain ⟨n1, hn1⟩ : ∃ n1, n1 = ordE f [g] := ⟨_, rfl⟩
  obtain ⟨n2, hn2⟩ : ∃ n2, n2 = ordE d [e] := ⟨_, rfl⟩
  rw [← hn1] at HI1 ⊢
  rw [← hn2] at HI2 ⊢
  unfold Er at HI1 HI2
  obtain ⟨c0, c1, c2, c3⟩ := HC.out w (Below.refl _ _)
  clear hn1 hn2 hb1 h1 h3 hf hd hg he htm hl hk h0 h2
  by_cases hz : n1 = 0
  · subst hz
    rw [decide_eq_true rfl, Bool.true_and]
    clear c1 c3
    go_enter Tryz.func119, Tryz.ntmps119
    go_wp2_with fail
    refine HI1.out.mono ?_
    rintro e' w1 ⟨rfl, hb⟩
    have HB1 := Lib.hid (HB0.out.trans (hb.mono HB0.out.size))
    clear hb HI1 c0 c2
    obtain ⟨_, c1, _, c3⟩ := HC.out w1 HB1.out
    have HJ := Lib.hid (HI2.out w1 HB1.out)
    have HB2 := Lib.hid (HB1.out.alloc HB1.out.size (.cells #[.string e] 27))
    clear HI2 HB1 HB0 HC
    go_wp2_with fail
    refine HJ.out.mono ?_
    rintro e' w2 ⟨rfl, hb⟩
    have HB3 := Lib.hid (HB2.out.trans (hb.mono HB2.out.size))
    clear hb HJ HB2 c1 c3
    by_cases h2 : n2 = 0
    · subst h2
      go_wp2_with fail
      go_ret
      exact ⟨.inl ⟨rfl, by simp⟩, HB3.out⟩
    · have hb2 : (n2 == 0) = false := by rw [beq_eq_false_iff_ne]; exact h2
      have HN := Lib.hid h2
      clear h2
      go_wp2_with fail
      go_ret
      exact ⟨.inl ⟨rfl, by rw [decide_eq_false HN.out]; rfl⟩, HB3.out⟩
  · rw [decide_eq_false hz, Bool.false_and]
    have hb2 : (n1 == 0) = false := by rw [beq_eq_false_iff_ne]; exact hz
    clear hz c1 c3
    go_enter Tryz.func119, Tryz.ntmps119
    go_wp2_with fail
    refine HI1.out.mono ?_
    rintro e' w1 ⟨rfl, hb⟩
    have HB1 := Lib.hid (HB0.out.trans (hb.mono HB0.out.size))
    clear hb HI1 c0 c2 HI2 HC
    go_wp2_with fail
    go_ret
    exact ⟨.inl ⟨rfl, rfl⟩, HB1.out⟩
set_option maxHeartbeats 6400000 in
set_option maxRecDepth 100000 in
theorem lFits_any {f d g e : ByteArray} {w : World} (hf : f.size ≤ 1000000) (hd : d.size ≤ 1000000) (hg : g.size ≤ 1000000) (he : e.size ≤ 1000000) (htm : ∀ W, Below w.heap.size w W → ML W) :
    Calls Tryz.prog 45 #[.agg #[.string f, .string d], .agg #[.string g, .string e]] w (Fin [chkL f d, chkL g e] (.bool (decide (ordE f [g] = 0) && decide (ordE d [e] = 0))) (.bool false) 0 w) := by
  have hmf : ∀ (fn : Fn) (first cap : Array Value) (w : World), (Instr.makeFunc fn first cap).run Tryz.prog w = .ok (.func fn first cap) w := fun _ _ _ _ => rfl
  obtain ⟨e1, he1⟩ : ∃ e1, e1 = chkL f d := ⟨_, rfl⟩
  obtain ⟨e2, he2⟩ : ∃ e2, e2 = chkL g e := ⟨_, rfl⟩
  obtain ⟨bo, hbo⟩ : ∃ bo, bo = (decide (ordE f [g] = 0) && decide (ordE d [e] = 0)) := ⟨_, rfl⟩
  have r1 : RB w (w.alloc (.cells #[.string f, .string d] 62)) w.heap.size f d := RB.new (Nat.le_refl _)
  have h1 := (Below.refl w.heap.size w).alloc (Nat.le_refl _) (.cells #[.string f, .string d] 62)
  have h2 := h1.alloc h1.size (.cells #[.string g, .string e] 62)
  have r2 : RB w ((w.alloc (.cells #[.string f, .string d] 62)).alloc (.cells #[.string g, .string e] 62)) (w.heap.size + 1) g e := by
    have h := RB.new (w := w) (W := (w.alloc (.cells #[.string f, .string d] 62))) (s := g) (t := e) (ty := 62) (by simp)
    simpa using h
  have r1 := r1.below ((Below.refl (w.alloc (.cells #[.string f, .string d] 62)).heap.size (w.alloc (.cells #[.string f, .string d] 62))).alloc (Nat.le_refl _) (.cells #[.string g, .string e] 62))
  have K1 := Lib.hid (show ∀ W, Below w.heap.size w W → Calls Tryz.prog 51 #[.agg #[.string f, .string d]] W (Er e1 W) from fun W hb => by rw [he1]; exact lCheck_any hf hd (htm W hb))
  have K2 := Lib.hid (show ∀ W, Below w.heap.size w W → Calls Tryz.prog 51 #[.agg #[.string g, .string e]] W (Er e2 W) from fun W hb => by rw [he2]; exact lCheck_any hg he (htm W hb))
  have K3 := Lib.hid (show ∀ W ao c, Below ((w.alloc (.cells #[.string f, .string d] 62)).alloc (.cells #[.string g, .string e] 62)).heap.size ((w.alloc (.cells #[.string f, .string d] 62)).alloc (.cells #[.string g, .string e] 62)) W → ER W ao 2 [e1, e2] → Calls Tryz.prog 118 #[.func (.func 119) #[] #[.pointer (some ⟨w.heap.size, 0, none⟩), .pointer (some ⟨w.heap.size + 1, 0, none⟩)], .slice ao 2 c] W (Fin [e1, e2] (.bool bo) (.bool false) 0 W) from fun W ao c hb hr => attempt_bool_any hr (by omega) (fun _ W2 hb2 => by
    have hB2 := hb.trans (hb2.mono hb.size)
    have q1 := r1.below hB2
    have q2 := r2.below hB2
    rw [hbo]
    exact fits_clo hf hd hg he (fun W3 hb3 => htm W3 (h2.trans ((hB2.trans (hb3.mono hB2.size)).mono h2.size))) q1.c0 q1.c1 q1.lt q2.c0 q2.c1 q2.lt) (fun W => by simp [go_sem]))
  have HB0 := Lib.hid h2
  have HR := Lib.hid (And.intro r1 r2)
  rw [← he1, ← he2, ← hbo]
  clear h1 h2 r1 r2 he1 he2 hbo hf hd hg he htm
  unfold Fin at K3 ⊢
  obtain ⟨rv, hrv⟩ : ∃ rv, rv = (if fstL [e1, e2] = 0 ∧ (0 : Int) = 0 then Value.bool bo else .bool false) := ⟨_, rfl⟩
  obtain ⟨re, hre⟩ : ∃ re, re = (if fstL [e1, e2] = 0 then 0 else fstL [e1, e2]) := ⟨_, rfl⟩
  rw [← hrv, ← hre]
  rw [← hrv, ← hre] at K3
  clear hrv hre
  go_enter Tryz.func45, Tryz.ntmps45
  go_wp2_with fail
  refine wp_world (Below.refl ((w.alloc (.cells #[.string f, .string d] 62)).alloc (.cells #[.string g, .string e] 62)).heap.size ((w.alloc (.cells #[.string f, .string d] 62)).alloc (.cells #[.string g, .string e] 62))) (fun wx hbx => ?_)
  have HBX2 := Lib.hid hbx
  have q1 := HR.out.1.below hbx
  have q2 := HR.out.2.below hbx
  have HQ := Lib.hid (show ∀ W, Below wx.heap.size wx W → W.cell? ⟨w.heap.size, 0, none⟩ = some (.string f) ∧ W.cell? ⟨w.heap.size, 1, none⟩ = some (.string d) ∧ W.cell? ⟨w.heap.size + 1, 0, none⟩ = some (.string g) ∧ W.cell? ⟨w.heap.size + 1, 1, none⟩ = some (.string e) from fun W h => ⟨(q1.below h).c0, (q1.below h).c1, (q2.below h).c0, (q2.below h).c1⟩)
  clear hbx q1 q2
  refine wp_region_held (S := fun W => Below wx.heap.size wx W) (by kernel_rfl) ?_
  change wpAnyH _ _ _ _ _ 11 _ _ wx.drew
  have hD0 := (Below.refl wx.heap.size wx).drew
  generalize wx.drew = W at *
  refine wpHz_take (i := 0) (d := 6) (v := .func (.func 119) #[] #[.pointer (some ⟨w.heap.size, 0, none⟩), .pointer (some ⟨w.heap.size + 1, 0, none⟩)]) rfl rfl (by kernel_rfl) (by kernel_rfl) (by kernel_rfl) (fun _ _ _ h => h) rfl (fun W _ => by go_simp) hD0 ?_
  simp only [Act.put, List.setIfInBounds_toArray, List.set_cons_zero, List.set_cons_succ]
  refine wpHz_take (i := 1) (d := 7) (v := .agg #[.string f, .string d]) rfl rfl (by kernel_rfl) (by kernel_rfl) (by kernel_rfl) (fun _ _ _ h => h) rfl (fun W hW => by have e0 := (HQ.out W hW).1; have e1 := (HQ.out W hW).2.1; go_simp) hD0 ?_
  simp only [Act.put, List.setIfInBounds_toArray, List.set_cons_zero, List.set_cons_succ]
  refine wpHz_take (i := 3) (d := 9) (v := .agg #[.string g, .string e]) rfl rfl (by kernel_rfl) (by kernel_rfl) (by kernel_rfl) (fun _ _ _ h => h) rfl (fun W hW => by have e0 := (HQ.out W hW).2.2.1; have e1 := (HQ.out W hW).2.2.2; go_simp) hD0 ?_
  simp only [Act.put, List.setIfInBounds_toArray, List.set_cons_zero, List.set_cons_succ]
  refine wpHz_one (i := 2) (by kernel_rfl) ?_
  refine wpOz_run rfl rfl (wpz_enter (d := 8) rfl (by go_simp) ((K1.out _ (HB0.out.trans ((HBX2.out.trans (hD0.mono HBX2.out.size)).mono HB0.out.size))).mono ?_))
  rintro e u1 ⟨rfl, hb⟩
  have hD1 : Below wx.heap.size wx u1 := hD0.trans (hb.mono hD0.size)
  clear hb
  refine ⟨_, rfl, hD1, ?_⟩
  simp only [Act.put, List.setIfInBounds_toArray, List.set_cons_zero, List.set_cons_succ]
  refine wpHz_one (i := 4) (by kernel_rfl) ?_
  refine wpOz_run rfl rfl (wpz_enter (d := 10) rfl (by go_simp) ((K2.out _ (HB0.out.trans ((HBX2.out.trans (hD1.mono HBX2.out.size)).mono HB0.out.size))).mono ?_))
  rintro e u2 ⟨rfl, hb⟩
  have hD2 : Below wx.heap.size wx u2 := hD1.trans (hb.mono hD1.size)
  clear hb
  refine ⟨_, rfl, hD2, ?_⟩
  simp only [Act.put, List.setIfInBounds_toArray, List.set_cons_zero, List.set_cons_succ]
  refine wpHz_one (i := 5) (by kernel_rfl) ?_
  have hD3 : Below wx.heap.size wx (u2.alloc (.cells #[.int .i64 e1, .int .i64 e2] 31)) := hD2.alloc hD2.size _
  refine wpOz_run rfl rfl (wpz_value (v := .slice (some ⟨u2.heap.size, 0, none⟩) 2 2) (w' := u2.alloc (.cells #[.int .i64 e1, .int .i64 e2] 31)) (d := 11) rfl (by go_simp) ⟨hD3, ?_⟩)
  simp only [Act.put, List.setIfInBounds_toArray, List.set_cons_zero, List.set_cons_succ]
  refine wpHz_one (i := 6) (by kernel_rfl) ?_
  refine wpOz_run rfl rfl (wpz_enter (d := 12) rfl (by go_simp) ((K3.out _ _ 2 (HBX2.out.trans (hD3.mono HBX2.out.size)) (ER.lit (es := [e1, e2]))).mono ?_))
  rintro e u3 ⟨rfl, hb⟩
  have hD4 : Below wx.heap.size wx u3 := hD3.trans (hb.mono hD3.size)
  clear hb
  refine ⟨_, rfl, hD4, ?_⟩
  simp only [Act.put, List.setIfInBounds_toArray, List.set_cons_zero, List.set_cons_succ]
  refine wpHz_take (i := 7) (d := 13) (v := rv) rfl rfl (by kernel_rfl) (by kernel_rfl) (by kernel_rfl) (fun _ _ _ h => h) rfl (fun W _ => by go_simp) hD4 ?_
  simp only [Act.put, List.setIfInBounds_toArray, List.set_cons_zero, List.set_cons_succ]
  refine wpHz_take (i := 8) (d := 14) (v := .int .i64 re) rfl rfl (by kernel_rfl) (by kernel_rfl) (by kernel_rfl) (fun _ _ _ h => h) rfl (fun W _ => by go_simp) hD4 ?_
  simp only [Act.put, List.setIfInBounds_toArray, List.set_cons_zero, List.set_cons_succ]
  refine wpHz_take (i := 9) (d := 4) (v := rv) rfl rfl (by kernel_rfl) (by kernel_rfl) (by kernel_rfl) (fun _ _ _ h => h) rfl (fun W _ => by go_simp) hD4 ?_
  simp only [Act.put, List.setIfInBounds_toArray, List.set_cons_zero, List.set_cons_succ]
  refine wpHz_take (i := 10) (d := 5) (v := .int .i64 re) rfl rfl (by kernel_rfl) (by kernel_rfl) (by kernel_rfl) (fun _ _ _ h => h) rfl (fun W _ => by go_simp) hD4 ?_
  simp only [Act.put, List.setIfInBounds_toArray, List.set_cons_zero, List.set_cons_succ]
  refine wpAnyH_done (by kernel_rfl) ?_ _
  have HE := Lib.hid (HB0.out.trans ((HBX2.out.trans (hD4.mono HBX2.out.size)).mono HB0.out.size))
  clear hD0 hD1 hD2 hD3 hD4 HBX2 HQ K1 K2 K3
  go_wp2_with fail
  go_ret2
  exact ⟨rfl, HE.out⟩
theorem ord1_q {p q : Rat} (hp : QOk p) (hq : QOk q) : decide (ordE (qstr p) [qstr q] = 0) = decide (p ≤ q) := by
  rw [ord_q hp hq]
  by_cases h : q < p
  · rw [if_pos h, decide_eq_false (by decide), decide_eq_false (Rat.not_le.2 h)]
  · rw [if_neg h, show ordE (qstr q) [] = 0 from rfl, decide_eq_true rfl, decide_eq_true (Rat.not_lt.1 h)]
/-- What Fits returns. -/
def ftB (F D G E : Rat) : Bool := decide (F ≤ G) && decide (D ≤ E)
theorem lFits_q {F D G E : Rat} (ha : LQ F D) (hb : LQ G E) {w : World} (htm : ∀ W, Below w.heap.size w W → Tab W ∧ ML W) :
    Calls Tryz.prog 45 #[.agg #[.string (qstr F), .string (qstr D)], .agg #[.string (qstr G), .string (qstr E)]] w fun e w' => e = .returned (.tuple #[.bool (ftB F D G E), .int .i64 0]) ∧ Below w.heap.size w w' := by
  have h := lFits_any (sz_q ha.okF) (sz_q ha.okD) (sz_q hb.okF) (sz_q hb.okD) (w := w) (fun W hbw => (htm W hbw).2)
  unfold Fin at h
  rw [ha.chk, hb.chk, if_pos ⟨rfl, rfl⟩, if_pos (show fstL [0, 0] = 0 from rfl), ord1_q ha.okF hb.okF, ord1_q ha.okD hb.okD] at h
  exact h
theorem mxQ_okA {p q : Rat} (hp : QOk p) (hq : QOk q) : QOk (mxQ p q) := by
  unfold mxQ
  split
  · exact hp
  · exact hq
theorem bmost_q {F D G E : Rat} (hF : QOk F) (hD : QOk D) (hG : QOk G) (hE : QOk E) {w : World} (htm : ∀ W, Below w.heap.size w W → Tab W ∧ ML W) :
    Calls Tryz.prog 120 #[.agg #[.string (qstr F), .string (qstr D)], .agg #[.string (qstr G), .string (qstr E)]] w (Dl (qstr (mxQ F G)) (qstr (mxQ D E)) 0 w) :=
  bmost_d (fun W hb => Max_oQ F G hF hG W (htm W hb).2) (fun W hb => Max_oQ D E hD hE W (htm W hb).2)
theorem LQ.max {F D G E : Rat} (ha : LQ F D) (hb : LQ G E) : LQ (mxQ F G) (mxQ D E) := by
  have h1 := ha.f1
  have h2 := ha.d0
  have h3 := ha.d1
  have h4 := hb.f1
  have h5 := hb.d0
  have h6 := hb.d1
  refine ⟨mxQ_okA ha.okF hb.okF, mxQ_okA ha.okD hb.okD, ?_, ?_, ?_⟩ <;> unfold mxQ <;> grind
theorem lMax_q {F D G E : Rat} (ha : LQ F D) (hb : LQ G E) {w : World} (htm : ∀ W, Below w.heap.size w W → Tab W ∧ ML W) :
    Calls Tryz.prog 46 #[.agg #[.string (qstr F), .string (qstr D)], .agg #[.string (qstr G), .string (qstr E)]] w (Rl (qstr (mxQ F G)) (qstr (mxQ D E)) w) := by
  refine Fin.rl (es := [chkL (qstr F) (qstr D), chkL (qstr G) (qstr E)]) (by rw [ha.chk, hb.chk]; rfl) (lMax_any (sz_q ha.okF) (sz_q ha.okD) (sz_q hb.okF) (sz_q hb.okD) (htm w (Below.refl _ _)).2 fun _ _ W ao c hbw hmr => ?_)
  obtain ⟨st, hst⟩ : ∃ st : Nat → ByteArray × ByteArray, st = fun i => if i = 0 then (⟨#[49]⟩, ⟨#[48]⟩) else if i = 1 then (qstr F, qstr D) else (qstr (mxQ F G), qstr (mxQ D E)) := ⟨_, rfl⟩
  have s0 : st 0 = (⟨#[49]⟩, ⟨#[48]⟩) := by rw [hst]; rfl
  have s1 : st 1 = (qstr F, qstr D) := by rw [hst]; rfl
  have s2 : st 2 = (qstr (mxQ F G), qstr (mxQ D E)) := by rw [hst]; rfl
  have h := lfold_any (g := 120) (k := 2) (c := c) (st := st) (m := 0) hmr (by omega) (Nat.le_refl _) (fun h => absurd h (by omega)) (fun _ => rfl) (fun args W => by simp [go_sem]) (fun i x W2 hi hx hb2 => ?_) (fun x W2 h => absurd h (by omega))
  · rw [s0, s2] at h
    exact h
  · have hW := fun W3 (hb3 : Below W2.heap.size W2 W3) => htm W3 (hbw.trans ((hb2.trans (hb3.mono hb2.size)).mono hbw.size))
    rcases (show i = 0 ∨ i = 1 by omega) with rfl | rfl
    · obtain rfl : x = (qstr F, qstr D) := (Option.some.inj hx).symm
      rw [s0, s1]
      have h3 := bmost_q (F := 1) (D := 0) o1Q o0Q ha.okF ha.okD hW
      have e1 : mxQ 1 F = F := by have := ha.f1; unfold mxQ; grind
      have e2 : mxQ 0 D = D := by have := ha.d0; unfold mxQ; grind
      rw [e1, e2, q1L, q0Z] at h3
      exact h3
    · obtain rfl : x = (qstr G, qstr E) := (Option.some.inj hx).symm
      rw [s1, s2]
      exact bmost_q ha.okF ha.okD hb.okF hb.okD hW
end
section
open Go.RowKit NV

theorem at9_any (s t : ByteArray) (hs : s.size ≤ 140737488351232) (ht : t.size ≤ 140737488351232) (w : World) : Calls Tryz.prog 134 #[.string s, .string t] w fun e w' => e = .returned (.bool (decide ((cmpT s t).1 ≤ 0))) ∧ Below w.heap.size w w' := by
  have HC := Lib.hid (rCmpT_any s t hs ht w)
  unfold Cm at HC
  generalize (cmpT s t).1 = c at *
  generalize (cmpT s t).2 = n at *
  clear hs ht
  by_cases h : c ≤ 0
  · rw [decide_eq_true h]
    go_enter Tryz.func134, Tryz.ntmps134
    go_wp2_with fail
    refine HC.out.mono ?_
    rintro e w1 ⟨rfl, hb⟩
    have HB := Lib.hid hb
    clear hb HC
    go_wp2_with fail
    go_ret
    exact ⟨ret_bool (by simp), HB.out⟩
  · rw [decide_eq_false h]
    go_enter Tryz.func134, Tryz.ntmps134
    go_wp2_with fail
    refine HC.out.mono ?_
    rintro e w1 ⟨rfl, hb⟩
    have HB := Lib.hid hb
    clear hb HC
    go_wp2_with fail
    go_ret
    exact ⟨ret_bool (by simp [h]), HB.out⟩
theorem chkL_yes {f d : ByteArray} (h : chkL f d = 0) : ∃ F D, f = qstr F ∧ d = qstr D ∧ LQ F D := by
  have hz := fstL_zero (l := [(rchk f : Int), (rchk d : Int), ordE ⟨#[49]⟩ [f], ordE ⟨#[48]⟩ [d, ⟨#[49]⟩]]) h
  have h1 : rchk f = 0 := by have := hz (rchk f : Int) (by simp); omega
  have h2 : rchk d = 0 := by have := hz (rchk d : Int) (by simp); omega
  have h3 := hz (ordE ⟨#[49]⟩ [f]) (by simp)
  have h4 := hz (ordE ⟨#[48]⟩ [d, ⟨#[49]⟩]) (by simp)
  obtain ⟨F, rfl, oF⟩ := rchk_rat h1
  obtain ⟨D, rfl, oD⟩ := rchk_rat h2
  rw [← q1L, ord_q o1Q oF] at h3
  rw [← q0Z, ← q1L, ord_q o0Q oD, ord_q oD o1Q] at h4
  refine ⟨F, D, rfl, rfl, oF, oD, ?_, ?_, ?_⟩
  · by_cases h5 : F < 1
    · rw [if_pos h5] at h3; exact absurd h3 (by decide)
    · exact Rat.not_lt.1 h5
  · by_cases h5 : D < 0
    · rw [if_pos h5] at h4; exact absurd h4 (by decide)
    · exact Rat.not_lt.1 h5
  · by_cases h5 : D < 0
    · rw [if_pos h5] at h4; exact absurd h4 (by decide)
    · rw [if_neg h5] at h4
      by_cases h6 : 1 < D
      · rw [if_pos h6] at h4; exact absurd h4 (by decide)
      · exact Rat.not_lt.1 h6
/-- What the reference's Check finds of the ranges. -/
theorem chkL_ref {f d : ByteArray} (h1 : rchk f = 0) (h2 : rchk d = 0) : chkL f d = if decide ((cmpT ⟨#[49]⟩ f).1 ≤ 0) && (decide ((cmpT ⟨#[48]⟩ d).1 ≤ 0) && decide ((cmpT d ⟨#[49]⟩).1 ≤ 0)) then 0 else 2 := by
  obtain ⟨F, rfl, oF⟩ := rchk_rat h1
  obtain ⟨D, rfl, oD⟩ := rchk_rat h2
  unfold chkL
  rw [h1, h2, ← q1L, ← q0Z, cmpT_q o1Q oF, cmpT_q o0Q oD, cmpT_q oD o1Q, ord_q o1Q oF, ord_q o0Q oD, ord_q oD o1Q]
  have e1 : decide (cmpQ 1 F ≤ 0) = decide (1 ≤ F) := by rw [decide_eq_decide]; exact cmpQ_le
  have e2 : decide (cmpQ 0 D ≤ 0) = decide (0 ≤ D) := by rw [decide_eq_decide]; exact cmpQ_le
  have e3 : decide (cmpQ D 1 ≤ 0) = decide (D ≤ 1) := by rw [decide_eq_decide]; exact cmpQ_le
  show fstL [((0 : Nat) : Int), ((0 : Nat) : Int), _, _] = if decide (cmpQ 1 F ≤ 0) && (decide (cmpQ 0 D ≤ 0) && decide (cmpQ D 1 ≤ 0)) then 0 else 2
  rw [e1, e2, e3]
  by_cases h3 : 1 ≤ F
  · rw [decide_eq_true h3, if_neg (Rat.not_lt.2 h3)]
    by_cases h4 : 0 ≤ D
    · rw [decide_eq_true h4, if_neg (Rat.not_lt.2 h4)]
      by_cases h5 : D ≤ 1
      · rw [decide_eq_true h5, if_neg (Rat.not_lt.2 h5)]; rfl
      · rw [decide_eq_false h5, if_pos (Rat.not_le.1 h5)]; rfl
    · rw [decide_eq_false h4, if_pos (Rat.not_le.1 h4)]; rfl
  · rw [decide_eq_false h3, if_pos (Rat.not_le.1 h3)]; rfl
set_option maxHeartbeats 6400000 in
set_option maxRecDepth 100000 in
theorem rLCheck_any {f d : ByteArray} {w : World} (hf : f.size ≤ 140737488351232) (hd : d.size ≤ 140737488351232) : Calls Tryz.prog 58 #[.agg #[.string f, .string d]] w (Er (chkL f d) w) := by
  have hb1 := (Below.refl w.heap.size w).alloc (Nat.le_refl _) (.cells #[.string f, .string d] 62)
  have r1 : RB w (w.alloc (.cells #[.string f, .string d] 62)) w.heap.size f d := RB.new (Nat.le_refl _)
  have HB0 := Lib.hid hb1
  have HR := Lib.hid r1
  have HC1 := Lib.hid (fun W => rcheck_any f W hf)
  have HC2 := Lib.hid (fun W => rcheck_any d W hd)
  have HA1 := Lib.hid (fun W => at9_any ⟨#[49]⟩ f (by decide) hf W)
  have HA2 := Lib.hid (fun W => at9_any ⟨#[48]⟩ d (by decide) hd W)
  have HA3 := Lib.hid (fun W => at9_any d ⟨#[49]⟩ hd (by decide) W)
  have HE1 := Lib.hid (show rchk f ≠ 0 → chkL f d = (rchk f : Int) from fun h => if_pos (by omega))
  have HE2 := Lib.hid (show rchk f = 0 → rchk d ≠ 0 → chkL f d = (rchk d : Int) from fun h1 h2 => by
    unfold chkL
    rw [h1]
    show (if ((0 : Nat) : Int) ≠ 0 then _ else fstL ((rchk d : Int) :: _)) = _
    rw [if_neg (by simp)]
    exact if_pos (by omega))
  have HE3 := Lib.hid (chkL_ref (f := f) (d := d))
  obtain ⟨E, hE⟩ : ∃ E, E = chkL f d := ⟨_, rfl⟩
  rw [← hE] at HE1 HE2 HE3 ⊢
  clear hb1 r1 hf hd hE
  generalize decide ((cmpT ⟨#[49]⟩ f).1 ≤ 0) = b1 at *
  generalize decide ((cmpT ⟨#[48]⟩ d).1 ≤ 0) = b2 at *
  generalize decide ((cmpT d ⟨#[49]⟩).1 ≤ 0) = b3 at *
  generalize rchk f = m1 at *
  generalize rchk d = m2 at *
  by_cases h1 : m1 = 0
  · subst h1
    by_cases h2 : m2 = 0
    · subst h2
      have HEE := Lib.hid (HE3.out rfl rfl)
      clear HE1 HE2 HE3
      cases b1 with
      | false =>
        go_enter Tryz.func58, Tryz.ntmps58
        go_wp2_with fail
        refine (HC1.out _).mono ?_
        rintro e w1 ⟨rfl, hb⟩
        have HB1 := Lib.hid (HB0.out.trans (hb.mono HB0.out.size))
        have HR := Lib.hid (HR.out.below hb)
        have k1 := HR.out.c1
        clear hb HC1
        go_wp2_with fail
        refine (HC2.out _).mono ?_
        rintro e w2 ⟨rfl, hb⟩
        have HB2 := Lib.hid (HB1.out.trans (hb.mono HB1.out.size))
        have HR := Lib.hid (HR.out.below hb)
        have k0 := HR.out.c0
        clear hb HC2
        go_wp2_with fail
        refine (HA1.out _).mono ?_
        rintro e w3 ⟨rfl, hb⟩
        have HB3 := Lib.hid (HB2.out.trans (hb.mono HB2.out.size))
        have HR := Lib.hid (HR.out.below hb)
        clear hb HA1
        go_wp2_with fail
        go_ret
        exact ⟨by rw [HEE.out]; rfl, HB3.out⟩
      | true =>
        cases b2 with
        | false =>
          go_enter Tryz.func58, Tryz.ntmps58
          go_wp2_with fail
          refine (HC1.out _).mono ?_
          rintro e w1 ⟨rfl, hb⟩
          have HB1 := Lib.hid (HB0.out.trans (hb.mono HB0.out.size))
          have HR := Lib.hid (HR.out.below hb)
          have k1 := HR.out.c1
          clear hb HC1
          go_wp2_with fail
          refine (HC2.out _).mono ?_
          rintro e w2 ⟨rfl, hb⟩
          have HB2 := Lib.hid (HB1.out.trans (hb.mono HB1.out.size))
          have HR := Lib.hid (HR.out.below hb)
          have k0 := HR.out.c0
          clear hb HC2
          go_wp2_with fail
          refine (HA1.out _).mono ?_
          rintro e w3 ⟨rfl, hb⟩
          have HB3 := Lib.hid (HB2.out.trans (hb.mono HB2.out.size))
          have HR := Lib.hid (HR.out.below hb)
          have k1 := HR.out.c1
          clear hb HA1
          go_wp2_with fail
          refine (HA2.out _).mono ?_
          rintro e w4 ⟨rfl, hb⟩
          have HB4 := Lib.hid (HB3.out.trans (hb.mono HB3.out.size))
          have HR := Lib.hid (HR.out.below hb)
          clear hb HA2
          go_wp2_with fail
          go_ret
          exact ⟨by rw [HEE.out]; rfl, HB4.out⟩
        | true =>
          cases b3 with
          | false =>
            go_enter Tryz.func58, Tryz.ntmps58
            go_wp2_with fail
            refine (HC1.out _).mono ?_
            rintro e w1 ⟨rfl, hb⟩
            have HB1 := Lib.hid (HB0.out.trans (hb.mono HB0.out.size))
            have HR := Lib.hid (HR.out.below hb)
            have k1 := HR.out.c1
            clear hb HC1
            go_wp2_with fail
            refine (HC2.out _).mono ?_
            rintro e w2 ⟨rfl, hb⟩
            have HB2 := Lib.hid (HB1.out.trans (hb.mono HB1.out.size))
            have HR := Lib.hid (HR.out.below hb)
            have k0 := HR.out.c0
            clear hb HC2
            go_wp2_with fail
            refine (HA1.out _).mono ?_
            rintro e w3 ⟨rfl, hb⟩
            have HB3 := Lib.hid (HB2.out.trans (hb.mono HB2.out.size))
            have HR := Lib.hid (HR.out.below hb)
            have k1 := HR.out.c1
            clear hb HA1
            go_wp2_with fail
            refine (HA2.out _).mono ?_
            rintro e w4 ⟨rfl, hb⟩
            have HB4 := Lib.hid (HB3.out.trans (hb.mono HB3.out.size))
            have HR := Lib.hid (HR.out.below hb)
            have k1 := HR.out.c1
            clear hb HA2
            go_wp2_with fail
            refine (HA3.out _).mono ?_
            rintro e w5 ⟨rfl, hb⟩
            have HB5 := Lib.hid (HB4.out.trans (hb.mono HB4.out.size))
            have HR := Lib.hid (HR.out.below hb)
            clear hb HA3
            go_wp2_with fail
            go_ret
            exact ⟨by rw [HEE.out]; rfl, HB5.out⟩
          | true =>
            go_enter Tryz.func58, Tryz.ntmps58
            go_wp2_with fail
            refine (HC1.out _).mono ?_
            rintro e w1 ⟨rfl, hb⟩
            have HB1 := Lib.hid (HB0.out.trans (hb.mono HB0.out.size))
            have HR := Lib.hid (HR.out.below hb)
            have k1 := HR.out.c1
            clear hb HC1
            go_wp2_with fail
            refine (HC2.out _).mono ?_
            rintro e w2 ⟨rfl, hb⟩
            have HB2 := Lib.hid (HB1.out.trans (hb.mono HB1.out.size))
            have HR := Lib.hid (HR.out.below hb)
            have k0 := HR.out.c0
            clear hb HC2
            go_wp2_with fail
            refine (HA1.out _).mono ?_
            rintro e w3 ⟨rfl, hb⟩
            have HB3 := Lib.hid (HB2.out.trans (hb.mono HB2.out.size))
            have HR := Lib.hid (HR.out.below hb)
            have k1 := HR.out.c1
            clear hb HA1
            go_wp2_with fail
            refine (HA2.out _).mono ?_
            rintro e w4 ⟨rfl, hb⟩
            have HB4 := Lib.hid (HB3.out.trans (hb.mono HB3.out.size))
            have HR := Lib.hid (HR.out.below hb)
            have k1 := HR.out.c1
            clear hb HA2
            go_wp2_with fail
            refine (HA3.out _).mono ?_
            rintro e w5 ⟨rfl, hb⟩
            have HB5 := Lib.hid (HB4.out.trans (hb.mono HB4.out.size))
            have HR := Lib.hid (HR.out.below hb)
            clear hb HA3
            go_wp2_with fail
            go_ret
            exact ⟨by rw [HEE.out]; rfl, HB5.out⟩
    · have HEE := Lib.hid (HE2.out rfl h2)
      have hz : (((m2 : Nat) : Int) != 0) = true := by simpa using (show (m2 : Int) ≠ 0 by omega)
      clear HE1 HE2 HE3 h2 HA1 HA2 HA3
      go_enter Tryz.func58, Tryz.ntmps58
      go_wp2_with fail
      refine (HC1.out _).mono ?_
      rintro e w1 ⟨rfl, hb⟩
      have HB1 := Lib.hid (HB0.out.trans (hb.mono HB0.out.size))
      have c1 := (HR.out.below hb).c1
      clear hb HC1
      go_wp2_with fail
      refine (HC2.out _).mono ?_
      rintro e w2 ⟨rfl, hb⟩
      have HB2 := Lib.hid (HB1.out.trans (hb.mono HB1.out.size))
      clear hb HC2 c1
      go_wp2_with fail
      go_ret
      exact ⟨by rw [HEE.out]; rfl, HB2.out⟩
  · have HEE := Lib.hid (HE1.out h1)
    have hz : (((m1 : Nat) : Int) != 0) = true := by simpa using (show (m1 : Int) ≠ 0 by omega)
    clear HE1 HE2 HE3 h1 HA1 HA2 HA3 HC2
    go_enter Tryz.func58, Tryz.ntmps58
    go_wp2_with fail
    refine (HC1.out _).mono ?_
    rintro e w1 ⟨rfl, hb⟩
    have HB1 := Lib.hid (HB0.out.trans (hb.mono HB0.out.size))
    clear hb HC1
    go_wp2_with fail
    go_ret
    exact ⟨by rw [HEE.out]; rfl, HB1.out⟩
end
section
open Go.RowKit NV

def lgtX (x : MI) : Bool := decide (x.1.size ≤ 100) && decide (x.2.size ≤ 100)
set_option maxHeartbeats 6400000 in
set_option maxRecDepth 100000 in
theorem light9_any {L : List MI} {N c : Nat} {ao : Option Addr} {w : World} (hr : MR w ao N L) (hN : N ≤ 1000000) (hs : ∀ x, x ∈ L → x.1.size ≤ 140737488351232 ∧ x.2.size ≤ 140737488351232) :
    Calls Tryz.prog 52 #[.slice ao N c] w fun e w' => e = .returned (.bool (L.all lgtX)) ∧ w' = w := by
  have HR := Lib.hid hr
  have HS := Lib.hid hs
  obtain ⟨r, hrr⟩ : ∃ r, r = L.all lgtX := ⟨_, rfl⟩
  rw [← hrr]
  have HNO := Lib.hid (show ∀ (k : Nat) (x : MI), L[k]? = some x → lgtX x = false → r = false from fun k x hx h => by
    rw [hrr, List.all_eq_false]
    exact ⟨x, List.mem_of_getElem? hx, by rw [h]; decide⟩)
  have HYES := Lib.hid (show (∀ (k : Nat) (x : MI), k < N → L[k]? = some x → lgtX x = true) → r = true from fun h => by
    rw [hrr, List.all_eq_true]
    intro x hx
    obtain ⟨k, hk, rfl⟩ := List.mem_iff_getElem.1 hx
    exact h k _ (by rw [← hr.len]; exact hk) (List.getElem?_eq_getElem hk))
  clear hr hs hrr
  go_enter Tryz.func52, Tryz.ntmps52
  go_wp2_with fail
  go_loop [3] (fun iv => ∃ k : Nat, k ≤ N ∧ iv = .int .i64 (k : Int) ∧ Hid (∀ j x, j < k → L[j]? = some x → lgtX x = true)) (fun iv => N - (intOf iv).toNat)
  case atStart => exact ⟨0, Nat.zero_le _, rfl, Lib.hid (fun j x hj => absurd hj (Nat.not_lt_zero _))⟩
  case round =>
    obtain ⟨k, hk, rfl, HALL⟩ := hrel
    by_cases hlt : k < N
    · obtain ⟨a, x, rfl, hx, _, c0, c1⟩ := HR.out.at hlt
      have HXX := Lib.hid hx
      have hsz := HS.out x (List.mem_of_getElem? hx)
      have HNK := Lib.hid (HNO.out k x hx)
      have hlx : lgtX x = (decide (x.1.size ≤ 100) && decide (x.2.size ≤ 100)) := rfl
      have HLX := Lib.hid hlx
      obtain ⟨x1, x2⟩ := x
      have hs1 : x1.size ≤ 140737488351232 := hsz.1
      have hs2 : x2.size ≤ 140737488351232 := hsz.2
      clear hx hlx hsz
      by_cases ha : x1.size ≤ 100
      · have ha2 : ¬ 100 < (x1.size : Int) := by omega
        by_cases hb : x2.size ≤ 100
        · have hb2 : ¬ 100 < (x2.size : Int) := by omega
          have HL1 := Lib.hid (show lgtX (x1, x2) = true by rw [HLX.out, decide_eq_true ha, decide_eq_true hb]; rfl)
          clear HNK HLX
          go_wp2_with fail
          go_round
          case rel => exact ⟨k + 1, by omega, by go_num, Lib.hid (fun j y hj hy => by
            rcases Nat.lt_or_ge j k with h | h
            · exact HALL.out j y h hy
            · obtain rfl : k = j := by omega
              rw [HXX.out] at hy
              obtain rfl := Option.some.inj hy
              exact HL1.out)⟩
          case measure => simp [intOf]; omega
        · have hb2 : 100 < (x2.size : Int) := by omega
          have HL1 := Lib.hid (HNK.out (by rw [HLX.out, decide_eq_false hb, Bool.and_false]))
          clear HNK HLX HALL HXX HNO HYES HR HS
          go_wp2_with fail
          go_ret
          exact ⟨by rw [HL1.out]; rfl, rfl⟩
      · have ha2 : 100 < (x1.size : Int) := by omega
        have HL1 := Lib.hid (HNK.out (by rw [HLX.out, decide_eq_false ha, Bool.false_and]))
        clear HNK HLX HALL HXX HNO HYES HR HS
        go_wp2_with fail
        go_ret
        exact ⟨by rw [HL1.out]; rfl, rfl⟩
    · obtain rfl : k = N := by omega
      have HT := Lib.hid (HYES.out HALL.out)
      clear HALL HNO HYES HR HS
      go_wp2_with fail
      go_ret
      exact ⟨by rw [HT.out]; rfl, rfl⟩
theorem mn1_as {a b c : Rat} (ha : 0 ≤ a) (hc : 0 ≤ c) : mn1 (mn1 (a + b) + c) = mn1 (a + mn1 (b + c)) := by unfold mn1; grind
theorem mn1_mono {a b : Rat} (h : a ≤ b) : mn1 a ≤ mn1 b := by unfold mn1; grind
/-- A valid loss and its size. -/
structure LZ (F D : Rat) : Prop extends LQ F D where
  zF : Sz 100 F
  zD : Sz 100 D
theorem lz_of {f d : ByteArray} (h : chkL f d = 0) (hl : lgtX (f, d) = true) : ∃ F D, f = qstr F ∧ d = qstr D ∧ LZ F D := by
  obtain ⟨F, D, rfl, rfl, hq⟩ := chkL_yes h
  unfold lgtX at hl
  rw [Bool.and_eq_true, decide_eq_true_iff, decide_eq_true_iff] at hl
  exact ⟨F, D, rfl, rfl, hq, Sz.ofA (by omega) hl.1, Sz.ofA (by omega) hl.2⟩
theorem LQ.add {F D G E : Rat} (ha : LQ F D) (hb : LQ G E) (h1 : QOk (F * G)) (h2 : QOk (D + E)) : LQ (F * G) (mn1 (D + E)) := by
  have a1 := ha.f1
  have a2 := ha.d0
  have b1 := hb.f1
  have b2 := hb.d0
  refine ⟨h1, mn1_ok h2, ?_, mn1_nn (by grind), mn1_le⟩
  have h := Rat.mul_nonneg (show 0 ≤ F - 1 by grind) (show 0 ≤ G - 1 by grind)
  have e : (F - 1) * (G - 1) = F * G - F - G + 1 := by grind
  rw [e] at h
  grind
theorem sz_mn1 {d : Rat} {k : Nat} (h : Sz k d) (hk : 1 ≤ k) : Sz k (mn1 d) := by
  unfold mn1
  split
  · exact h
  · exact (show Sz 1 (1 : Rat) from ⟨by decide, by decide⟩).mono hk
/-- What LossOrder asks of the Bools. -/
theorem ord_bools {A a B b C c : Rat} (hC : LQ C c) :
    (ftB A a B b = true → ftB (A * C) (mn1 (a + c)) (B * C) (mn1 (b + c)) = true) ∧ ftB A a (mxQ A B) (mxQ a b) = true ∧ ftB B b (mxQ A B) (mxQ a b) = true ∧ ftB (mxQ A B) (mxQ a b) C c = (ftB A a C c && ftB B b C c) := by
  unfold ftB
  refine ⟨fun h => ?_, ?_, ?_, ?_⟩
  · rw [Bool.and_eq_true, decide_eq_true_iff, decide_eq_true_iff] at h ⊢
    have hc := hC.f1
    refine ⟨?_, mn1_mono (by grind)⟩
    have h2 := Rat.mul_nonneg (show 0 ≤ B - A by grind) (show 0 ≤ C by grind)
    have e : (B - A) * C = B * C - A * C := by grind
    rw [e] at h2
    grind
  · rw [Bool.and_eq_true, decide_eq_true_iff, decide_eq_true_iff]
    unfold mxQ
    constructor <;> grind
  · rw [Bool.and_eq_true, decide_eq_true_iff, decide_eq_true_iff]
    unfold mxQ
    constructor <;> grind
  · rw [Bool.eq_iff_iff]
    simp only [Bool.and_eq_true, decide_eq_true_iff]
    unfold mxQ
    constructor
    · intro h; grind
    · intro h; grind
end
section
open Go.RowKit NV

theorem neq_same (a b : ByteArray) (W : World) : (binOp .neq 62 (.agg #[.string a, .string b]) (.agg #[.string a, .string b])).run Tryz.prog W = .ok (.bool false) W := by
  rw [run_neq_struct, eqIn_loss (a, b) (a, b)]
  have e : eqMZ (a, b) (a, b) = true := eqMZ_iff.2 rfl
  rw [e]
  rfl
set_option maxHeartbeats 25600000 in
set_option maxRecDepth 100000 in
theorem ow_light {a1 a2 b1 b2 c1 c2 : ByteArray} {w : World} (hl : ∀ W, Below w.heap.size w W → Calls Tryz.prog 40 #[] W fun e w' => e = .returned (.bool true) ∧ Below W.heap.size W w')
    (hli : ∀ W, Below w.heap.size w W → Calls Tryz.prog 52 #[.slice (some ⟨W.heap.size, 0, none⟩) 3 3] (W.alloc (.cells #[.string a1, .string a2, .string b1, .string b2, .string c1, .string c2] 62)) fun e w' => e = .returned (.bool false) ∧ w' = W.alloc (.cells #[.string a1, .string a2, .string b1, .string b2, .string c1, .string c2] 62))
    : Calls Tryz.prog 14 #[.agg #[.string a1, .string a2], .agg #[.string b1, .string b2], .agg #[.string c1, .string c2]] w fun e w' => e = .returned (.bool true) ∧ Below w.heap.size w w' := by
  have r1 : RB w (w.alloc (.cells #[.string a1, .string a2] 62)) w.heap.size a1 a2 := RB.new (Nat.le_refl _)
  have h1 := (Below.refl w.heap.size w).alloc (Nat.le_refl _) (.cells #[.string a1, .string a2] 62)
  have h2 := h1.alloc h1.size (.cells #[.string b1, .string b2] 62)
  have h3 := h2.alloc h2.size (.cells #[.string c1, .string c2] 62)
  have i2 := (Below.refl (w.alloc (.cells #[.string a1, .string a2] 62)).heap.size (w.alloc (.cells #[.string a1, .string a2] 62))).alloc (Nat.le_refl _) (.cells #[.string b1, .string b2] 62)
  have i3 := (Below.refl ((w.alloc (.cells #[.string a1, .string a2] 62)).alloc (.cells #[.string b1, .string b2] 62)).heap.size ((w.alloc (.cells #[.string a1, .string a2] 62)).alloc (.cells #[.string b1, .string b2] 62))).alloc (Nat.le_refl _) (.cells #[.string c1, .string c2] 62)
  have r2 : RB w ((w.alloc (.cells #[.string a1, .string a2] 62)).alloc (.cells #[.string b1, .string b2] 62)) (w.heap.size + 1) b1 b2 := by
    have h := RB.new (w := w) (W := (w.alloc (.cells #[.string a1, .string a2] 62))) (s := b1) (t := b2) (ty := 62) (by simp)
    simpa using h
  have r3 : RB w (((w.alloc (.cells #[.string a1, .string a2] 62)).alloc (.cells #[.string b1, .string b2] 62)).alloc (.cells #[.string c1, .string c2] 62)) (w.heap.size + 2) c1 c2 := by
    have h := RB.new (w := w) (W := ((w.alloc (.cells #[.string a1, .string a2] 62)).alloc (.cells #[.string b1, .string b2] 62))) (s := c1) (t := c2) (ty := 62) (by simp; omega)
    simpa using h
  have HR := Lib.hid (And.intro ((r1.below i2).below i3) (And.intro (r2.below i3) r3))
  have HB := Lib.hid h3
  clear r1 r2 r3 h1 h2 h3 i2 i3
  have HL0 := Lib.hid hl
  have HLI := Lib.hid hli
  clear hl hli
  have HL := Lib.hid (HL0.out _ HB.out)
  clear HL0
  go_enter Tryz.func14, Tryz.ntmps14
  go_wp2_with fail
  refine (HL.out).mono ?_
  rintro e v1 ⟨rfl, hb⟩
  have hbk := HB.out.trans (hb.mono HB.out.size)
  have q0 := HR.out.1.below hb
  have q1 := HR.out.2.1.below hb
  have q2 := HR.out.2.2.below hb
  have HR := Lib.hid (And.intro q0 (And.intro q1 q2))
  have HB := Lib.hid hbk
  have ka0 := q0.c0
  have ka1 := q0.c1
  have kb0 := q1.c0
  have kb1 := q1.c1
  have kc0 := q2.c0
  have kc1 := q2.c1
  clear hb hbk q0 q1 q2
  go_wp2_with fail
  refine (HLI.out _ HB.out).mono ?_
  rintro e u0 ⟨rfl, hu⟩
  obtain rfl := hu
  have HB := Lib.hid (HB.out.alloc HB.out.size (.cells #[.string a1, .string a2, .string b1, .string b2, .string c1, .string c2] 62))
  clear ka0 ka1 kb0 kb1 kc0 kc1
  go_wp2_with fail
  go_ret
  exact ⟨rfl, HB.out⟩
set_option maxHeartbeats 25600000 in
set_option maxRecDepth 100000 in
theorem ow_a {a1 a2 b1 b2 c1 c2 : ByteArray} {n : Int} {w : World} (hl : ∀ W, Below w.heap.size w W → Calls Tryz.prog 40 #[] W fun e w' => e = .returned (.bool true) ∧ Below W.heap.size W w')
    (hli : ∀ W, Below w.heap.size w W → Calls Tryz.prog 52 #[.slice (some ⟨W.heap.size, 0, none⟩) 3 3] (W.alloc (.cells #[.string a1, .string a2, .string b1, .string b2, .string c1, .string c2] 62)) fun e w' => e = .returned (.bool true) ∧ w' = W.alloc (.cells #[.string a1, .string a2, .string b1, .string b2, .string c1, .string c2] 62))
    (hk1 : ∀ W, Calls Tryz.prog 58 #[.agg #[.string a1, .string a2]] W fun e w' => e = .returned (.int .i64 n) ∧ Below W.heap.size W w')
    (hn : (n != 0) = true)
    : Calls Tryz.prog 14 #[.agg #[.string a1, .string a2], .agg #[.string b1, .string b2], .agg #[.string c1, .string c2]] w fun e w' => e = .returned (.bool true) ∧ Below w.heap.size w w' := by
  have r1 : RB w (w.alloc (.cells #[.string a1, .string a2] 62)) w.heap.size a1 a2 := RB.new (Nat.le_refl _)
  have h1 := (Below.refl w.heap.size w).alloc (Nat.le_refl _) (.cells #[.string a1, .string a2] 62)
  have h2 := h1.alloc h1.size (.cells #[.string b1, .string b2] 62)
  have h3 := h2.alloc h2.size (.cells #[.string c1, .string c2] 62)
  have i2 := (Below.refl (w.alloc (.cells #[.string a1, .string a2] 62)).heap.size (w.alloc (.cells #[.string a1, .string a2] 62))).alloc (Nat.le_refl _) (.cells #[.string b1, .string b2] 62)
  have i3 := (Below.refl ((w.alloc (.cells #[.string a1, .string a2] 62)).alloc (.cells #[.string b1, .string b2] 62)).heap.size ((w.alloc (.cells #[.string a1, .string a2] 62)).alloc (.cells #[.string b1, .string b2] 62))).alloc (Nat.le_refl _) (.cells #[.string c1, .string c2] 62)
  have r2 : RB w ((w.alloc (.cells #[.string a1, .string a2] 62)).alloc (.cells #[.string b1, .string b2] 62)) (w.heap.size + 1) b1 b2 := by
    have h := RB.new (w := w) (W := (w.alloc (.cells #[.string a1, .string a2] 62))) (s := b1) (t := b2) (ty := 62) (by simp)
    simpa using h
  have r3 : RB w (((w.alloc (.cells #[.string a1, .string a2] 62)).alloc (.cells #[.string b1, .string b2] 62)).alloc (.cells #[.string c1, .string c2] 62)) (w.heap.size + 2) c1 c2 := by
    have h := RB.new (w := w) (W := ((w.alloc (.cells #[.string a1, .string a2] 62)).alloc (.cells #[.string b1, .string b2] 62))) (s := c1) (t := c2) (ty := 62) (by simp; omega)
    simpa using h
  have HR := Lib.hid (And.intro ((r1.below i2).below i3) (And.intro (r2.below i3) r3))
  have HB := Lib.hid h3
  clear r1 r2 r3 h1 h2 h3 i2 i3
  have HL0 := Lib.hid hl
  have HLI := Lib.hid hli
  have HK1 := Lib.hid hk1
  clear hl hli hk1
  have HL := Lib.hid (HL0.out _ HB.out)
  clear HL0
  go_enter Tryz.func14, Tryz.ntmps14
  go_wp2_with fail
  refine (HL.out).mono ?_
  rintro e v1 ⟨rfl, hb⟩
  have hbk := HB.out.trans (hb.mono HB.out.size)
  have q0 := HR.out.1.below hb
  have q1 := HR.out.2.1.below hb
  have q2 := HR.out.2.2.below hb
  have HR := Lib.hid (And.intro q0 (And.intro q1 q2))
  have HB := Lib.hid hbk
  have ka0 := q0.c0
  have ka1 := q0.c1
  have kb0 := q1.c0
  have kb1 := q1.c1
  have kc0 := q2.c0
  have kc1 := q2.c1
  clear hb hbk q0 q1 q2
  go_wp2_with fail
  refine (HLI.out _ HB.out).mono ?_
  rintro e u0 ⟨rfl, hu⟩
  obtain rfl := hu
  have hbA := (Below.refl v1.heap.size v1).alloc (Nat.le_refl _) (.cells #[.string a1, .string a2, .string b1, .string b2, .string c1, .string c2] 62)
  have q0 := HR.out.1.below hbA
  have q1 := HR.out.2.1.below hbA
  have q2 := HR.out.2.2.below hbA
  have HR := Lib.hid (And.intro q0 (And.intro q1 q2))
  have HB := Lib.hid (HB.out.alloc HB.out.size (.cells #[.string a1, .string a2, .string b1, .string b2, .string c1, .string c2] 62))
  clear ka0 ka1 kb0 kb1 kc0 kc1
  have ka0 := q0.c0
  have ka1 := q0.c1
  clear hbA q0 q1 q2
  go_wp2_with fail
  refine (HK1.out _).mono ?_
  rintro e v2 ⟨rfl, hb⟩
  have hbk := HB.out.trans (hb.mono HB.out.size)
  have q0 := HR.out.1.below hb
  have q1 := HR.out.2.1.below hb
  have q2 := HR.out.2.2.below hb
  have HR := Lib.hid (And.intro q0 (And.intro q1 q2))
  have HB := Lib.hid hbk
  clear ka0 ka1
  clear hb hbk q0 q1 q2
  go_wp2_with fail
  go_ret
  exact ⟨rfl, HB.out⟩
set_option maxHeartbeats 25600000 in
set_option maxRecDepth 100000 in
theorem ow_b {a1 a2 b1 b2 c1 c2 : ByteArray} {n : Int} {w : World} (hl : ∀ W, Below w.heap.size w W → Calls Tryz.prog 40 #[] W fun e w' => e = .returned (.bool true) ∧ Below W.heap.size W w')
    (hli : ∀ W, Below w.heap.size w W → Calls Tryz.prog 52 #[.slice (some ⟨W.heap.size, 0, none⟩) 3 3] (W.alloc (.cells #[.string a1, .string a2, .string b1, .string b2, .string c1, .string c2] 62)) fun e w' => e = .returned (.bool true) ∧ w' = W.alloc (.cells #[.string a1, .string a2, .string b1, .string b2, .string c1, .string c2] 62))
    (hk1 : ∀ W, Calls Tryz.prog 58 #[.agg #[.string a1, .string a2]] W fun e w' => e = .returned (.int .i64 0) ∧ Below W.heap.size W w')
    (hk2 : ∀ W, Calls Tryz.prog 58 #[.agg #[.string b1, .string b2]] W fun e w' => e = .returned (.int .i64 n) ∧ Below W.heap.size W w')
    (hn : (n != 0) = true)
    : Calls Tryz.prog 14 #[.agg #[.string a1, .string a2], .agg #[.string b1, .string b2], .agg #[.string c1, .string c2]] w fun e w' => e = .returned (.bool true) ∧ Below w.heap.size w w' := by
  have r1 : RB w (w.alloc (.cells #[.string a1, .string a2] 62)) w.heap.size a1 a2 := RB.new (Nat.le_refl _)
  have h1 := (Below.refl w.heap.size w).alloc (Nat.le_refl _) (.cells #[.string a1, .string a2] 62)
  have h2 := h1.alloc h1.size (.cells #[.string b1, .string b2] 62)
  have h3 := h2.alloc h2.size (.cells #[.string c1, .string c2] 62)
  have i2 := (Below.refl (w.alloc (.cells #[.string a1, .string a2] 62)).heap.size (w.alloc (.cells #[.string a1, .string a2] 62))).alloc (Nat.le_refl _) (.cells #[.string b1, .string b2] 62)
  have i3 := (Below.refl ((w.alloc (.cells #[.string a1, .string a2] 62)).alloc (.cells #[.string b1, .string b2] 62)).heap.size ((w.alloc (.cells #[.string a1, .string a2] 62)).alloc (.cells #[.string b1, .string b2] 62))).alloc (Nat.le_refl _) (.cells #[.string c1, .string c2] 62)
  have r2 : RB w ((w.alloc (.cells #[.string a1, .string a2] 62)).alloc (.cells #[.string b1, .string b2] 62)) (w.heap.size + 1) b1 b2 := by
    have h := RB.new (w := w) (W := (w.alloc (.cells #[.string a1, .string a2] 62))) (s := b1) (t := b2) (ty := 62) (by simp)
    simpa using h
  have r3 : RB w (((w.alloc (.cells #[.string a1, .string a2] 62)).alloc (.cells #[.string b1, .string b2] 62)).alloc (.cells #[.string c1, .string c2] 62)) (w.heap.size + 2) c1 c2 := by
    have h := RB.new (w := w) (W := ((w.alloc (.cells #[.string a1, .string a2] 62)).alloc (.cells #[.string b1, .string b2] 62))) (s := c1) (t := c2) (ty := 62) (by simp; omega)
    simpa using h
  have HR := Lib.hid (And.intro ((r1.below i2).below i3) (And.intro (r2.below i3) r3))
  have HB := Lib.hid h3
  clear r1 r2 r3 h1 h2 h3 i2 i3
  have HL0 := Lib.hid hl
  have HLI := Lib.hid hli
  have HK1 := Lib.hid hk1
  have HK2 := Lib.hid hk2
  clear hl hli hk1 hk2
  have HL := Lib.hid (HL0.out _ HB.out)
  clear HL0
  go_enter Tryz.func14, Tryz.ntmps14
  go_wp2_with fail
  refine (HL.out).mono ?_
  rintro e v1 ⟨rfl, hb⟩
  have hbk := HB.out.trans (hb.mono HB.out.size)
  have q0 := HR.out.1.below hb
  have q1 := HR.out.2.1.below hb
  have q2 := HR.out.2.2.below hb
  have HR := Lib.hid (And.intro q0 (And.intro q1 q2))
  have HB := Lib.hid hbk
  have ka0 := q0.c0
  have ka1 := q0.c1
  have kb0 := q1.c0
  have kb1 := q1.c1
  have kc0 := q2.c0
  have kc1 := q2.c1
  clear hb hbk q0 q1 q2
  go_wp2_with fail
  refine (HLI.out _ HB.out).mono ?_
  rintro e u0 ⟨rfl, hu⟩
  obtain rfl := hu
  have hbA := (Below.refl v1.heap.size v1).alloc (Nat.le_refl _) (.cells #[.string a1, .string a2, .string b1, .string b2, .string c1, .string c2] 62)
  have q0 := HR.out.1.below hbA
  have q1 := HR.out.2.1.below hbA
  have q2 := HR.out.2.2.below hbA
  have HR := Lib.hid (And.intro q0 (And.intro q1 q2))
  have HB := Lib.hid (HB.out.alloc HB.out.size (.cells #[.string a1, .string a2, .string b1, .string b2, .string c1, .string c2] 62))
  clear ka0 ka1 kb0 kb1 kc0 kc1
  have ka0 := q0.c0
  have ka1 := q0.c1
  clear hbA q0 q1 q2
  go_wp2_with fail
  refine (HK1.out _).mono ?_
  rintro e v2 ⟨rfl, hb⟩
  have hbk := HB.out.trans (hb.mono HB.out.size)
  have q0 := HR.out.1.below hb
  have q1 := HR.out.2.1.below hb
  have q2 := HR.out.2.2.below hb
  have HR := Lib.hid (And.intro q0 (And.intro q1 q2))
  have HB := Lib.hid hbk
  clear ka0 ka1
  have kb0 := q1.c0
  have kb1 := q1.c1
  clear hb hbk q0 q1 q2
  go_wp2_with fail
  refine (HK2.out _).mono ?_
  rintro e v3 ⟨rfl, hb⟩
  have hbk := HB.out.trans (hb.mono HB.out.size)
  have q0 := HR.out.1.below hb
  have q1 := HR.out.2.1.below hb
  have q2 := HR.out.2.2.below hb
  have HR := Lib.hid (And.intro q0 (And.intro q1 q2))
  have HB := Lib.hid hbk
  clear kb0 kb1
  clear hb hbk q0 q1 q2
  go_wp2_with fail
  go_ret
  exact ⟨rfl, HB.out⟩
set_option maxHeartbeats 25600000 in
set_option maxRecDepth 100000 in
theorem ow_c {a1 a2 b1 b2 c1 c2 : ByteArray} {n : Int} {w : World} (hl : ∀ W, Below w.heap.size w W → Calls Tryz.prog 40 #[] W fun e w' => e = .returned (.bool true) ∧ Below W.heap.size W w')
    (hli : ∀ W, Below w.heap.size w W → Calls Tryz.prog 52 #[.slice (some ⟨W.heap.size, 0, none⟩) 3 3] (W.alloc (.cells #[.string a1, .string a2, .string b1, .string b2, .string c1, .string c2] 62)) fun e w' => e = .returned (.bool true) ∧ w' = W.alloc (.cells #[.string a1, .string a2, .string b1, .string b2, .string c1, .string c2] 62))
    (hk1 : ∀ W, Calls Tryz.prog 58 #[.agg #[.string a1, .string a2]] W fun e w' => e = .returned (.int .i64 0) ∧ Below W.heap.size W w')
    (hk2 : ∀ W, Calls Tryz.prog 58 #[.agg #[.string b1, .string b2]] W fun e w' => e = .returned (.int .i64 0) ∧ Below W.heap.size W w')
    (hk3 : ∀ W, Calls Tryz.prog 58 #[.agg #[.string c1, .string c2]] W fun e w' => e = .returned (.int .i64 n) ∧ Below W.heap.size W w')
    (hn : (n != 0) = true)
    : Calls Tryz.prog 14 #[.agg #[.string a1, .string a2], .agg #[.string b1, .string b2], .agg #[.string c1, .string c2]] w fun e w' => e = .returned (.bool true) ∧ Below w.heap.size w w' := by
  have r1 : RB w (w.alloc (.cells #[.string a1, .string a2] 62)) w.heap.size a1 a2 := RB.new (Nat.le_refl _)
  have h1 := (Below.refl w.heap.size w).alloc (Nat.le_refl _) (.cells #[.string a1, .string a2] 62)
  have h2 := h1.alloc h1.size (.cells #[.string b1, .string b2] 62)
  have h3 := h2.alloc h2.size (.cells #[.string c1, .string c2] 62)
  have i2 := (Below.refl (w.alloc (.cells #[.string a1, .string a2] 62)).heap.size (w.alloc (.cells #[.string a1, .string a2] 62))).alloc (Nat.le_refl _) (.cells #[.string b1, .string b2] 62)
  have i3 := (Below.refl ((w.alloc (.cells #[.string a1, .string a2] 62)).alloc (.cells #[.string b1, .string b2] 62)).heap.size ((w.alloc (.cells #[.string a1, .string a2] 62)).alloc (.cells #[.string b1, .string b2] 62))).alloc (Nat.le_refl _) (.cells #[.string c1, .string c2] 62)
  have r2 : RB w ((w.alloc (.cells #[.string a1, .string a2] 62)).alloc (.cells #[.string b1, .string b2] 62)) (w.heap.size + 1) b1 b2 := by
    have h := RB.new (w := w) (W := (w.alloc (.cells #[.string a1, .string a2] 62))) (s := b1) (t := b2) (ty := 62) (by simp)
    simpa using h
  have r3 : RB w (((w.alloc (.cells #[.string a1, .string a2] 62)).alloc (.cells #[.string b1, .string b2] 62)).alloc (.cells #[.string c1, .string c2] 62)) (w.heap.size + 2) c1 c2 := by
    have h := RB.new (w := w) (W := ((w.alloc (.cells #[.string a1, .string a2] 62)).alloc (.cells #[.string b1, .string b2] 62))) (s := c1) (t := c2) (ty := 62) (by simp; omega)
    simpa using h
  have HR := Lib.hid (And.intro ((r1.below i2).below i3) (And.intro (r2.below i3) r3))
  have HB := Lib.hid h3
  clear r1 r2 r3 h1 h2 h3 i2 i3
  have HL0 := Lib.hid hl
  have HLI := Lib.hid hli
  have HK1 := Lib.hid hk1
  have HK2 := Lib.hid hk2
  have HK3 := Lib.hid hk3
  clear hl hli hk1 hk2 hk3
  have HL := Lib.hid (HL0.out _ HB.out)
  clear HL0
  go_enter Tryz.func14, Tryz.ntmps14
  go_wp2_with fail
  refine (HL.out).mono ?_
  rintro e v1 ⟨rfl, hb⟩
  have hbk := HB.out.trans (hb.mono HB.out.size)
  have q0 := HR.out.1.below hb
  have q1 := HR.out.2.1.below hb
  have q2 := HR.out.2.2.below hb
  have HR := Lib.hid (And.intro q0 (And.intro q1 q2))
  have HB := Lib.hid hbk
  have ka0 := q0.c0
  have ka1 := q0.c1
  have kb0 := q1.c0
  have kb1 := q1.c1
  have kc0 := q2.c0
  have kc1 := q2.c1
  clear hb hbk q0 q1 q2
  go_wp2_with fail
  refine (HLI.out _ HB.out).mono ?_
  rintro e u0 ⟨rfl, hu⟩
  obtain rfl := hu
  have hbA := (Below.refl v1.heap.size v1).alloc (Nat.le_refl _) (.cells #[.string a1, .string a2, .string b1, .string b2, .string c1, .string c2] 62)
  have q0 := HR.out.1.below hbA
  have q1 := HR.out.2.1.below hbA
  have q2 := HR.out.2.2.below hbA
  have HR := Lib.hid (And.intro q0 (And.intro q1 q2))
  have HB := Lib.hid (HB.out.alloc HB.out.size (.cells #[.string a1, .string a2, .string b1, .string b2, .string c1, .string c2] 62))
  clear ka0 ka1 kb0 kb1 kc0 kc1
  have ka0 := q0.c0
  have ka1 := q0.c1
  clear hbA q0 q1 q2
  go_wp2_with fail
  refine (HK1.out _).mono ?_
  rintro e v2 ⟨rfl, hb⟩
  have hbk := HB.out.trans (hb.mono HB.out.size)
  have q0 := HR.out.1.below hb
  have q1 := HR.out.2.1.below hb
  have q2 := HR.out.2.2.below hb
  have HR := Lib.hid (And.intro q0 (And.intro q1 q2))
  have HB := Lib.hid hbk
  clear ka0 ka1
  have kb0 := q1.c0
  have kb1 := q1.c1
  clear hb hbk q0 q1 q2
  go_wp2_with fail
  refine (HK2.out _).mono ?_
  rintro e v3 ⟨rfl, hb⟩
  have hbk := HB.out.trans (hb.mono HB.out.size)
  have q0 := HR.out.1.below hb
  have q1 := HR.out.2.1.below hb
  have q2 := HR.out.2.2.below hb
  have HR := Lib.hid (And.intro q0 (And.intro q1 q2))
  have HB := Lib.hid hbk
  clear kb0 kb1
  have kc0 := q2.c0
  have kc1 := q2.c1
  clear hb hbk q0 q1 q2
  go_wp2_with fail
  refine (HK3.out _).mono ?_
  rintro e v4 ⟨rfl, hb⟩
  have hbk := HB.out.trans (hb.mono HB.out.size)
  have q0 := HR.out.1.below hb
  have q1 := HR.out.2.1.below hb
  have q2 := HR.out.2.2.below hb
  have HR := Lib.hid (And.intro q0 (And.intro q1 q2))
  have HB := Lib.hid hbk
  clear kc0 kc1
  clear hb hbk q0 q1 q2
  go_wp2_with fail
  go_ret
  exact ⟨rfl, HB.out⟩
set_option maxHeartbeats 25600000 in
set_option maxRecDepth 100000 in
theorem ow_main {a1 a2 b1 b2 c1 c2 : ByteArray} {d1 d2 e1 e2 x1 x2 g1 g2 m1 m2 : ByteArray} {lb mb rb sb : Bool} {w : World} (hl : ∀ W, Below w.heap.size w W → Calls Tryz.prog 40 #[] W fun e w' => e = .returned (.bool true) ∧ Below W.heap.size W w')
    (hli : ∀ W, Below w.heap.size w W → Calls Tryz.prog 52 #[.slice (some ⟨W.heap.size, 0, none⟩) 3 3] (W.alloc (.cells #[.string a1, .string a2, .string b1, .string b2, .string c1, .string c2] 62)) fun e w' => e = .returned (.bool true) ∧ w' = W.alloc (.cells #[.string a1, .string a2, .string b1, .string b2, .string c1, .string c2] 62))
    (hk1 : ∀ W, Calls Tryz.prog 58 #[.agg #[.string a1, .string a2]] W fun e w' => e = .returned (.int .i64 0) ∧ Below W.heap.size W w')
    (hk2 : ∀ W, Calls Tryz.prog 58 #[.agg #[.string b1, .string b2]] W fun e w' => e = .returned (.int .i64 0) ∧ Below W.heap.size W w')
    (hk3 : ∀ W, Calls Tryz.prog 58 #[.agg #[.string c1, .string c2]] W fun e w' => e = .returned (.int .i64 0) ∧ Below W.heap.size W w')
    (hA1 : ∀ W, Below w.heap.size w W → Calls Tryz.prog 41 #[.agg #[.string a1, .string a2], .agg #[.string b1, .string b2]] W fun e w' => e = .returned (.tuple #[.agg #[.string d1, .string d2], .int .i64 0]) ∧ Below W.heap.size W w')
    (hA2 : ∀ W, Below w.heap.size w W → Calls Tryz.prog 41 #[.agg #[.string b1, .string b2], .agg #[.string a1, .string a2]] W fun e w' => e = .returned (.tuple #[.agg #[.string d1, .string d2], .int .i64 0]) ∧ Below W.heap.size W w')
    (hA3 : ∀ W, Below w.heap.size w W → Calls Tryz.prog 41 #[.agg #[.string b1, .string b2], .agg #[.string c1, .string c2]] W fun e w' => e = .returned (.tuple #[.agg #[.string e1, .string e2], .int .i64 0]) ∧ Below W.heap.size W w')
    (hA4 : ∀ W, Below w.heap.size w W → Calls Tryz.prog 41 #[.agg #[.string d1, .string d2], .agg #[.string c1, .string c2]] W fun e w' => e = .returned (.tuple #[.agg #[.string x1, .string x2], .int .i64 0]) ∧ Below W.heap.size W w')
    (hA5 : ∀ W, Below w.heap.size w W → Calls Tryz.prog 41 #[.agg #[.string a1, .string a2], .agg #[.string e1, .string e2]] W fun e w' => e = .returned (.tuple #[.agg #[.string x1, .string x2], .int .i64 0]) ∧ Below W.heap.size W w')
    (hA6 : ∀ W, Below w.heap.size w W → Calls Tryz.prog 41 #[.agg #[.string a1, .string a2], .agg #[.string ⟨#[49]⟩, .string ⟨#[48]⟩]] W fun e w' => e = .returned (.tuple #[.agg #[.string a1, .string a2], .int .i64 0]) ∧ Below W.heap.size W w')
    (hA7 : ∀ W, Below w.heap.size w W → Calls Tryz.prog 41 #[.agg #[.string a1, .string a2], .agg #[.string c1, .string c2]] W fun e w' => e = .returned (.tuple #[.agg #[.string g1, .string g2], .int .i64 0]) ∧ Below W.heap.size W w')
    (hA8 : ∀ W, Below w.heap.size w W → Calls Tryz.prog 46 #[.agg #[.string a1, .string a2], .agg #[.string b1, .string b2]] W fun e w' => e = .returned (.tuple #[.agg #[.string m1, .string m2], .int .i64 0]) ∧ Below W.heap.size W w')
    (hF1 : ∀ W, Below w.heap.size w W → Calls Tryz.prog 45 #[.agg #[.string a1, .string a2], .agg #[.string b1, .string b2]] W fun e w' => e = .returned (.tuple #[.bool lb, .int .i64 0]) ∧ Below W.heap.size W w')
    (hF2 : ∀ W, Below w.heap.size w W → Calls Tryz.prog 45 #[.agg #[.string g1, .string g2], .agg #[.string e1, .string e2]] W fun e w' => e = .returned (.tuple #[.bool mb, .int .i64 0]) ∧ Below W.heap.size W w')
    (hF3 : ∀ W, Below w.heap.size w W → Calls Tryz.prog 45 #[.agg #[.string a1, .string a2], .agg #[.string m1, .string m2]] W fun e w' => e = .returned (.tuple #[.bool true, .int .i64 0]) ∧ Below W.heap.size W w')
    (hF4 : ∀ W, Below w.heap.size w W → Calls Tryz.prog 45 #[.agg #[.string b1, .string b2], .agg #[.string m1, .string m2]] W fun e w' => e = .returned (.tuple #[.bool true, .int .i64 0]) ∧ Below W.heap.size W w')
    (hF5 : ∀ W, Below w.heap.size w W → Calls Tryz.prog 45 #[.agg #[.string a1, .string a2], .agg #[.string c1, .string c2]] W fun e w' => e = .returned (.tuple #[.bool rb, .int .i64 0]) ∧ Below W.heap.size W w')
    (hF6 : ∀ W, Below w.heap.size w W → Calls Tryz.prog 45 #[.agg #[.string b1, .string b2], .agg #[.string c1, .string c2]] W fun e w' => e = .returned (.tuple #[.bool sb, .int .i64 0]) ∧ Below W.heap.size W w')
    (hF7 : ∀ W, Below w.heap.size w W → Calls Tryz.prog 45 #[.agg #[.string m1, .string m2], .agg #[.string c1, .string c2]] W fun e w' => e = .returned (.tuple #[.bool (rb && sb), .int .i64 0]) ∧ Below W.heap.size W w')
    (hm : lb = true → mb = true)
    : Calls Tryz.prog 14 #[.agg #[.string a1, .string a2], .agg #[.string b1, .string b2], .agg #[.string c1, .string c2]] w fun e w' => e = .returned (.bool true) ∧ Below w.heap.size w w' := by
  have r1 : RB w (w.alloc (.cells #[.string a1, .string a2] 62)) w.heap.size a1 a2 := RB.new (Nat.le_refl _)
  have h1 := (Below.refl w.heap.size w).alloc (Nat.le_refl _) (.cells #[.string a1, .string a2] 62)
  have h2 := h1.alloc h1.size (.cells #[.string b1, .string b2] 62)
  have h3 := h2.alloc h2.size (.cells #[.string c1, .string c2] 62)
  have i2 := (Below.refl (w.alloc (.cells #[.string a1, .string a2] 62)).heap.size (w.alloc (.cells #[.string a1, .string a2] 62))).alloc (Nat.le_refl _) (.cells #[.string b1, .string b2] 62)
  have i3 := (Below.refl ((w.alloc (.cells #[.string a1, .string a2] 62)).alloc (.cells #[.string b1, .string b2] 62)).heap.size ((w.alloc (.cells #[.string a1, .string a2] 62)).alloc (.cells #[.string b1, .string b2] 62))).alloc (Nat.le_refl _) (.cells #[.string c1, .string c2] 62)
  have r2 : RB w ((w.alloc (.cells #[.string a1, .string a2] 62)).alloc (.cells #[.string b1, .string b2] 62)) (w.heap.size + 1) b1 b2 := by
    have h := RB.new (w := w) (W := (w.alloc (.cells #[.string a1, .string a2] 62))) (s := b1) (t := b2) (ty := 62) (by simp)
    simpa using h
  have r3 : RB w (((w.alloc (.cells #[.string a1, .string a2] 62)).alloc (.cells #[.string b1, .string b2] 62)).alloc (.cells #[.string c1, .string c2] 62)) (w.heap.size + 2) c1 c2 := by
    have h := RB.new (w := w) (W := ((w.alloc (.cells #[.string a1, .string a2] 62)).alloc (.cells #[.string b1, .string b2] 62))) (s := c1) (t := c2) (ty := 62) (by simp; omega)
    simpa using h
  have HR := Lib.hid (And.intro ((r1.below i2).below i3) (And.intro (r2.below i3) r3))
  have HB := Lib.hid h3
  clear r1 r2 r3 h1 h2 h3 i2 i3
  have HL0 := Lib.hid hl
  have HLI := Lib.hid hli
  have HK1 := Lib.hid hk1
  have HK2 := Lib.hid hk2
  have HK3 := Lib.hid hk3
  have HA1 := Lib.hid hA1
  have HA2 := Lib.hid hA2
  have HA3 := Lib.hid hA3
  have HA4 := Lib.hid hA4
  have HA5 := Lib.hid hA5
  have HA6 := Lib.hid hA6
  have HA7 := Lib.hid hA7
  have HA8 := Lib.hid hA8
  have HF1 := Lib.hid hF1
  have HF2 := Lib.hid hF2
  have HF3 := Lib.hid hF3
  have HF4 := Lib.hid hF4
  have HF5 := Lib.hid hF5
  have HF6 := Lib.hid hF6
  have HF7 := Lib.hid hF7
  have HM := Lib.hid hm
  clear hl hli hk1 hk2 hk3 hA1 hA2 hA3 hA4 hA5 hA6 hA7 hA8 hF1 hF2 hF3 hF4 hF5 hF6 hF7 hm
  have HL := Lib.hid (HL0.out _ HB.out)
  clear HL0
  go_enter Tryz.func14, Tryz.ntmps14
  go_wp2_with fail
  refine (HL.out).mono ?_
  rintro e v1 ⟨rfl, hb⟩
  have hbk := HB.out.trans (hb.mono HB.out.size)
  have q0 := HR.out.1.below hb
  have q1 := HR.out.2.1.below hb
  have q2 := HR.out.2.2.below hb
  have HR := Lib.hid (And.intro q0 (And.intro q1 q2))
  have HB := Lib.hid hbk
  have ka0 := q0.c0
  have ka1 := q0.c1
  have kb0 := q1.c0
  have kb1 := q1.c1
  have kc0 := q2.c0
  have kc1 := q2.c1
  clear hb hbk q0 q1 q2
  go_wp2_with fail
  refine (HLI.out _ HB.out).mono ?_
  rintro e u0 ⟨rfl, hu⟩
  obtain rfl := hu
  have hbA := (Below.refl v1.heap.size v1).alloc (Nat.le_refl _) (.cells #[.string a1, .string a2, .string b1, .string b2, .string c1, .string c2] 62)
  have q0 := HR.out.1.below hbA
  have q1 := HR.out.2.1.below hbA
  have q2 := HR.out.2.2.below hbA
  have HR := Lib.hid (And.intro q0 (And.intro q1 q2))
  have HB := Lib.hid (HB.out.alloc HB.out.size (.cells #[.string a1, .string a2, .string b1, .string b2, .string c1, .string c2] 62))
  clear ka0 ka1 kb0 kb1 kc0 kc1
  have ka0 := q0.c0
  have ka1 := q0.c1
  clear hbA q0 q1 q2
  go_wp2_with fail
  refine (HK1.out _).mono ?_
  rintro e v2 ⟨rfl, hb⟩
  have hbk := HB.out.trans (hb.mono HB.out.size)
  have q0 := HR.out.1.below hb
  have q1 := HR.out.2.1.below hb
  have q2 := HR.out.2.2.below hb
  have HR := Lib.hid (And.intro q0 (And.intro q1 q2))
  have HB := Lib.hid hbk
  clear ka0 ka1
  have kb0 := q1.c0
  have kb1 := q1.c1
  clear hb hbk q0 q1 q2
  go_wp2_with fail
  refine (HK2.out _).mono ?_
  rintro e v3 ⟨rfl, hb⟩
  have hbk := HB.out.trans (hb.mono HB.out.size)
  have q0 := HR.out.1.below hb
  have q1 := HR.out.2.1.below hb
  have q2 := HR.out.2.2.below hb
  have HR := Lib.hid (And.intro q0 (And.intro q1 q2))
  have HB := Lib.hid hbk
  clear kb0 kb1
  have kc0 := q2.c0
  have kc1 := q2.c1
  clear hb hbk q0 q1 q2
  go_wp2_with fail
  refine (HK3.out _).mono ?_
  rintro e v4 ⟨rfl, hb⟩
  have hbk := HB.out.trans (hb.mono HB.out.size)
  have q0 := HR.out.1.below hb
  have q1 := HR.out.2.1.below hb
  have q2 := HR.out.2.2.below hb
  have HR := Lib.hid (And.intro q0 (And.intro q1 q2))
  have HB := Lib.hid hbk
  clear kc0 kc1
  have ka0 := q0.c0
  have ka1 := q0.c1
  have kb0 := q1.c0
  have kb1 := q1.c1
  clear hb hbk q0 q1 q2
  go_wp2_with fail
  refine (HA1.out _ HB.out).mono ?_
  rintro e v5 ⟨rfl, hb⟩
  have hbk := HB.out.trans (hb.mono HB.out.size)
  have hbA := (Below.refl v5.heap.size v5).alloc (Nat.le_refl _) (.cells #[.string d1, .string d2] 62)
  have qn : RB w (v5.alloc (.cells #[.string d1, .string d2] 62)) v5.heap.size d1 d2 := RB.new hbk.size
  have q0 := HR.out.1.below hb
  have q0 := q0.below hbA
  have q1 := HR.out.2.1.below hb
  have q1 := q1.below hbA
  have q2 := HR.out.2.2.below hb
  have q2 := q2.below hbA
  have HR := Lib.hid (And.intro q0 (And.intro q1 (And.intro q2 qn)))
  have HB := Lib.hid (hbk.alloc hbk.size (.cells #[.string d1, .string d2] 62))
  clear ka0 ka1 kb0 kb1
  have kb0 := q1.c0
  have kb1 := q1.c1
  have ka0 := q0.c0
  have ka1 := q0.c1
  clear hb hbk hbA q0 q1 q2 qn
  go_wp2_with fail
  refine (HA2.out _ HB.out).mono ?_
  rintro e v6 ⟨rfl, hb⟩
  have hbk := HB.out.trans (hb.mono HB.out.size)
  have hbA := (Below.refl v6.heap.size v6).alloc (Nat.le_refl _) (.cells #[.string d1, .string d2] 62)
  have qn : RB w (v6.alloc (.cells #[.string d1, .string d2] 62)) v6.heap.size d1 d2 := RB.new hbk.size
  have q0 := HR.out.1.below hb
  have q0 := q0.below hbA
  have q1 := HR.out.2.1.below hb
  have q1 := q1.below hbA
  have q2 := HR.out.2.2.1.below hb
  have q2 := q2.below hbA
  have q3 := HR.out.2.2.2.below hb
  have q3 := q3.below hbA
  have HR := Lib.hid (And.intro q0 (And.intro q1 (And.intro q2 (And.intro q3 qn))))
  have HB := Lib.hid (hbk.alloc hbk.size (.cells #[.string d1, .string d2] 62))
  clear kb0 kb1 ka0 ka1
  have kb0 := q1.c0
  have kb1 := q1.c1
  have kc0 := q2.c0
  have kc1 := q2.c1
  clear hb hbk hbA q0 q1 q2 q3 qn
  go_wp2_with fail
  refine (HA3.out _ HB.out).mono ?_
  rintro e v7 ⟨rfl, hb⟩
  have hbk := HB.out.trans (hb.mono HB.out.size)
  have hbA := (Below.refl v7.heap.size v7).alloc (Nat.le_refl _) (.cells #[.string e1, .string e2] 62)
  have qn : RB w (v7.alloc (.cells #[.string e1, .string e2] 62)) v7.heap.size e1 e2 := RB.new hbk.size
  have q0 := HR.out.1.below hb
  have q0 := q0.below hbA
  have q1 := HR.out.2.1.below hb
  have q1 := q1.below hbA
  have q2 := HR.out.2.2.1.below hb
  have q2 := q2.below hbA
  have q3 := HR.out.2.2.2.1.below hb
  have q3 := q3.below hbA
  have q4 := HR.out.2.2.2.2.below hb
  have q4 := q4.below hbA
  have HR := Lib.hid (And.intro q0 (And.intro q1 (And.intro q2 (And.intro q3 (And.intro q4 qn)))))
  have HB := Lib.hid (hbk.alloc hbk.size (.cells #[.string e1, .string e2] 62))
  clear kb0 kb1 kc0 kc1
  have kab0 := q3.c0
  have kab1 := q3.c1
  have kc0 := q2.c0
  have kc1 := q2.c1
  clear hb hbk hbA q0 q1 q2 q3 q4 qn
  go_wp2_with fail
  refine (HA4.out _ HB.out).mono ?_
  rintro e v8 ⟨rfl, hb⟩
  have hbk := HB.out.trans (hb.mono HB.out.size)
  have hbA := (Below.refl v8.heap.size v8).alloc (Nat.le_refl _) (.cells #[.string x1, .string x2] 62)
  have qn : RB w (v8.alloc (.cells #[.string x1, .string x2] 62)) v8.heap.size x1 x2 := RB.new hbk.size
  have q0 := HR.out.1.below hb
  have q0 := q0.below hbA
  have q1 := HR.out.2.1.below hb
  have q1 := q1.below hbA
  have q2 := HR.out.2.2.1.below hb
  have q2 := q2.below hbA
  have q3 := HR.out.2.2.2.1.below hb
  have q3 := q3.below hbA
  have q4 := HR.out.2.2.2.2.1.below hb
  have q4 := q4.below hbA
  have q5 := HR.out.2.2.2.2.2.below hb
  have q5 := q5.below hbA
  have HR := Lib.hid (And.intro q0 (And.intro q1 (And.intro q2 (And.intro q3 (And.intro q4 (And.intro q5 qn))))))
  have HB := Lib.hid (hbk.alloc hbk.size (.cells #[.string x1, .string x2] 62))
  clear kab0 kab1 kc0 kc1
  have ka0 := q0.c0
  have ka1 := q0.c1
  have kbc0 := q5.c0
  have kbc1 := q5.c1
  clear hb hbk hbA q0 q1 q2 q3 q4 q5 qn
  go_wp2_with fail
  refine (HA5.out _ HB.out).mono ?_
  rintro e v9 ⟨rfl, hb⟩
  have hbk := HB.out.trans (hb.mono HB.out.size)
  have hbA := (Below.refl v9.heap.size v9).alloc (Nat.le_refl _) (.cells #[.string x1, .string x2] 62)
  have qn : RB w (v9.alloc (.cells #[.string x1, .string x2] 62)) v9.heap.size x1 x2 := RB.new hbk.size
  have q0 := HR.out.1.below hb
  have q0 := q0.below hbA
  have q1 := HR.out.2.1.below hb
  have q1 := q1.below hbA
  have q2 := HR.out.2.2.1.below hb
  have q2 := q2.below hbA
  have q3 := HR.out.2.2.2.1.below hb
  have q3 := q3.below hbA
  have q4 := HR.out.2.2.2.2.1.below hb
  have q4 := q4.below hbA
  have q5 := HR.out.2.2.2.2.2.1.below hb
  have q5 := q5.below hbA
  have q6 := HR.out.2.2.2.2.2.2.below hb
  have q6 := q6.below hbA
  have HR := Lib.hid (And.intro q0 (And.intro q1 (And.intro q2 (And.intro q3 (And.intro q4 (And.intro q5 (And.intro q6 qn)))))))
  have HB := Lib.hid (hbk.alloc hbk.size (.cells #[.string x1, .string x2] 62))
  clear ka0 ka1 kbc0 kbc1
  have ka0 := q0.c0
  have ka1 := q0.c1
  clear hb hbk hbA q0 q1 q2 q3 q4 q5 q6 qn
  go_wp2_with fail
  refine wp_world (Below.refl (v9.alloc (.cells #[.string x1, .string x2] 62)).heap.size (v9.alloc (.cells #[.string x1, .string x2] 62))) (fun wx hbx => ?_)
  have hbw := HB.out.trans (hbx.mono HB.out.size)
  have q0 := HR.out.1.below hbx
  have q1 := HR.out.2.1.below hbx
  have q2 := HR.out.2.2.1.below hbx
  have q3 := HR.out.2.2.2.1.below hbx
  have q4 := HR.out.2.2.2.2.1.below hbx
  have q5 := HR.out.2.2.2.2.2.1.below hbx
  have q6 := HR.out.2.2.2.2.2.2.1.below hbx
  have q7 := HR.out.2.2.2.2.2.2.2.below hbx
  have HR := Lib.hid (And.intro q0 (And.intro q1 (And.intro q2 (And.intro q3 (And.intro q4 (And.intro q5 (And.intro q6 q7)))))))
  have HB := Lib.hid hbw
  have HQ := Lib.hid (fun W (h : Below wx.heap.size wx W) => And.intro (q0.below h).c0 (q0.below h).c1)
  clear hbx hbw q0 q1 q2 q3 q4 q5 q6 q7 ka0 ka1
  refine wp_region_held (S := fun W => Below wx.heap.size wx W) (by kernel_rfl) ?_
  change wpAnyH _ _ _ _ _ 9 _ _ wx.drew
  have hD0 := (Below.refl wx.heap.size wx).drew
  generalize wx.drew = W at *
  refine wpHz_take (i := 0) (d := 91) (v := .agg #[.string a1, .string a2]) rfl rfl (by kernel_rfl) (by kernel_rfl) (by kernel_rfl) (fun _ _ _ h => h) rfl (fun W hW => by have e0 := (HQ.out W hW).1; have e1 := (HQ.out W hW).2; go_simp) hD0 ?_
  simp only [Act.put, List.setIfInBounds_toArray, List.set_cons_zero, List.set_cons_succ]
  refine wpHz_two (i := 1) (j := 6) (by kernel_rfl) ?wa ?wb
  case' wa =>
    refine wpOz_run rfl rfl (wpz_enter (d := 92) rfl (by go_simp) ((none_ret _).mono ?_))
    rintro e u1 ⟨rfl, hb⟩
    have hD1 : Below wx.heap.size wx u1 := hD0.trans (hb.mono hD0.size)
    clear hb
    refine ⟨_, rfl, hD1, ?_⟩
    simp only [Act.put, List.setIfInBounds_toArray, List.set_cons_zero, List.set_cons_succ]
    refine wpHz_two (i := 2) (j := 6) (by kernel_rfl) ?wc ?wd
  case' wc =>
    refine wpOz_run rfl rfl (wpz_enter (d := 93) rfl (by go_simp) ((HA6.out _ (HB.out.trans (hD1.mono HB.out.size))).mono ?_))
    rintro e u2 ⟨rfl, hb⟩
    have hD2 : Below wx.heap.size wx u2 := hD1.trans (hb.mono hD1.size)
    clear hb
    refine ⟨_, rfl, hD2, ?_⟩
    simp only [Act.put, List.setIfInBounds_toArray, List.set_cons_zero, List.set_cons_succ]
    refine wpHz_take (i := 3) (d := 90) (v := .tuple #[.agg #[.string a1, .string a2], .int .i64 0]) rfl rfl (by kernel_rfl) (by kernel_rfl) (by kernel_rfl) (fun _ _ _ h => h) rfl (fun W _ => by go_simp) hD2 ?_
    simp only [Act.put, List.setIfInBounds_toArray, List.set_cons_zero, List.set_cons_succ]
    refine wpHz_take (i := 4) (d := 94) (v := .agg #[.string a1, .string a2]) rfl rfl (by kernel_rfl) (by kernel_rfl) (by kernel_rfl) (fun _ _ _ h => h) rfl (fun W _ => by go_simp) hD2 ?_
    simp only [Act.put, List.setIfInBounds_toArray, List.set_cons_zero, List.set_cons_succ]
    refine wpHz_take (i := 5) (d := 95) (v := .int .i64 0) rfl rfl (by kernel_rfl) (by kernel_rfl) (by kernel_rfl) (fun _ _ _ h => h) rfl (fun W _ => by go_simp) hD2 ?_
    simp only [Act.put, List.setIfInBounds_toArray, List.set_cons_zero, List.set_cons_succ]
    refine wpHz_one (i := 6) (by kernel_rfl) ?_
    have hD3 := hD2.alloc hD2.size (.cells #[.string ⟨#[]⟩, .string ⟨#[]⟩] 62)
    have hgz : wx.heap.size ≤ u2.heap.size := hD2.size
    have hz0 : RB w (u2.alloc (.cells #[.string ⟨#[]⟩, .string ⟨#[]⟩] 62)) u2.heap.size ⟨#[]⟩ ⟨#[]⟩ := RB.new (HB.out.trans (hD2.mono HB.out.size)).size
    refine wpOz_run rfl rfl (wpz_value (v := .pointer (some ⟨u2.heap.size, 0, none⟩)) (w' := u2.alloc (.cells #[.string ⟨#[]⟩, .string ⟨#[]⟩] 62)) (d := 17) rfl (by go_simp) ⟨hD3, ?_⟩)
    simp only [Act.put, List.setIfInBounds_toArray, List.set_cons_zero, List.set_cons_succ]
    generalize u2.heap.size = gz at hz0 hgz ⊢
    generalize u2.alloc (.cells #[.string ⟨#[]⟩, .string ⟨#[]⟩] 62) = u3 at hz0 hD3 ⊢
  case' wd =>
    have hD2 := hD1.alloc hD1.size (.cells #[.string ⟨#[]⟩, .string ⟨#[]⟩] 62)
    have hgz : wx.heap.size ≤ u1.heap.size := hD1.size
    have hz0 : RB w (u1.alloc (.cells #[.string ⟨#[]⟩, .string ⟨#[]⟩] 62)) u1.heap.size ⟨#[]⟩ ⟨#[]⟩ := RB.new (HB.out.trans (hD1.mono HB.out.size)).size
    refine wpOz_run rfl rfl (wpz_value (v := .pointer (some ⟨u1.heap.size, 0, none⟩)) (w' := u1.alloc (.cells #[.string ⟨#[]⟩, .string ⟨#[]⟩] 62)) (d := 17) rfl (by go_simp) ⟨hD2, ?_⟩)
    simp only [Act.put, List.setIfInBounds_toArray, List.set_cons_zero, List.set_cons_succ]
    generalize u1.heap.size = gz at hz0 hgz ⊢
    generalize u1.alloc (.cells #[.string ⟨#[]⟩, .string ⟨#[]⟩] 62) = u2 at hz0 hD2 ⊢
    refine wpHz_one (i := 2) (by kernel_rfl) ?_
    refine wpOz_run rfl rfl (wpz_enter (d := 93) rfl (by go_simp) ((HA6.out _ (HB.out.trans (hD2.mono HB.out.size))).mono ?_))
    rintro e u3 ⟨rfl, hb⟩
    have hD3 : Below wx.heap.size wx u3 := hD2.trans (hb.mono hD2.size)
    have hz0 := hz0.below hb
    clear hb
    refine ⟨_, rfl, hD3, ?_⟩
    simp only [Act.put, List.setIfInBounds_toArray, List.set_cons_zero, List.set_cons_succ]
    refine wpHz_take (i := 3) (d := 90) (v := .tuple #[.agg #[.string a1, .string a2], .int .i64 0]) rfl rfl (by kernel_rfl) (by kernel_rfl) (by kernel_rfl) (fun _ _ _ h => h) rfl (fun W _ => by go_simp) hD3 ?_
    simp only [Act.put, List.setIfInBounds_toArray, List.set_cons_zero, List.set_cons_succ]
    refine wpHz_take (i := 4) (d := 94) (v := .agg #[.string a1, .string a2]) rfl rfl (by kernel_rfl) (by kernel_rfl) (by kernel_rfl) (fun _ _ _ h => h) rfl (fun W _ => by go_simp) hD3 ?_
    simp only [Act.put, List.setIfInBounds_toArray, List.set_cons_zero, List.set_cons_succ]
    refine wpHz_take (i := 5) (d := 95) (v := .int .i64 0) rfl rfl (by kernel_rfl) (by kernel_rfl) (by kernel_rfl) (fun _ _ _ h => h) rfl (fun W _ => by go_simp) hD3 ?_
    simp only [Act.put, List.setIfInBounds_toArray, List.set_cons_zero, List.set_cons_succ]
  case' wb =>
    have hD1 := hD0.alloc hD0.size (.cells #[.string ⟨#[]⟩, .string ⟨#[]⟩] 62)
    have hgz : wx.heap.size ≤ W.heap.size := hD0.size
    have hz0 : RB w (W.alloc (.cells #[.string ⟨#[]⟩, .string ⟨#[]⟩] 62)) W.heap.size ⟨#[]⟩ ⟨#[]⟩ := RB.new (HB.out.trans (hD0.mono HB.out.size)).size
    refine wpOz_run rfl rfl (wpz_value (v := .pointer (some ⟨W.heap.size, 0, none⟩)) (w' := W.alloc (.cells #[.string ⟨#[]⟩, .string ⟨#[]⟩] 62)) (d := 17) rfl (by go_simp) ⟨hD1, ?_⟩)
    simp only [Act.put, List.setIfInBounds_toArray, List.set_cons_zero, List.set_cons_succ]
    generalize W.heap.size = gz at hz0 hgz ⊢
    generalize W.alloc (.cells #[.string ⟨#[]⟩, .string ⟨#[]⟩] 62) = u1 at hz0 hD1 ⊢
    refine wpHz_one (i := 1) (by kernel_rfl) ?_
    refine wpOz_run rfl rfl (wpz_enter (d := 92) rfl (by go_simp) ((none_ret _).mono ?_))
    rintro e u2 ⟨rfl, hb⟩
    have hD2 : Below wx.heap.size wx u2 := hD1.trans (hb.mono hD1.size)
    have hz0 := hz0.below hb
    clear hb
    refine ⟨_, rfl, hD2, ?_⟩
    simp only [Act.put, List.setIfInBounds_toArray, List.set_cons_zero, List.set_cons_succ]
    refine wpHz_one (i := 2) (by kernel_rfl) ?_
    refine wpOz_run rfl rfl (wpz_enter (d := 93) rfl (by go_simp) ((HA6.out _ (HB.out.trans (hD2.mono HB.out.size))).mono ?_))
    rintro e u3 ⟨rfl, hb⟩
    have hD3 : Below wx.heap.size wx u3 := hD2.trans (hb.mono hD2.size)
    have hz0 := hz0.below hb
    clear hb
    refine ⟨_, rfl, hD3, ?_⟩
    simp only [Act.put, List.setIfInBounds_toArray, List.set_cons_zero, List.set_cons_succ]
    refine wpHz_take (i := 3) (d := 90) (v := .tuple #[.agg #[.string a1, .string a2], .int .i64 0]) rfl rfl (by kernel_rfl) (by kernel_rfl) (by kernel_rfl) (fun _ _ _ h => h) rfl (fun W _ => by go_simp) hD3 ?_
    simp only [Act.put, List.setIfInBounds_toArray, List.set_cons_zero, List.set_cons_succ]
    refine wpHz_take (i := 4) (d := 94) (v := .agg #[.string a1, .string a2]) rfl rfl (by kernel_rfl) (by kernel_rfl) (by kernel_rfl) (fun _ _ _ h => h) rfl (fun W _ => by go_simp) hD3 ?_
    simp only [Act.put, List.setIfInBounds_toArray, List.set_cons_zero, List.set_cons_succ]
    refine wpHz_take (i := 5) (d := 95) (v := .int .i64 0) rfl rfl (by kernel_rfl) (by kernel_rfl) (by kernel_rfl) (fun _ _ _ h => h) rfl (fun W _ => by go_simp) hD3 ?_
    simp only [Act.put, List.setIfInBounds_toArray, List.set_cons_zero, List.set_cons_succ]
  all_goals (
    have hset := hz0.set a1 a2
    have hD4 := (hD3.setCell (p := ⟨gz, 0, none⟩) hgz (.string a1)).setCell (p := ⟨gz, 1, none⟩) hgz (.string a2)
    obtain ⟨_, _, z0, z1, z2, z3⟩ := hz0
    refine wpHz_one (i := 7) (by kernel_rfl) ?_
    refine wpOz_run rfl rfl (wpz_skip (w' := ((u3.setCell ⟨gz, 0, none⟩ (.string a1)).setCell ⟨gz, 1, none⟩ (.string a2))) rfl (by go_simp) ⟨hD4, ?_⟩)
    clear z0 z1 z2 z3 hgz hD3
    generalize ((u3.setCell ⟨gz, 0, none⟩ (.string a1)).setCell ⟨gz, 1, none⟩ (.string a2)) = u4 at hset hD4 ⊢
    refine wpHz_take (i := 8) (d := 18) (v := .int .i64 0) rfl rfl (by kernel_rfl) (by kernel_rfl) (by kernel_rfl) (fun _ _ _ h => h) rfl (fun W _ => by go_simp) hD4 ?_
    simp only [Act.put, List.setIfInBounds_toArray, List.set_cons_zero, List.set_cons_succ]
    refine wpAnyH_done (by kernel_rfl) ?_ _
    have q0 := HR.out.1.below hD4
    have q1 := HR.out.2.1.below hD4
    have q2 := HR.out.2.2.1.below hD4
    have q3 := HR.out.2.2.2.1.below hD4
    have q4 := HR.out.2.2.2.2.1.below hD4
    have q5 := HR.out.2.2.2.2.2.1.below hD4
    have q6 := HR.out.2.2.2.2.2.2.1.below hD4
    have q7 := HR.out.2.2.2.2.2.2.2.below hD4
    have HR := Lib.hid (And.intro q0 (And.intro q1 (And.intro q2 (And.intro q3 (And.intro q4 (And.intro q5 (And.intro q6 (And.intro q7 hset))))))))
    have HB := Lib.hid (HB.out.trans (hD4.mono HB.out.size))
    have ka0 := q0.c0
    have ka1 := q0.c1
    have kc0 := q2.c0
    have kc1 := q2.c1
    clear hD4 HQ q0 q1 q2 q3 q4 q5 q6 q7 hset
    go_wp2_with fail
    refine (HA7.out _ HB.out).mono ?_
    rintro e v10 ⟨rfl, hb⟩
    have hbk := HB.out.trans (hb.mono HB.out.size)
    have hbA := (Below.refl v10.heap.size v10).alloc (Nat.le_refl _) (.cells #[.string g1, .string g2] 62)
    have qn : RB w (v10.alloc (.cells #[.string g1, .string g2] 62)) v10.heap.size g1 g2 := RB.new hbk.size
    have q0 := HR.out.1.below hb
    have q0 := q0.below hbA
    have q1 := HR.out.2.1.below hb
    have q1 := q1.below hbA
    have q2 := HR.out.2.2.1.below hb
    have q2 := q2.below hbA
    have q3 := HR.out.2.2.2.1.below hb
    have q3 := q3.below hbA
    have q4 := HR.out.2.2.2.2.1.below hb
    have q4 := q4.below hbA
    have q5 := HR.out.2.2.2.2.2.1.below hb
    have q5 := q5.below hbA
    have q6 := HR.out.2.2.2.2.2.2.1.below hb
    have q6 := q6.below hbA
    have q7 := HR.out.2.2.2.2.2.2.2.1.below hb
    have q7 := q7.below hbA
    have q8 := HR.out.2.2.2.2.2.2.2.2.below hb
    have q8 := q8.below hbA
    have HR := Lib.hid (And.intro q0 (And.intro q1 (And.intro q2 (And.intro q3 (And.intro q4 (And.intro q5 (And.intro q6 (And.intro q7 (And.intro q8 qn)))))))))
    have HB := Lib.hid (hbk.alloc hbk.size (.cells #[.string g1, .string g2] 62))
    clear ka0 ka1 kc0 kc1
    have ka0 := q0.c0
    have ka1 := q0.c1
    have kb0 := q1.c0
    have kb1 := q1.c1
    clear hb hbk hbA q0 q1 q2 q3 q4 q5 q6 q7 q8 qn
    go_wp2_with fail
    refine (HA8.out _ HB.out).mono ?_
    rintro e v11 ⟨rfl, hb⟩
    have hbk := HB.out.trans (hb.mono HB.out.size)
    have hbA := (Below.refl v11.heap.size v11).alloc (Nat.le_refl _) (.cells #[.string m1, .string m2] 62)
    have qn : RB w (v11.alloc (.cells #[.string m1, .string m2] 62)) v11.heap.size m1 m2 := RB.new hbk.size
    have q0 := HR.out.1.below hb
    have q0 := q0.below hbA
    have q1 := HR.out.2.1.below hb
    have q1 := q1.below hbA
    have q2 := HR.out.2.2.1.below hb
    have q2 := q2.below hbA
    have q3 := HR.out.2.2.2.1.below hb
    have q3 := q3.below hbA
    have q4 := HR.out.2.2.2.2.1.below hb
    have q4 := q4.below hbA
    have q5 := HR.out.2.2.2.2.2.1.below hb
    have q5 := q5.below hbA
    have q6 := HR.out.2.2.2.2.2.2.1.below hb
    have q6 := q6.below hbA
    have q7 := HR.out.2.2.2.2.2.2.2.1.below hb
    have q7 := q7.below hbA
    have q8 := HR.out.2.2.2.2.2.2.2.2.1.below hb
    have q8 := q8.below hbA
    have q9 := HR.out.2.2.2.2.2.2.2.2.2.below hb
    have q9 := q9.below hbA
    have HR := Lib.hid (And.intro q0 (And.intro q1 (And.intro q2 (And.intro q3 (And.intro q4 (And.intro q5 (And.intro q6 (And.intro q7 (And.intro q8 (And.intro q9 qn))))))))))
    have HB := Lib.hid (hbk.alloc hbk.size (.cells #[.string m1, .string m2] 62))
    clear ka0 ka1 kb0 kb1
    have kab0 := q3.c0
    have kab1 := q3.c1
    have kba0 := q4.c0
    have kba1 := q4.c1
    have kx0 := q6.c0
    have kx1 := q6.c1
    have ky0 := q7.c0
    have ky1 := q7.c1
    have kz0 := q8.c0
    have kz1 := q8.c1
    have ka0 := q0.c0
    have ka1 := q0.c1
    have kb0 := q1.c0
    have kb1 := q1.c1
    clear hb hbk hbA q0 q1 q2 q3 q4 q5 q6 q7 q8 q9 qn
    have ne1 := neq_same d1 d2
    have ne2 := neq_same x1 x2
    have ne3 := neq_same a1 a2
    go_wp2_with fail
    refine (HF1.out _ HB.out).mono ?_
    rintro e v12 ⟨rfl, hb⟩
    have hbk := HB.out.trans (hb.mono HB.out.size)
    have q0 := HR.out.1.below hb
    have q1 := HR.out.2.1.below hb
    have q2 := HR.out.2.2.1.below hb
    have q3 := HR.out.2.2.2.1.below hb
    have q4 := HR.out.2.2.2.2.1.below hb
    have q5 := HR.out.2.2.2.2.2.1.below hb
    have q6 := HR.out.2.2.2.2.2.2.1.below hb
    have q7 := HR.out.2.2.2.2.2.2.2.1.below hb
    have q8 := HR.out.2.2.2.2.2.2.2.2.1.below hb
    have q9 := HR.out.2.2.2.2.2.2.2.2.2.1.below hb
    have q10 := HR.out.2.2.2.2.2.2.2.2.2.2.below hb
    have HR := Lib.hid (And.intro q0 (And.intro q1 (And.intro q2 (And.intro q3 (And.intro q4 (And.intro q5 (And.intro q6 (And.intro q7 (And.intro q8 (And.intro q9 q10))))))))))
    have HB := Lib.hid hbk
    clear kab0 kab1 kba0 kba1 kx0 kx1 ky0 ky1 kz0 kz1 ka0 ka1 kb0 kb1
    have kac0 := q9.c0
    have kac1 := q9.c1
    have kbc0 := q5.c0
    have kbc1 := q5.c1
    clear hb hbk q0 q1 q2 q3 q4 q5 q6 q7 q8 q9 q10
    clear ne1 ne2 ne3
    go_wp2_with fail
    refine (HF2.out _ HB.out).mono ?_
    rintro e v13 ⟨rfl, hb⟩
    have hbk := HB.out.trans (hb.mono HB.out.size)
    have q0 := HR.out.1.below hb
    have q1 := HR.out.2.1.below hb
    have q2 := HR.out.2.2.1.below hb
    have q3 := HR.out.2.2.2.1.below hb
    have q4 := HR.out.2.2.2.2.1.below hb
    have q5 := HR.out.2.2.2.2.2.1.below hb
    have q6 := HR.out.2.2.2.2.2.2.1.below hb
    have q7 := HR.out.2.2.2.2.2.2.2.1.below hb
    have q8 := HR.out.2.2.2.2.2.2.2.2.1.below hb
    have q9 := HR.out.2.2.2.2.2.2.2.2.2.1.below hb
    have q10 := HR.out.2.2.2.2.2.2.2.2.2.2.below hb
    have HR := Lib.hid (And.intro q0 (And.intro q1 (And.intro q2 (And.intro q3 (And.intro q4 (And.intro q5 (And.intro q6 (And.intro q7 (And.intro q8 (And.intro q9 q10))))))))))
    have HB := Lib.hid hbk
    clear kac0 kac1 kbc0 kbc1
    have ka0 := q0.c0
    have ka1 := q0.c1
    have km0 := q10.c0
    have km1 := q10.c1
    clear hb hbk q0 q1 q2 q3 q4 q5 q6 q7 q8 q9 q10
    go_wp2_with fail
    refine (HF3.out _ HB.out).mono ?_
    rintro e v14 ⟨rfl, hb⟩
    have hbk := HB.out.trans (hb.mono HB.out.size)
    have q0 := HR.out.1.below hb
    have q1 := HR.out.2.1.below hb
    have q2 := HR.out.2.2.1.below hb
    have q3 := HR.out.2.2.2.1.below hb
    have q4 := HR.out.2.2.2.2.1.below hb
    have q5 := HR.out.2.2.2.2.2.1.below hb
    have q6 := HR.out.2.2.2.2.2.2.1.below hb
    have q7 := HR.out.2.2.2.2.2.2.2.1.below hb
    have q8 := HR.out.2.2.2.2.2.2.2.2.1.below hb
    have q9 := HR.out.2.2.2.2.2.2.2.2.2.1.below hb
    have q10 := HR.out.2.2.2.2.2.2.2.2.2.2.below hb
    have HR := Lib.hid (And.intro q0 (And.intro q1 (And.intro q2 (And.intro q3 (And.intro q4 (And.intro q5 (And.intro q6 (And.intro q7 (And.intro q8 (And.intro q9 q10))))))))))
    have HB := Lib.hid hbk
    clear ka0 ka1 km0 km1
    have kb0 := q1.c0
    have kb1 := q1.c1
    have km0 := q10.c0
    have km1 := q10.c1
    clear hb hbk q0 q1 q2 q3 q4 q5 q6 q7 q8 q9 q10
    go_wp2_with fail
    refine (HF4.out _ HB.out).mono ?_
    rintro e v15 ⟨rfl, hb⟩
    have hbk := HB.out.trans (hb.mono HB.out.size)
    have q0 := HR.out.1.below hb
    have q1 := HR.out.2.1.below hb
    have q2 := HR.out.2.2.1.below hb
    have q3 := HR.out.2.2.2.1.below hb
    have q4 := HR.out.2.2.2.2.1.below hb
    have q5 := HR.out.2.2.2.2.2.1.below hb
    have q6 := HR.out.2.2.2.2.2.2.1.below hb
    have q7 := HR.out.2.2.2.2.2.2.2.1.below hb
    have q8 := HR.out.2.2.2.2.2.2.2.2.1.below hb
    have q9 := HR.out.2.2.2.2.2.2.2.2.2.1.below hb
    have q10 := HR.out.2.2.2.2.2.2.2.2.2.2.below hb
    have HR := Lib.hid (And.intro q0 (And.intro q1 (And.intro q2 (And.intro q3 (And.intro q4 (And.intro q5 (And.intro q6 (And.intro q7 (And.intro q8 (And.intro q9 q10))))))))))
    have HB := Lib.hid hbk
    clear kb0 kb1 km0 km1
    have ka0 := q0.c0
    have ka1 := q0.c1
    have kc0 := q2.c0
    have kc1 := q2.c1
    clear hb hbk q0 q1 q2 q3 q4 q5 q6 q7 q8 q9 q10
    go_wp2_with fail
    refine (HF5.out _ HB.out).mono ?_
    rintro e v16 ⟨rfl, hb⟩
    have hbk := HB.out.trans (hb.mono HB.out.size)
    have q0 := HR.out.1.below hb
    have q1 := HR.out.2.1.below hb
    have q2 := HR.out.2.2.1.below hb
    have q3 := HR.out.2.2.2.1.below hb
    have q4 := HR.out.2.2.2.2.1.below hb
    have q5 := HR.out.2.2.2.2.2.1.below hb
    have q6 := HR.out.2.2.2.2.2.2.1.below hb
    have q7 := HR.out.2.2.2.2.2.2.2.1.below hb
    have q8 := HR.out.2.2.2.2.2.2.2.2.1.below hb
    have q9 := HR.out.2.2.2.2.2.2.2.2.2.1.below hb
    have q10 := HR.out.2.2.2.2.2.2.2.2.2.2.below hb
    have HR := Lib.hid (And.intro q0 (And.intro q1 (And.intro q2 (And.intro q3 (And.intro q4 (And.intro q5 (And.intro q6 (And.intro q7 (And.intro q8 (And.intro q9 q10))))))))))
    have HB := Lib.hid hbk
    clear ka0 ka1 kc0 kc1
    have kb0 := q1.c0
    have kb1 := q1.c1
    have kc0 := q2.c0
    have kc1 := q2.c1
    clear hb hbk q0 q1 q2 q3 q4 q5 q6 q7 q8 q9 q10
    go_wp2_with fail
    refine (HF6.out _ HB.out).mono ?_
    rintro e v17 ⟨rfl, hb⟩
    have hbk := HB.out.trans (hb.mono HB.out.size)
    have q0 := HR.out.1.below hb
    have q1 := HR.out.2.1.below hb
    have q2 := HR.out.2.2.1.below hb
    have q3 := HR.out.2.2.2.1.below hb
    have q4 := HR.out.2.2.2.2.1.below hb
    have q5 := HR.out.2.2.2.2.2.1.below hb
    have q6 := HR.out.2.2.2.2.2.2.1.below hb
    have q7 := HR.out.2.2.2.2.2.2.2.1.below hb
    have q8 := HR.out.2.2.2.2.2.2.2.2.1.below hb
    have q9 := HR.out.2.2.2.2.2.2.2.2.2.1.below hb
    have q10 := HR.out.2.2.2.2.2.2.2.2.2.2.below hb
    have HR := Lib.hid (And.intro q0 (And.intro q1 (And.intro q2 (And.intro q3 (And.intro q4 (And.intro q5 (And.intro q6 (And.intro q7 (And.intro q8 (And.intro q9 q10))))))))))
    have HB := Lib.hid hbk
    clear kb0 kb1 kc0 kc1
    have km0 := q10.c0
    have km1 := q10.c1
    have kc0 := q2.c0
    have kc1 := q2.c1
    clear hb hbk q0 q1 q2 q3 q4 q5 q6 q7 q8 q9 q10
    go_wp2_with fail
    refine (HF7.out _ HB.out).mono ?_
    rintro e v99 ⟨rfl, hb⟩
    have HB := Lib.hid (HB.out.trans (hb.mono HB.out.size))
    clear hb km0 km1 kc0 kc1 HR HF1 HF2 HF3 HF4 HF5 HF6 HF7
    cases lb with
    | false =>
      cases rb <;> cases sb <;> (
        go_wp2_with fail
        go_ret
        exact ⟨rfl, HB.out⟩)
    | true =>
      obtain rfl := HM.out rfl
      cases rb <;> cases sb <;> (
        go_wp2_with fail
        go_ret
        exact ⟨rfl, HB.out⟩))
end
section
open Go.RowKit NV

theorem rl_of {f d : ByteArray} {g : FuncId} {args : Array Value} {W : World} (h : Calls Tryz.prog g args W (Rl f d W)) : Calls Tryz.prog g args W fun e w' => e = .returned (.tuple #[.agg #[.string f, .string d], .int .i64 0]) ∧ Below W.heap.size W w' := h
set_option maxHeartbeats 1600000 in
theorem lorder_any {a1 a2 b1 b2 c1 c2 : ByteArray} {w : World} (ha1 : a1.size ≤ 140737488351232) (ha2 : a2.size ≤ 140737488351232) (hb1 : b1.size ≤ 140737488351232) (hb2 : b2.size ≤ 140737488351232) (hc1 : c1.size ≤ 140737488351232) (hc2 : c2.size ≤ 140737488351232) (htab : Tab w) (hm : ML w) :
    Calls Tryz.prog 14 #[.agg #[.string a1, .string a2], .agg #[.string b1, .string b2], .agg #[.string c1, .string c2]] w fun e w' => e = .returned (.bool true) ∧ Below w.heap.size w w' := by
  have htm : ∀ W, Below w.heap.size w W → ∀ W2, Below W.heap.size W W2 → Tab W2 ∧ ML W2 := fun W hb W2 hb2 => by
    have h := hb.trans (hb2.mono hb.size)
    exact ⟨htab.below h, ml_keep hm (ml_pos hm) h⟩
  have hl : ∀ W, Below w.heap.size w W → Calls Tryz.prog 40 #[] W fun e w' => e = .returned (.bool true) ∧ Below W.heap.size W w' := fun W hb => lives9_any W (htm W hb W (Below.refl _ _)).1 (htm W hb W (Below.refl _ _)).2
  have hli : ∀ W, Below w.heap.size w W → Calls Tryz.prog 52 #[.slice (some ⟨W.heap.size, 0, none⟩) 3 3] (W.alloc (.cells #[.string a1, .string a2, .string b1, .string b2, .string c1, .string c2] 62)) fun e w' => e = .returned (.bool (lgtX (a1, a2) && (lgtX (b1, b2) && lgtX (c1, c2)))) ∧ w' = W.alloc (.cells #[.string a1, .string a2, .string b1, .string b2, .string c1, .string c2] 62) := fun W _ => by
    have h := light9_any (c := 3) (MR.litT (L := [(a1, a2), (b1, b2), (c1, c2)]) (heap_alloc_new W (.cells #[.string a1, .string a2, .string b1, .string b2, .string c1, .string c2] 62))) (show (3 : Nat) ≤ 1000000 by omega) (fun x hx => by
      rcases List.mem_cons.1 hx with rfl | hx
      · exact ⟨ha1, ha2⟩
      · rcases List.mem_cons.1 hx with rfl | hx
        · exact ⟨hb1, hb2⟩
        · rcases List.mem_cons.1 hx with rfl | hx
          · exact ⟨hc1, hc2⟩
          · cases hx)
    have e : [(a1, a2), (b1, b2), (c1, c2)].all lgtX = (lgtX (a1, a2) && (lgtX (b1, b2) && lgtX (c1, c2))) := by simp [List.all_cons]
    rw [e] at h
    exact h
  have hk1 : ∀ W, Calls Tryz.prog 58 #[.agg #[.string a1, .string a2]] W fun e w' => e = .returned (.int .i64 (chkL a1 a2)) ∧ Below W.heap.size W w' := fun W => rLCheck_any ha1 ha2
  have hk2 : ∀ W, Calls Tryz.prog 58 #[.agg #[.string b1, .string b2]] W fun e w' => e = .returned (.int .i64 (chkL b1 b2)) ∧ Below W.heap.size W w' := fun W => rLCheck_any hb1 hb2
  have hk3 : ∀ W, Calls Tryz.prog 58 #[.agg #[.string c1, .string c2]] W fun e w' => e = .returned (.int .i64 (chkL c1 c2)) ∧ Below W.heap.size W w' := fun W => rLCheck_any hc1 hc2
  cases hlb : (lgtX (a1, a2) && (lgtX (b1, b2) && lgtX (c1, c2))) with
  | false =>
    rw [hlb] at hli
    exact ow_light hl hli
  | true =>
    rw [hlb] at hli
    rw [Bool.and_eq_true, Bool.and_eq_true] at hlb
    by_cases ka : chkL a1 a2 = 0
    · rw [ka] at hk1
      by_cases kb : chkL b1 b2 = 0
      · rw [kb] at hk2
        by_cases kc : chkL c1 c2 = 0
        · rw [kc] at hk3
          obtain ⟨A, a, rfl, rfl, lA⟩ := lz_of ka hlb.1
          obtain ⟨B, b, rfl, rfl, lB⟩ := lz_of kb hlb.2.1
          obtain ⟨C, c, rfl, rfl, lC⟩ := lz_of kc hlb.2.2
          have qA := lA.toLQ
          have qB := lB.toLQ
          have qC := lC.toLQ
          have oAB := (Sz.mul lA.zF lB.zF).qok (by omega) (by omega)
          have oab := (Sz.add lA.zD lB.zD).qok (by omega) (by omega)
          have oBC := (Sz.mul lB.zF lC.zF).qok (by omega) (by omega)
          have obc := (Sz.add lB.zD lC.zD).qok (by omega) (by omega)
          have oAC := (Sz.mul lA.zF lC.zF).qok (by omega) (by omega)
          have oac := (Sz.add lA.zD lC.zD).qok (by omega) (by omega)
          have qAB := LQ.add qA qB oAB oab
          have qBC := LQ.add qB qC oBC obc
          have qAC := LQ.add qA qC oAC oac
          have oX := (Sz.mul (Sz.mul lA.zF lB.zF) lC.zF).qok (by omega) (by omega)
          have ox := (Sz.add (sz_mn1 (Sz.add lA.zD lB.zD) (by omega)) lC.zD).qok (by omega) (by omega)
          have oY : QOk (A * (B * C)) := by rw [← Rat.mul_assoc]; exact oX
          have oy := (Sz.add lA.zD (sz_mn1 (Sz.add lB.zD lC.zD) (by omega))).qok (by omega) (by omega)
          have qN : LQ 1 0 := ⟨o1Q, o0Q, Rat.le_refl, Rat.le_refl, by decide⟩
          have qM := LQ.max qA qB
          obtain ⟨B1, B2, B3, B4⟩ := ord_bools (A := A) (a := a) (B := B) (b := b) qC
          refine ow_main (d1 := qstr (A * B)) (d2 := qstr (mn1 (a + b))) (e1 := qstr (B * C)) (e2 := qstr (mn1 (b + c))) (x1 := qstr (A * B * C)) (x2 := qstr (mn1 (mn1 (a + b) + c))) (g1 := qstr (A * C)) (g2 := qstr (mn1 (a + c))) (m1 := qstr (mxQ A B)) (m2 := qstr (mxQ a b)) (lb := ftB A a B b) (mb := ftB (A * C) (mn1 (a + c)) (B * C) (mn1 (b + c))) (rb := ftB A a C c) (sb := ftB B b C c) hl hli hk1 hk2 hk3
            (fun W hb => rl_of (lAdd_q qA qB oAB oab (htm W hb))) (fun W hb => ?_) (fun W hb => rl_of (lAdd_q qB qC oBC obc (htm W hb))) (fun W hb => rl_of (lAdd_q qAB qC oX ox (htm W hb))) (fun W hb => ?_) (fun W hb => ?_)
            (fun W hb => rl_of (lAdd_q qA qC oAC oac (htm W hb))) (fun W hb => rl_of (lMax_q qA qB (htm W hb))) (fun W hb => lFits_q qA qB (htm W hb)) (fun W hb => lFits_q qAC qBC (htm W hb)) (fun W hb => ?_) (fun W hb => ?_) (fun W hb => lFits_q qA qC (htm W hb)) (fun W hb => lFits_q qB qC (htm W hb)) (fun W hb => ?_) B1
          · have h := lAdd_q qB qA (by rw [Rat.mul_comm]; exact oAB) (by rw [Rat.add_comm]; exact oab) (htm W hb)
            rw [Rat.mul_comm B A, Rat.add_comm b a] at h
            exact rl_of h
          · have h := lAdd_q qA qBC oY oy (htm W hb)
            rw [← Rat.mul_assoc, ← mn1_as qA.d0 qC.d0] at h
            exact rl_of h
          · have h := lAdd_q qA qN (by rw [Rat.mul_one]; exact qA.okF) (by rw [Rat.add_zero]; exact qA.okD) (htm W hb)
            rw [Rat.mul_one, Rat.add_zero, mn1_id qA.d1, q1L, q0Z] at h
            exact rl_of h
          · have h := lFits_q qA qM (htm W hb)
            rw [B2] at h
            exact h
          · have h := lFits_q qB qM (htm W hb)
            rw [B3] at h
            exact h
          · have h := lFits_q qM qC (htm W hb)
            rw [B4] at h
            exact h
        · exact ow_c hl hli hk1 hk2 hk3 (by simpa using kc)
      · exact ow_b hl hli hk1 hk2 (by simpa using kb)
    · exact ow_a hl hli hk1 (by simpa using ka)
end
end Go.Proofs.YtofanopnibbaeaaGreatDoor
