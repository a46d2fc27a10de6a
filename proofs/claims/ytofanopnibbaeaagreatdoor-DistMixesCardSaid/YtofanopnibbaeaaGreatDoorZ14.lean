/-
  Package dist: cover, compared.
-/
import Derived.Test.YtofanopnibbaeaaGreatDoorZ13
namespace Go.Proofs.YtofanopnibbaeaaGreatDoor
open Go.RowKit NV Go.Maps Go.Sort Go.Shelf
open Go.Lib (decDigits)

/-- Has the second list all outcomes of the first? -/
def allZ (P Q : List MI) : Bool := P.all fun x => hasZ (kZ x) Q

set_option maxHeartbeats 1600000 in
set_option maxRecDepth 100000 in
theorem cover1_any {S : List MI} {b n bm : Nat} {x : MI} (w : World) (hmz : MapZ w b n S) (hk : x.1.size ≤ 1000000) (ho : w.cell? ⟨bm, 0, none⟩ = some (.map (some b))) (hol : bm < w.heap.size) :
    Calls Tryz.prog 222 #[.agg #[.string x.1, .string x.2], .pointer (some ⟨bm, 0, none⟩)] w fun e w' => e = .returned (.bool (!hasZ (kZ x) S)) ∧ Below w.heap.size w w' := by
  obtain ⟨x1, x2⟩ := x
  have hb := (Below.refl w.heap.size w).alloc (Nat.le_refl _) (.cells #[.string x1, .string x2] 29)
  have HB := Lib.hid hb
  obtain ⟨s, hlook, _⟩ := lookZ_ok (hmz.below hb) (k := x1) (Nat.le_trans hk (by unfold maxLen; omega))
  have c0 := (hb.cell (p := ⟨bm, 0, none⟩) hol).trans ho
  generalize hasZ x1.data.toList S = h at *
  clear hmz hk ho hol hb
  go_enter Tryz.func222, Tryz.ntmps222
  go_wp2_with fail
  go_ret
  exact ⟨rfl, HB.out⟩

set_option maxHeartbeats 3200000 in
set_option maxRecDepth 100000 in
theorem index_any {S L : List MI} {N cap b n bm : Nat} {ao : Option Addr} {w : World} (hr : MR w ao N L) (hN : N ≤ 1000) (hl : ML2 L) (hmz : MapZ w b n S) (ho : w.cell? ⟨bm, 0, none⟩ = some (.map (some b))) (hol : bm < w.heap.size) :
    Calls Tryz.prog 256 #[.slice ao N cap, .func (.func 222) #[] #[.pointer (some ⟨bm, 0, none⟩)]] w fun e w' => ((allZ L S = true ∧ e = .returned (.int .i64 (-1))) ∨ (allZ L S = false ∧ ∃ j : Nat, e = .returned (.int .i64 (j : Int)))) ∧ Below w.heap.size w w' := by
  have HR := Lib.hid hr
  have HL := Lib.hid hl
  have HC := Lib.hid (fun x (hx : x.1.size ≤ 1000000) W (hb : Below w.heap.size w W) => cover1_any (x := x) W (hmz.below hb) hx ((hb.cell (p := ⟨bm, 0, none⟩) hol).trans ho) (Nat.lt_of_lt_of_le hol hb.size))
  have HNO := Lib.hid (show ∀ k x, L[k]? = some x → hasZ (kZ x) S = false → allZ L S = false from fun k x hx h => by
    unfold allZ
    rw [List.all_eq_false]
    exact ⟨x, List.mem_of_getElem? hx, by rw [h]; decide⟩)
  have HYES := Lib.hid (show (∀ k x, k < N → L[k]? = some x → hasZ (kZ x) S = true) → allZ L S = true from fun h => by
    unfold allZ
    rw [List.all_eq_true]
    intro x hx
    obtain ⟨k, hk, rfl⟩ := List.mem_iff_getElem.1 hx
    exact h k _ (by rw [← hr.len]; exact hk) (List.getElem?_eq_getElem hk))
  have e1 : ∀ args w, (callFunc 222 args).run Tryz.prog w = .ok (.enter 222 args) w := enters_of Tryz.func222 (by kernel_rfl) rfl
  clear hr hl hmz ho hol
  go_enter Tryz.func256, Tryz.ntmps256
  go_wp2_with fail
  go_loopw [8] (fun iv wr => ∃ k : Nat, k ≤ N ∧ iv = .int .i64 (k : Int) ∧ Hid (∀ j x, j < k → L[j]? = some x → hasZ (kZ x) S = true) ∧ Below w.heap.size w wr) (fun iv _ => N - (intOf iv).toNat)
  case atStart => exact ⟨0, Nat.zero_le _, rfl, Lib.hid (fun j x hj => absurd hj (Nat.not_lt_zero _)), Below.refl _ _⟩
  case round =>
    obtain ⟨k, hk, rfl, HALL, hb⟩ := hrel
    by_cases hlt : k < N
    · obtain ⟨a, x, rfl, hx, _, c0, c1⟩ := (HR.out.below hb).at hlt
      have HB := Lib.hid hb
      have HCK := Lib.hid (HC.out x (HL.out x (List.mem_of_getElem? hx)).1 wr hb)
      have HX := Lib.hid hx
      have HNK := Lib.hid (HNO.out k x hx)
      obtain ⟨x1, x2⟩ := x
      cases hh : hasZ (kZ (x1, x2)) S with
      | true =>
        rw [hh] at HCK
        have HH := Lib.hid hh
        clear hb hx hh HNK
        go_wp2_with (go_at_fn 222; refine HCK.out.mono ?_; rintro e w2 ⟨rfl, hb⟩)
        go_roundw
        case rel => exact ⟨k + 1, by omega, by go_num, Lib.hid (fun j y hj hy => by
          rcases Nat.lt_or_ge j k with h | h
          · exact HALL.out j y h hy
          · obtain rfl : k = j := by omega
            rw [HX.out] at hy
            obtain rfl := Option.some.inj hy
            exact HH.out), HB.out.trans (hb.mono HB.out.size)⟩
        case measure => simp [intOf]; omega
      | false =>
        rw [hh] at HCK
        have HF := Lib.hid (HNK.out hh)
        clear hb hx hh HNK HALL HX HYES HNO HR HL HC
        go_wp2_with (go_at_fn 222; refine HCK.out.mono ?_; rintro e w2 ⟨rfl, hb⟩)
        go_ret
        exact ⟨.inr ⟨HF.out, k, rfl⟩, HB.out.trans (hb.mono HB.out.size)⟩
    · obtain rfl : k = N := by omega
      have HB := Lib.hid hb
      have HF := Lib.hid (HYES.out HALL.out)
      clear hb HALL HYES HNO HR HL HC
      go_wp2_with fail
      go_ret
      exact ⟨.inl ⟨HF.out, rfl⟩, HB.out⟩

set_option maxHeartbeats 1600000 in
set_option maxRecDepth 100000 in
theorem contains_any {S L : List MI} {N cap b n bm : Nat} {ao : Option Addr} {w : World} (hr : MR w ao N L) (hN : N ≤ 1000) (hl : ML2 L) (hmz : MapZ w b n S) (ho : w.cell? ⟨bm, 0, none⟩ = some (.map (some b))) (hol : bm < w.heap.size) :
    Calls Tryz.prog 221 #[.slice ao N cap, .func (.func 222) #[] #[.pointer (some ⟨bm, 0, none⟩)]] w fun e w' => e = .returned (.bool (!allZ L S)) ∧ Below w.heap.size w w' := by
  have HI := Lib.hid (index_any (cap := cap) hr hN hl hmz ho hol)
  clear hr hl hmz ho hol
  cases ha : allZ L S with
  | true =>
    have HI2 := Lib.hid (show Calls Tryz.prog 256 _ w fun e w' => e = .returned (.int .i64 (-1)) ∧ Below w.heap.size w w' from HI.out.mono fun e w' ⟨h, hb⟩ => by
      rcases h with ⟨_, h⟩ | ⟨h, _⟩
      · exact ⟨h, hb⟩
      · rw [ha] at h; cases h)
    clear HI ha
    go_enter Tryz.func221, Tryz.ntmps221
    go_wp2_with fail
    refine HI2.out.mono ?_
    rintro e w1 ⟨rfl, hb⟩
    have HB := Lib.hid hb
    clear hb HI2
    go_wp2_with fail
    go_ret
    exact ⟨rfl, HB.out⟩
  | false =>
    have HI2 := Lib.hid (show Calls Tryz.prog 256 _ w fun e w' => ∃ j : Nat, e = .returned (.int .i64 (j : Int)) ∧ Below w.heap.size w w' from HI.out.mono fun e w' ⟨h, hb⟩ => by
      rcases h with ⟨h, _⟩ | ⟨_, j, h⟩
      · rw [ha] at h; cases h
      · exact ⟨j, h, hb⟩)
    clear HI ha
    go_enter Tryz.func221, Tryz.ntmps221
    go_wp2_with fail
    refine HI2.out.mono ?_
    rintro e w1 ⟨j, rfl, hb⟩
    have HB := Lib.hid hb
    have hj : (0 : Int) ≤ (j : Int) := by omega
    clear hb HI2
    go_wp2_with fail
    go_ret
    exact ⟨rfl, HB.out⟩

set_option maxHeartbeats 1600000 in
set_option maxRecDepth 100000 in
theorem cover_any {S L : List MI} {N cap b n : Nat} {ao : Option Addr} {w : World} (hr : MR w ao N L) (hN : N ≤ 1000) (hl : ML2 L) (hmz : MapZ w b n S) :
    Calls Tryz.prog 160 #[.map (some b), .slice ao N cap] w fun e w' => e = .returned (.bool (allZ L S)) ∧ Below w.heap.size w w' := by
  have hmf : ∀ (fn : Fn) (first cap : Array Value) (w : World), (Instr.makeFunc fn first cap).run Tryz.prog w = .ok (.func fn first cap) w := fun _ _ _ _ => rfl
  have hb := (Below.refl w.heap.size w).alloc (Nat.le_refl _) (.cells #[.map (some b)] 97)
  have HB := Lib.hid hb
  have HI := Lib.hid (contains_any (cap := cap) (bm := w.heap.size) (hr.below hb) hN hl (hmz.below hb) (by rw [Lib.cell_of_heap (heap_alloc_new w _)]; rfl) (by simp))
  generalize allZ L S = h at *
  clear hr hl hmz hb
  go_enter Tryz.func160, Tryz.ntmps160
  go_wp2_with fail
  refine HI.out.mono ?_
  rintro e w1 ⟨rfl, hb⟩
  have HB2 := Lib.hid (HB.out.trans (hb.mono HB.out.size))
  clear hb HI HB
  cases h with
  | true =>
    go_wp2_with fail
    go_ret
    exact ⟨rfl, HB2.out⟩
  | false =>
    go_wp2_with fail
    go_ret
    exact ⟨rfl, HB2.out⟩

set_option maxHeartbeats 3200000 in
set_option maxRecDepth 100000 in
theorem compared1_any {S : List MI} {b n bs bo g : Nat} {lb : Array Value} {T : ByteArray × Nat} {ss sp sq : ByteArray} {key : ByteArray} (w : World) (eg : ∀ args w, (callFunc g args).run Tryz.prog w = .ok (.enter g args) w) (hmz : MapZ w b n S) (hq : valZ key.data.toList S = sq) (hk : key.size ≤ 1000000)
    (hs : w.cell? ⟨bs, 0, none⟩ = some (.func (.func g) #[] lb)) (hsl : bs < w.heap.size) (ho : w.cell? ⟨bo, 0, none⟩ = some (.map (some b))) (hol : bo < w.heap.size)
    (hstep : ∀ W, Below w.heap.size w W → Calls Tryz.prog g (#[.string ss, .string sp, .string sq] ++ lb) W (PR T W)) :
    Calls Tryz.prog 161 #[.string ss, .agg #[.string key, .string sp], .pointer (some ⟨bs, 0, none⟩), .pointer (some ⟨bo, 0, none⟩)] w (PR T w) := by
  have HOF := Lib.hid (show ∀ W, Below w.heap.size w W → Calls Tryz.prog 85 #[.map (some b), .string key] W fun e w' => e = .returned (.string sq) ∧ Below W.heap.size W w' from fun W hb => (of_any (k := key) (hmz.below hb) hk).mono (fun e w' ⟨h1, h2⟩ => ⟨by rw [← hq]; exact h1, h2 ▸ Below.refl _ _⟩))
  have HST := Lib.hid hstep
  have HCELL := Lib.hid (show ∀ W, Below w.heap.size w W → W.cell? ⟨bo, 0, none⟩ = some (.map (some b)) ∧ W.cell? ⟨bs, 0, none⟩ = some (.func (.func g) #[] lb) from fun W hb => ⟨(hb.cell (p := ⟨bo, 0, none⟩) hol).trans ho, (hb.cell (p := ⟨bs, 0, none⟩) hsl).trans hs⟩)
  unfold PR at *
  obtain ⟨t1, t2⟩ := T
  have HBOX := Lib.hid (show ∀ W, Below (w.alloc (.cells #[.string key, .string sp] 29)).heap.size (w.alloc (.cells #[.string key, .string sp] 29)) W → W.cell? ⟨w.heap.size, 0, none⟩ = some (.string key) ∧ W.cell? ⟨w.heap.size, 1, none⟩ = some (.string sp) from fun W hb =>
    ⟨(hb.cell (p := ⟨w.heap.size, 0, none⟩) (by simp)).trans (by rw [Lib.cell_of_heap (heap_alloc_new w _)]; rfl), (hb.cell (p := ⟨w.heap.size, 1, none⟩) (by simp)).trans (by rw [Lib.cell_of_heap (heap_alloc_new w _)]; rfl)⟩)
  clear hmz hq hk hs hsl ho hol hstep
  go_enter Tryz.func161, Tryz.ntmps161
  go_wp2_with fail
  have hbx := (Below.refl w.heap.size w).alloc (Nat.le_refl _) (.cells #[.string key, .string sp] 29)
  generalize w.alloc (.cells #[.string key, .string sp] 29) = wx at *
  have HBX := Lib.hid hbx
  have HW := Lib.hid (fun W (h : Below wx.heap.size wx W) => HBX.out.trans (h.mono HBX.out.size))
  clear hbx
  refine wp_region_held (S := fun W => Below wx.heap.size wx W) (by kernel_rfl) ?_
  change wpAnyH _ _ _ _ _ 13 _ _ wx.drew
  have hD0 := (Below.refl wx.heap.size wx).drew
  generalize wx.drew = W at *
  refine wpHz_take (i := 0) (d := 8) (v := .func (.func g) #[] lb) rfl rfl (by kernel_rfl) (by kernel_rfl) (by kernel_rfl) (fun _ _ _ h => h) rfl (fun W hW => by have e0 := (HCELL.out W (HW.out W hW)).2; go_simp) hD0 ?_
  simp only [Act.put, List.setIfInBounds_toArray, List.set_cons_zero, List.set_cons_succ]
  refine wpHz_take (i := 1) (d := 9) (v := .string ss) rfl rfl (by kernel_rfl) (by kernel_rfl) (by kernel_rfl) (fun _ _ _ h => h) rfl (fun W _ => by go_simp) hD0 ?_
  simp only [Act.put, List.setIfInBounds_toArray, List.set_cons_zero, List.set_cons_succ]
  refine wpHz_take (i := 2) (d := 10) (v := .pointer (some ⟨w.heap.size, 1, none⟩)) rfl rfl (by kernel_rfl) (by kernel_rfl) (by kernel_rfl) (fun _ _ _ h => h) rfl (fun W _ => by go_simp) hD0 ?_
  simp only [Act.put, List.setIfInBounds_toArray, List.set_cons_zero, List.set_cons_succ]
  refine wpHz_take (i := 3) (d := 11) (v := .string sp) rfl rfl (by kernel_rfl) (by kernel_rfl) (by kernel_rfl) (fun _ _ _ h => h) rfl (fun W hW => by have e0 := (HBOX.out W hW).2; go_simp) hD0 ?_
  simp only [Act.put, List.setIfInBounds_toArray, List.set_cons_zero, List.set_cons_succ]
  refine wpHz_take (i := 4) (d := 12) (v := .map (some b)) rfl rfl (by kernel_rfl) (by kernel_rfl) (by kernel_rfl) (fun _ _ _ h => h) rfl (fun W hW => by have e0 := (HCELL.out W (HW.out W hW)).1; go_simp) hD0 ?_
  simp only [Act.put, List.setIfInBounds_toArray, List.set_cons_zero, List.set_cons_succ]
  refine wpHz_take (i := 5) (d := 13) (v := .pointer (some ⟨w.heap.size, 0, none⟩)) rfl rfl (by kernel_rfl) (by kernel_rfl) (by kernel_rfl) (fun _ _ _ h => h) rfl (fun W _ => by go_simp) hD0 ?_
  simp only [Act.put, List.setIfInBounds_toArray, List.set_cons_zero, List.set_cons_succ]
  refine wpHz_take (i := 6) (d := 14) (v := .string key) rfl rfl (by kernel_rfl) (by kernel_rfl) (by kernel_rfl) (fun _ _ _ h => h) rfl (fun W hW => by have e0 := (HBOX.out W hW).1; go_simp) hD0 ?_
  simp only [Act.put, List.setIfInBounds_toArray, List.set_cons_zero, List.set_cons_succ]
  refine wpHz_one (i := 7) (by kernel_rfl) ?_
  refine wpOz_run rfl rfl (wpz_enter (d := 15) rfl (by go_simp) ((HOF.out _ (HW.out _ hD0)).mono ?_))
  rintro e u1 ⟨rfl, hb⟩
  have hD1 : Below wx.heap.size wx u1 := hD0.trans (hb.mono hD0.size)
  clear hb
  refine ⟨_, rfl, hD1, ?_⟩
  simp only [Act.put, List.setIfInBounds_toArray, List.set_cons_zero, List.set_cons_succ]
  refine wpHz_one (i := 8) (by kernel_rfl) ?_
  refine wpOz_run rfl rfl (wpz_enter (d := 16) rfl (by go_simp) ((HST.out _ (HW.out _ hD1)).mono ?_))
  rintro e u2 ⟨rfl, hb⟩
  have hD2 : Below wx.heap.size wx u2 := hD1.trans (hb.mono hD1.size)
  clear hb
  refine ⟨_, rfl, hD2, ?_⟩
  simp only [Act.put, List.setIfInBounds_toArray, List.set_cons_zero, List.set_cons_succ]
  refine wpHz_take (i := 9) (d := 17) (v := .string t1) rfl rfl (by kernel_rfl) (by kernel_rfl) (by kernel_rfl) (fun _ _ _ h => h) rfl (fun W _ => by go_simp) hD2 ?_
  simp only [Act.put, List.setIfInBounds_toArray, List.set_cons_zero, List.set_cons_succ]
  refine wpHz_take (i := 10) (d := 18) (v := .int .i64 (t2 : Int)) rfl rfl (by kernel_rfl) (by kernel_rfl) (by kernel_rfl) (fun _ _ _ h => h) rfl (fun W _ => by go_simp) hD2 ?_
  simp only [Act.put, List.setIfInBounds_toArray, List.set_cons_zero, List.set_cons_succ]
  refine wpHz_take (i := 11) (d := 6) (v := .string t1) rfl rfl (by kernel_rfl) (by kernel_rfl) (by kernel_rfl) (fun _ _ _ h => h) rfl (fun W _ => by go_simp) hD2 ?_
  simp only [Act.put, List.setIfInBounds_toArray, List.set_cons_zero, List.set_cons_succ]
  refine wpHz_take (i := 12) (d := 7) (v := .int .i64 (t2 : Int)) rfl rfl (by kernel_rfl) (by kernel_rfl) (by kernel_rfl) (fun _ _ _ h => h) rfl (fun W _ => by go_simp) hD2 ?_
  simp only [Act.put, List.setIfInBounds_toArray, List.set_cons_zero, List.set_cons_succ]
  refine wpAnyH_done (by kernel_rfl) ?_ _
  have HBF := Lib.hid (HW.out _ hD2)
  clear hD0 hD1 hD2 HBOX HCELL HOF HST HW HBX
  go_wp2_with fail
  go_ret2
  exact ⟨rfl, HBF.out⟩

/-- A run of compared. -/
def cmpO (g : Rat → Rat → Rat → Option Rat) (P Q : List MI) : Option Rat := runO (fun k s => g s (qZ P k) (vQ Q (kZ (getZ P k)))) 0 P.length
/-- What compared returns. -/
def cmpR (g : Rat → Rat → Rat → Option Rat) (P Q : List MI) : ByteArray × Bool × Nat :=
  if allZ P Q then ((oQ (cmpO g P Q)).1, (cmpO g P Q).isSome, (oQ (cmpO g P Q)).2) else (⟨#[]⟩, false, 0)
def TR (T : ByteArray × Bool × Nat) (w : World) (e : Ending) (w' : World) : Prop := e = .returned (.tuple #[.string T.1, .bool T.2.1, .int .i64 ((T.2.2 : Nat) : Int)]) ∧ Below w.heap.size w w'

set_option maxHeartbeats 6400000 in
set_option maxRecDepth 100000 in
theorem compared_any {P Q : List MI} {N M c1 c2 g : Nat} {lb : Array Value} {a1 a2 : Option Addr} {w : World} (st : Rat → Rat → Rat → Option Rat) (eg : ∀ args w, (callFunc g args).run Tryz.prog w = .ok (.enter g args) w) (hp : MR w a1 N P) (hq : MR w a2 M Q) (hN : N ≤ 1000) (hM : M ≤ 1000) (hlp : ML2 P) (hlq : ML2 Q) (hcp : chkZ P = 0) (hcq : chkZ Q = 0)
    (hok : ∀ s x y t, QOk s → st s x y = some t → QOk t)
    (hstep : ∀ s x y W, Below w.heap.size w W → QOk s → QOk x → QOk y → 0 < y → Calls Tryz.prog g (#[.string (qstr s), .string (qstr x), .string (qstr y)] ++ lb) W (PR (oQ (st s x y)) W)) :
    Calls Tryz.prog 87 #[.slice a1 N c1, .slice a2 M c2, .func (.func g) #[] lb] w (TR (cmpR st P Q) w) := by
  have hmf : ∀ (fn : Fn) (first cap : Array Value) (w : World), (Instr.makeFunc fn first cap).run Tryz.prog w = .ok (.func fn first cap) w := fun _ _ _ _ => rfl
  have hbx := (Below.refl w.heap.size w).alloc (Nat.le_refl _) (.cells #[.func (.func g) #[] lb] 100)
  have HBX := Lib.hid hbx
  have HF := Lib.hid (show ∀ W, Below (w.alloc (.cells #[.func (.func g) #[] lb] 100)).heap.size (w.alloc (.cells #[.func (.func g) #[] lb] 100)) W → W.cell? ⟨w.heap.size, 0, none⟩ = some (.func (.func g) #[] lb) from fun W hb => (hb.cell (p := ⟨w.heap.size, 0, none⟩) (by simp)).trans (by rw [Lib.cell_of_heap (heap_alloc_new w _)]; rfl))
  have hlw : w.heap.size < (w.alloc (.cells #[.func (.func g) #[] lb] 100)).heap.size := by simp
  obtain ⟨wx, hwx⟩ : ∃ wx, wx = w.alloc (.cells #[.func (.func g) #[] lb] 100) := ⟨_, rfl⟩
  rw [← hwx] at hbx HBX HF hlw
  have HWX := Lib.hid hwx
  clear hwx
  have HLW := Lib.hid hlw
  obtain ⟨hop, _, _, _⟩ := chk_ok hcp
  obtain ⟨hoq, hsq, _, hposq⟩ := chk_ok hcq
  have HBY := Lib.hid (byKey_any (cap := c2) (hq.below hbx) hM hsq hlq)
  have HCV := Lib.hid (fun W b (hb : Below wx.heap.size wx W) (hmz : MapZ W b M Q) => cover_any (cap := c1) (hp.below (hbx.trans (hb.mono hbx.size))) hN hlp hmz)
  have e1 : ∀ args w, (callFunc 161 args).run Tryz.prog w = .ok (.enter 161 args) w := enters_of Tryz.func161 (by kernel_rfl) rfl
  have HFOLD := Lib.hid (show allZ P Q = true → ∀ (W : World) (b bo : Nat), Below wx.heap.size wx W → MapZ W b M Q → W.cell? ⟨bo, 0, none⟩ = some (.map (some b)) → bo < W.heap.size → Calls Tryz.prog 82 #[.slice a1 N c1, .string ⟨#[48]⟩, .func (.func 161) #[] #[.pointer (some ⟨w.heap.size, 0, none⟩), .pointer (some ⟨bo, 0, none⟩)]] W (PR (oQ (cmpO st P Q)) W) from fun hall W b bo hb hmz hbo hbl => by
    have hbw := hbx.trans (hb.mono hbx.size)
    have h := foldN_any (lb := #[.pointer (some ⟨w.heap.size, 0, none⟩), .pointer (some ⟨bo, 0, none⟩)]) (cap := c1) (s0 := 0) (f := fun k s => st s (qZ P k) (vQ Q (kZ (getZ P k)))) e1 (hp.below hbw) (by omega) (fun k s x W2 hk hx hrun hb2 => by
      have hb3 := hb.trans (hb2.mono hb.size)
      obtain ⟨hx1, hx2⟩ := hop.at hx
      obtain ⟨hv1, hv2⟩ := vQ_ok hoq (kZ x)
      have hsz := (hlp x (List.mem_of_getElem? hx)).1
      have hin : hasZ (kZ x) Q = true := by
        unfold allZ at hall
        exact List.all_eq_true.1 hall x (List.mem_of_getElem? hx)
      have hpos : 0 < vQ Q (kZ x) := by
        obtain ⟨y, hy, _, e⟩ := val_mem hin
        obtain ⟨j, hj, rfl⟩ := List.mem_iff_getElem.1 hy
        have := hposq j hj
        unfold vQ
        rw [e]
        unfold qZ at this
        rw [getZ_of (List.getElem?_eq_getElem hj)] at this
        exact this
      have h := compared1_any (key := x.1) (ss := qstr s) (sp := qstr (qZ P k)) (sq := qstr (vQ Q (kZ x))) (T := oQ (st s (qZ P k) (vQ Q (kZ x)))) W2 eg (hmz.below hb2) hv1 hsz (HF.out W2 hb3) (Nat.lt_of_lt_of_le HLW.out hb3.size) ((hb2.cell (p := ⟨bo, 0, none⟩) hbl).trans hbo) (Nat.lt_of_lt_of_le hbl hb2.size)
        (fun W3 hb4 => hstep s _ _ W3 (hbw.trans ((hb2.trans (hb4.mono hb2.size)).mono hbw.size)) (runF_ok (fun _ _ _ h1 h => hok _ _ _ _ h1 h) hrun) hx2 hv2 hpos)
      rw [← hx1] at h
      show Calls _ _ _ _ (PR (oQ (st s (qZ P k) (vQ Q (kZ (getZ P k))))) _)
      rw [getZ_of hx]; exact h)
    rw [q0Z] at h
    unfold cmpO
    rw [hp.len]; exact h)
  unfold TR
  obtain ⟨T, hT⟩ : ∃ T, T = cmpR st P Q := ⟨_, rfl⟩
  rw [← hT]
  unfold cmpR at hT
  clear hp hq hbx hlw hlp hlq hcp hcq hop hoq hsq hposq hok hstep e1
  cases ha : allZ P Q with
  | false =>
    rw [ha] at hT HCV
    obtain rfl := hT
    clear HFOLD ha
    go_enter Tryz.func87, Tryz.ntmps87
    go_wp2_with fail
    rw [← HWX.out]
    refine HBY.out.mono ?_
    rintro e w1 ⟨rfl, hmz, hb⟩
    have hal := (Below.refl w1.heap.size w1).alloc (Nat.le_refl _) (.cells #[.map (some wx.heap.size)] 97)
    have HB := Lib.hid (hb.trans (hal.mono hb.size))
    have HCV2 := Lib.hid (HCV.out _ _ HB.out (hmz.below hal))
    clear hb hmz hal HBY HCV
    go_wp2_with fail
    refine HCV2.out.mono ?_
    rintro e w2 ⟨rfl, hb⟩
    have HB2 := Lib.hid (HBX.out.trans ((HB.out.trans (hb.mono HB.out.size)).mono HBX.out.size))
    clear hb HCV2 HB
    go_wp2_with fail
    go_ret3
    exact ⟨rfl, HB2.out⟩
  | true =>
    rw [ha] at hT HCV
    have HFOLD2 := Lib.hid (HFOLD.out ha)
    clear HFOLD ha
    cases hc : cmpO st P Q with
    | none =>
      rw [hc] at hT HFOLD2
      obtain rfl : T = (⟨#[]⟩, false, 5) := hT
      replace HFOLD2 := Lib.hid (show ∀ (W : World) (b bo : Nat), Below wx.heap.size wx W → MapZ W b M Q → W.cell? ⟨bo, 0, none⟩ = some (.map (some b)) → bo < W.heap.size → Calls Tryz.prog 82 #[.slice a1 N c1, .string ⟨#[48]⟩, .func (.func 161) #[] #[.pointer (some ⟨w.heap.size, 0, none⟩), .pointer (some ⟨bo, 0, none⟩)]] W (PR (⟨#[]⟩, 5) W) from HFOLD2.out)
      clear hc
      go_enter Tryz.func87, Tryz.ntmps87
      go_wp2_with fail
      rw [← HWX.out]
      refine HBY.out.mono ?_
      rintro e w1 ⟨rfl, hmz, hb⟩
      have hal := (Below.refl w1.heap.size w1).alloc (Nat.le_refl _) (.cells #[.map (some wx.heap.size)] 97)
      have HB := Lib.hid (hb.trans (hal.mono hb.size))
      have HM1 := Lib.hid (And.intro (hmz.below hal) (show (w1.alloc (.cells #[.map (some wx.heap.size)] 97)).cell? ⟨w1.heap.size, 0, none⟩ = some (.map (some wx.heap.size)) by rw [Lib.cell_of_heap (heap_alloc_new w1 _)]; rfl))
      have HLN := Lib.hid (show w1.heap.size < (w1.alloc (.cells #[.map (some wx.heap.size)] 97)).heap.size by simp)
      have HCV2 := Lib.hid (HCV.out _ _ HB.out HM1.out.1)
      clear hb hmz hal HBY HCV
      go_wp2_with fail
      generalize w1.alloc (.cells #[.map (some wx.heap.size)] 97) = w4 at *
      refine HCV2.out.mono ?_
      rintro e w2 ⟨rfl, hb⟩
      have HB2 := Lib.hid (HB.out.trans (hb.mono HB.out.size))
      have HFD := Lib.hid (HFOLD2.out w2 _ w1.heap.size HB2.out (HM1.out.1.below hb) ((hb.cell (p := ⟨w1.heap.size, 0, none⟩) HLN.out).trans HM1.out.2) (Nat.lt_of_lt_of_le HLN.out hb.size))
      clear hb HCV2 HB HFOLD2 HM1 HLN
      go_wp2_with fail
      refine HFD.out.mono ?_
      rintro e w3 ⟨rfl, hb⟩
      have HB3 := Lib.hid (HBX.out.trans ((HB2.out.trans (hb.mono HB2.out.size)).mono HBX.out.size))
      clear hb HFD HB2
      go_wp2_with fail
      go_ret3
      exact ⟨rfl, HB3.out⟩
    | some r =>
      rw [hc] at hT HFOLD2
      obtain rfl : T = (qstr r, true, 0) := hT
      replace HFOLD2 := Lib.hid (show ∀ (W : World) (b bo : Nat), Below wx.heap.size wx W → MapZ W b M Q → W.cell? ⟨bo, 0, none⟩ = some (.map (some b)) → bo < W.heap.size → Calls Tryz.prog 82 #[.slice a1 N c1, .string ⟨#[48]⟩, .func (.func 161) #[] #[.pointer (some ⟨w.heap.size, 0, none⟩), .pointer (some ⟨bo, 0, none⟩)]] W (PR (qstr r, 0) W) from HFOLD2.out)
      generalize qstr r = sr at *
      clear hc
      go_enter Tryz.func87, Tryz.ntmps87
      go_wp2_with fail
      rw [← HWX.out]
      refine HBY.out.mono ?_
      rintro e w1 ⟨rfl, hmz, hb⟩
      have hal := (Below.refl w1.heap.size w1).alloc (Nat.le_refl _) (.cells #[.map (some wx.heap.size)] 97)
      have HB := Lib.hid (hb.trans (hal.mono hb.size))
      have HM1 := Lib.hid (And.intro (hmz.below hal) (show (w1.alloc (.cells #[.map (some wx.heap.size)] 97)).cell? ⟨w1.heap.size, 0, none⟩ = some (.map (some wx.heap.size)) by rw [Lib.cell_of_heap (heap_alloc_new w1 _)]; rfl))
      have HLN := Lib.hid (show w1.heap.size < (w1.alloc (.cells #[.map (some wx.heap.size)] 97)).heap.size by simp)
      have HCV2 := Lib.hid (HCV.out _ _ HB.out HM1.out.1)
      clear hb hmz hal HBY HCV
      go_wp2_with fail
      generalize w1.alloc (.cells #[.map (some wx.heap.size)] 97) = w4 at *
      refine HCV2.out.mono ?_
      rintro e w2 ⟨rfl, hb⟩
      have HB2 := Lib.hid (HB.out.trans (hb.mono HB.out.size))
      have HFD := Lib.hid (HFOLD2.out w2 _ w1.heap.size HB2.out (HM1.out.1.below hb) ((hb.cell (p := ⟨w1.heap.size, 0, none⟩) HLN.out).trans HM1.out.2) (Nat.lt_of_lt_of_le HLN.out hb.size))
      clear hb HCV2 HB HFOLD2 HM1 HLN
      go_wp2_with fail
      refine HFD.out.mono ?_
      rintro e w3 ⟨rfl, hb⟩
      have HB3 := Lib.hid (HBX.out.trans ((HB2.out.trans (hb.mono HB2.out.size)).mono HBX.out.size))
      clear hb HFD HB2
      go_wp2_with fail
      go_ret3
      exact ⟨rfl, HB3.out⟩

end Go.Proofs.YtofanopnibbaeaaGreatDoor
