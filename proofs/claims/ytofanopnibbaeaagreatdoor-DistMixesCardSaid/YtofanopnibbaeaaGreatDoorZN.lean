/-
  scaled, Mix; common denominators; mixtures; DistMixes is walked.
-/
import Derived.Test.YtofanopnibbaeaaGreatDoorZ23
import Derived.WalkSmall
namespace Go.Proofs.YtofanopnibbaeaaGreatDoor
open Go.RowKit NV Go.Maps Go.Sort Go.Shelf
open Go.Lib (decDigits)

theorem rowM_mono {w : World} {base base' n sz : Nat} {v : Value} {xs : List Value} {e : TypeId} (h : w.ownsRow base e sz v n xs) (hb : base' ≤ base) : w.ownsRow base' e sz v n xs := by
  refine ⟨h.1, ?_⟩
  rcases h.2 with h0 | ⟨g, cap, cur, h1, h2, h3⟩
  · exact .inl h0
  · exact .inr ⟨g, cap, cur, h1, Nat.le_trans hb h2, h3⟩
theorem Ch.at_least {B : Nat} {w w' : World} (h : Below B w w') : Ch (fun b => B ≤ b) w w' := ⟨h.os, h.tape, h.output, h.size, fun j hj hs => h.block j (by omega)⟩
set_option maxHeartbeats 3200000 in
set_option maxRecDepth 100000 in
/-- fold: a run that stops at the first error. -/
theorem fold_list {α : Type} {g : Nat} {lb : Array Value} (eg : ∀ args w, (callFunc g args).run Tryz.prog w = .ok (.enter g args) w) {f : Nat → α → Option α} {L : List MI} {N cap : Nat} {ao : Option Addr} {s0 : α} {v0 : Value} {w : World} (S : Nat → Prop) (St : Nat → α → Value → World → Prop)
    (hr : MR w ao N L) (hN : N ≤ 1000000) (hS : ∀ a, ao = some a → N ≠ 0 → ¬ S a.block) (h0 : St 0 s0 v0 w)
    (hSt : ∀ k s v W W', St k s v W → Below W.heap.size W W' → St k s v W')
    (hOk : ∀ k s t x v W, k < N → L[k]? = some x → runO f s0 k = some s → f k s = some t → Ch S w W → St k s v W → Calls Tryz.prog g (#[v, .agg #[.string x.1, .string x.2]] ++ lb) W fun e w' => ∃ v', e = .returned (.tuple #[v', .int .i64 0]) ∧ St (k + 1) t v' w' ∧ Ch S W w')
    (hNo : ∀ k s x v W, k < N → L[k]? = some x → runO f s0 k = some s → f k s = none → Ch S w W → St k s v W → Calls Tryz.prog g (#[v, .agg #[.string x.1, .string x.2]] ++ lb) W fun e w' => ∃ v', e = .returned (.tuple #[v', .int .i64 5]) ∧ Ch S W w') :
    Calls Tryz.prog 172 #[.slice ao N cap, v0, .func (.func g) #[] lb] w fun e w' => (∀ s, runO f s0 N = some s → ∃ v, e = .returned (.tuple #[v, .int .i64 0]) ∧ St N s v w') ∧ (runO f s0 N = none → e = .returned (.tuple #[.slice none 0 0, .int .i64 5])) ∧ Ch S w w' := by
  have HR := Lib.hid (fun W (h : Ch S w W) => hr.ch h hS)
  have HST := Lib.hid hSt
  have HOK := Lib.hid hOk
  have HNO := Lib.hid hNo
  have H0 := Lib.hid h0
  clear hOk hNo hr hSt h0
  go_enter Tryz.func172, Tryz.ntmps172
  go_wp2_with fail
  go_loopw [1, 15] (fun vv iv wr => ∃ (k : Nat) (s : α), k ≤ N ∧ iv = .int .i64 (k : Int) ∧ Hid (runO f s0 k = some s) ∧ Hid (St k s vv wr) ∧ Ch S w wr) (fun _ iv _ => N - (intOf iv).toNat)
  case atStart => exact ⟨0, s0, Nat.zero_le _, rfl, Lib.hid rfl, H0, Ch.refl _ _⟩
  case round =>
    obtain ⟨k, s, hk, rfl, HRUN, HSV, hc⟩ := hrel
    by_cases hlt : k < N
    · obtain ⟨a, x, rfl, hx, _, c0, c1⟩ := (HR.out _ hc).at hlt
      have hb0 := (Below.refl wr.heap.size wr).alloc (Nat.le_refl _) (.cells #[.string x.1, .string x.2] 29)
      have HC := Lib.hid (hc.trans (Ch.below hb0))
      have HX := Lib.hid (And.intro hx (HST.out _ _ _ _ _ HSV.out hb0))
      clear hc hb0 hx HR HST HSV
      obtain ⟨x1, x2⟩ := x
      cases hf : f k s with
      | none =>
        have HFK := Lib.hid (HNO.out k s (x1, x2) u1 _ hlt HX.out.1 HRUN.out hf HC.out HX.out.2)
        have HT := Lib.hid (runO_fail HRUN.out hf hlt)
        clear hf HNO HOK HX HRUN
        go_wp2_with (go_at_fn g; refine HFK.out.mono ?_; rintro e w2 ⟨v', rfl, hc⟩)
        go_ret2
        exact ⟨fun s h => (by rw [HT.out] at h; cases h), fun _ => rfl, HC.out.trans hc⟩
      | some t =>
        have HFK := Lib.hid (HOK.out k s t (x1, x2) u1 _ hlt HX.out.1 HRUN.out hf HC.out HX.out.2)
        have HT := Lib.hid (show runO f s0 (k + 1) = some t by rw [runO_step HRUN.out, hf])
        clear hf HNO HOK HX HRUN
        go_wp2_with (go_at_fn g; refine HFK.out.mono ?_; rintro e w2 ⟨v', rfl, hst, hc⟩; have HSV := Lib.hid hst; clear hst)
        go_roundw
        case rel => exact ⟨k + 1, t, by omega, by go_num, HT, HSV, HC.out.trans hc⟩
        case measure => simp [intOf]; omega
    · obtain rfl : k = N := by omega
      have HC := Lib.hid hc
      clear hc HR HOK HNO HST
      go_wp2_with fail
      go_ret2
      exact ⟨fun s' h => ⟨_, rfl, (by rw [HRUN.out] at h; cases h; exact HSV.out)⟩, fun h => (by rw [HRUN.out] at h; cases h), HC.out⟩

set_option maxHeartbeats 1600000 in
set_option maxRecDepth 100000 in
theorem Scaled1_any {base n bf c : Nat} {v : Value} {xs : List Value} {key t ps sf : ByteArray} (w : World) (hrow : w.ownsRow base 29 2 v n xs) (hbase : base ≤ w.heap.size) (hn : n ≤ 1000000) (hf : w.cell? ⟨bf, 0, none⟩ = some (.string sf)) (hfl : bf < w.heap.size)
    (hM : ∀ W, Below w.heap.size w W → Calls Tryz.prog 92 #[.string ps, .string sf] W (PR (t, c) W)) :
    Calls Tryz.prog 173 #[v, .agg #[.string key, .string ps], .pointer (some ⟨bf, 0, none⟩)] w fun e w' => ∃ v', e = .returned (.tuple #[v', .int .i64 (c : Int)]) ∧ w'.ownsRow base 29 2 v' (n + 1) (xs ++ [.string key, .string t]) ∧ Below base w w' := by
  obtain ⟨i0, hi, hz0, hz1, hz2⟩ := info_parts infoZ
  have hbx := (Below.refl w.heap.size w).alloc (Nat.le_refl _) (.cells #[.string key, .string ps] 29)
  have HBX := Lib.hid hbx
  have HF := Lib.hid (fun W (hb : Below w.heap.size w W) => (hb.cell (p := ⟨bf, 0, none⟩) hfl).trans hf)
  have HBOX := Lib.hid (show ∀ W, Below (w.alloc (.cells #[.string key, .string ps] 29)).heap.size (w.alloc (.cells #[.string key, .string ps] 29)) W → W.cell? ⟨w.heap.size, 0, none⟩ = some (.string key) ∧ W.cell? ⟨w.heap.size, 1, none⟩ = some (.string ps) from fun W hb =>
    ⟨(hb.cell (p := ⟨w.heap.size, 0, none⟩) (by simp)).trans (by rw [Lib.cell_of_heap (heap_alloc_new w _)]; rfl), (hb.cell (p := ⟨w.heap.size, 1, none⟩) (by simp)).trans (by rw [Lib.cell_of_heap (heap_alloc_new w _)]; rfl)⟩)
  have HROW := Lib.hid (fun W (hb : Below w.heap.size w W) => rowM_below hrow hb)
  have HM := Lib.hid hM
  have HBS := Lib.hid hbase
  clear hrow hf hM hfl
  obtain ⟨xo, xc, rfl, _⟩ := rowM_shape (HROW.out w (Below.refl _ _))
  have f0 := HF.out _ HBX.out
  have c0 := (HBOX.out _ (Below.refl _ _)).2
  clear hbx
  go_enter Tryz.func173, Tryz.ntmps173
  go_wp2_with fail
  refine (HM.out _ HBX.out).mono ?_
  rintro e w1 ⟨rfl, hb⟩
  have c1 := (HBOX.out w1 hb).1
  have HB1 := Lib.hid (HBX.out.trans (hb.mono HBX.out.size))
  have HRW := Lib.hid (HROW.out w1 HB1.out)
  have HSZ := Lib.hid (Nat.le_trans HBS.out HB1.out.size)
  clear hb HM HROW HF HBOX c0 f0
  go_wp2_with (at_builtin; refine wpList_append_own _ rfl _ _ 23 rfl base 29 i0 (.agg #[.string ⟨#[]⟩, .string ⟨#[]⟩]) 2 32 Tryz.underlying23 hi hz0 hz1 hz2 rfl (by decide) _ _ _ rfl (HRW.out.alloc _) ⟨w1.heap.size, 0, none⟩ 1 1 [.string key, .string t] rfl rfl (World.news_of_block (heap_alloc_new _ _)) (fun u hu => by simp at hu; rcases hu with rfl | rfl <;> rfl) ?c3 ?c4 ?c5 ?_)
  case c3 => unfold maxLen; omega
  case c4 => omega
  case c5 => have := HSZ.out; simp; omega
  intro v' w6 hown' hgrow _
  have hlt5 := HRW.out.lt
  have HF2 := Lib.hid (And.intro hown' (((HB1.out.mono HBS.out).alloc HSZ.out _).grown hgrow (by have := HSZ.out; simp; omega) (fun q hq => (hlt5 q hq).1)))
  clear hown' hgrow hlt5 c1
  go_wp2_with fail
  go_ret2
  exact ⟨v', rfl, HF2.out.1, HF2.out.2⟩

/-- What scaled makes. -/
def scF (L : List MI) (F : Rat) (k : Nat) (s : List MI) : Option (List MI) := (okQ (qZ L k * F)).map fun q => s ++ [((getZ L k).1, qstr q)]
def scO (L : List MI) (F : Rat) : Option (List MI) := runO (scF L F) [] L.length
theorem scF_len {L : List MI} {F : Rat} : ∀ {k : Nat} {s : List MI}, runO (scF L F) [] k = some s → s.length = k
  | 0, s, h => by obtain rfl : [] = s := Option.some.inj h; rfl
  | k + 1, s, h => by
    obtain ⟨s0, h0⟩ := runO_some h k (by omega)
    rw [runO_step h0] at h
    unfold scF at h
    cases hq : okQ (qZ L k * F) with
    | none => rw [hq] at h; cases h
    | some q =>
      rw [hq] at h
      obtain rfl : s0 ++ [((getZ L k).1, qstr q)] = s := by simpa using h
      rw [List.length_append, scF_len h0]; rfl

set_option maxHeartbeats 3200000 in
set_option maxRecDepth 100000 in
theorem Scaled_any {L : List MI} {N cap : Nat} {ao : Option Addr} {F : Rat} {w : World} (hr : MR w ao N L) (hN : N ≤ 1000) (hok : OKM L) (hF : QOk F) (htab : Tab w) (hm : ML w) :
    Calls Tryz.prog 94 #[.slice ao N cap, .string (qstr F)] w fun e w' => (∀ s, scO L F = some s → ∃ v, e = .returned (.tuple #[v, .int .i64 0]) ∧ w'.ownsRow w.heap.size 29 2 v s.length (cellsZ s)) ∧ (scO L F = none → e = .returned (.tuple #[.slice none 0 0, .int .i64 5])) ∧ Below w.heap.size w w' := by
  have e1 : ∀ args w, (callFunc 173 args).run Tryz.prog w = .ok (.enter 173 args) w := enters_of Tryz.func173 (by kernel_rfl) rfl
  have hbx := (Below.refl w.heap.size w).alloc (Nat.le_refl _) (.cells #[.string (qstr F)] 27)
  have hfc : (w.alloc (.cells #[.string (qstr F)] 27)).cell? ⟨w.heap.size, 0, none⟩ = some (.string (qstr F)) := by rw [Lib.cell_of_heap (heap_alloc_new w _)]; rfl
  have hsz : (w.alloc (.cells #[.string (qstr F)] 27)).heap.size = w.heap.size + 1 := by simp
  obtain ⟨wx, hwx⟩ : ∃ wx, wx = w.alloc (.cells #[.string (qstr F)] 27) := ⟨_, rfl⟩
  rw [← hwx] at hbx hfc hsz
  have hrx := hr.below hbx
  have hlen := hr.len
  have hS : ∀ a, ao = some a → N ≠ 0 → ¬ wx.heap.size ≤ a.block := fun a ha h0 => by
    obtain ⟨a', h1, h2, _⟩ := hr.form h0
    obtain rfl : a = a' := by rw [ha] at h1; exact Option.some.inj h1
    omega
  have hfold := fold_list (g := 173) (lb := #[.pointer (some ⟨w.heap.size, 0, none⟩)]) e1 (f := scF L F) (L := L) (N := N) (cap := cap) (ao := ao) (s0 := []) (v0 := .slice none 0 0) (w := wx) (fun b => wx.heap.size ≤ b)
    (fun k s v W => W.ownsRow wx.heap.size 29 2 v s.length (cellsZ s)) hrx (by omega) hS (World.ownsRow_nil _ _ _ _) (fun k s v W W' h hb => rowM_below h hb)
    (fun k s t x v W hk hx hrun hf hc hst => by
      have hcell : W.cell? ⟨w.heap.size, 0, none⟩ = some (.string (qstr F)) := (hc.at (a := ⟨w.heap.size, 0, none⟩) (by show w.heap.size < _; omega) (by show ¬ wx.heap.size ≤ w.heap.size; omega)).trans hfc
      obtain ⟨hx1, hx2⟩ := hok.at hx
      unfold scF at hf
      rw [getZ_of hx] at hf
      cases hq : okQ (qZ L k * F) with
      | none => rw [hq] at hf; cases hf
      | some q =>
        rw [hq] at hf
        obtain rfl : s ++ [(x.1, qstr q)] = t := by simpa using hf
        have hbw : Below w.heap.size w W := hbx.trans (hc.to_below (by omega) (fun j hj => by omega))
        have h := Scaled1_any (key := x.1) (t := qstr q) (c := 0) (ps := x.2) (sf := qstr F) (bf := w.heap.size) W hst hc.size (by rw [scF_len hrun]; omega) hcell (by have := hc.size; omega)
          (fun W2 hb2 => by
            have h2 := Mul_oQ (qZ L k) F hx2 hF W2 (htab.below (hbw.trans (hb2.mono hbw.size))) (ml_keep hm (ml_pos hm) (hbw.trans (hb2.mono hbw.size)))
            rw [hq, ← hx1] at h2
            exact h2)
        refine h.mono ?_
        rintro e w' ⟨v', he, h1, h2⟩
        refine ⟨v', he, ?_, Ch.at_least h2⟩
        rw [List.length_append, cellsZ_app]
        exact h1)
    (fun k s x v W hk hx hrun hf hc hst => by
      have hcell : W.cell? ⟨w.heap.size, 0, none⟩ = some (.string (qstr F)) := (hc.at (a := ⟨w.heap.size, 0, none⟩) (by show w.heap.size < _; omega) (by show ¬ wx.heap.size ≤ w.heap.size; omega)).trans hfc
      obtain ⟨hx1, hx2⟩ := hok.at hx
      unfold scF at hf
      cases hq : okQ (qZ L k * F) with
      | some q => rw [hq] at hf; cases hf
      | none =>
        have hbw : Below w.heap.size w W := hbx.trans (hc.to_below (by omega) (fun j hj => by omega))
        have h := Scaled1_any (key := x.1) (t := ⟨#[]⟩) (c := 5) (ps := x.2) (sf := qstr F) (bf := w.heap.size) W hst hc.size (by rw [scF_len hrun]; omega) hcell (by have := hc.size; omega)
          (fun W2 hb2 => by
            have h2 := Mul_oQ (qZ L k) F hx2 hF W2 (htab.below (hbw.trans (hb2.mono hbw.size))) (ml_keep hm (ml_pos hm) (hbw.trans (hb2.mono hbw.size)))
            rw [hq, ← hx1] at h2
            exact h2)
        refine h.mono ?_
        rintro e w' ⟨v', he, _, h2⟩
        exact ⟨v', he, Ch.at_least h2⟩)
  have HFO := Lib.hid hfold
  have HEND := Lib.hid (show ∀ w', Ch (fun b => wx.heap.size ≤ b) wx w' → Below w.heap.size w w' from fun w' hc => hbx.trans (hc.to_below (by omega) (fun j hj => by omega)))
  have hsle : w.heap.size ≤ wx.heap.size := by omega
  unfold scO
  rw [hlen]
  clear hr hok hF htab hm hbx hfc hsz hrx hlen hS hfold e1
  have hmf : ∀ (fn : Fn) (first cap : Array Value) (w : World), (Instr.makeFunc fn first cap).run Tryz.prog w = .ok (.func fn first cap) w := fun _ _ _ _ => rfl
  go_enter Tryz.func94, Tryz.ntmps94
  go_wp2_with fail
  rw [← hwx]
  refine HFO.out.mono ?_
  rintro e w1 ⟨h1, h2, hc⟩
  have HB := Lib.hid (HEND.out w1 hc)
  cases hrun : runO (scF L F) [] N with
  | none =>
    obtain rfl := h2 hrun
    clear h1 h2 hc HFO HEND
    go_wp2_with fail
    go_ret2
    exact ⟨fun s h => (by rw [hrun] at h; cases h), fun _ => rfl, HB.out⟩
  | some s =>
    obtain ⟨v, rfl, hrow⟩ := h1 s hrun
    have HROW := Lib.hid (rowM_mono hrow hsle)
    clear h1 h2 hc HFO HEND hrow
    go_wp2_with fail
    go_ret2
    refine ⟨fun s' h => ?_, fun h => (by rw [hrun] at h; cases h), HB.out⟩
    rw [hrun] at h
    obtain rfl := Option.some.inj h
    exact ⟨v, rfl, HROW.out⟩

/-- What Mix puts together, and what it says. -/
def mixL (P Q : List MI) (p : Rat) : Option (List MI) := (scO P p).bind fun s => (scO Q (1 + -p)).map fun t => s ++ t
def mixE (P Q : List MI) (sp : ByteArray) : Nat :=
  if bE P Q ≠ 0 then bE P Q else if eS sp ≠ 0 then eS sp else if eS (qstr (1 + -ratS sp)) ≠ 0 then 2 else match mixL P Q (ratS sp) with
  | none => 5
  | some l => mkE l
def MxP (P Q : List MI) (sp : ByteArray) (w : World) (e : Ending) (w' : World) : Prop :=
  (mixE P Q sp ≠ 0 → e = .returned (.tuple #[.slice none 0 0, .int .i64 ((mixE P Q sp : Nat) : Int)])) ∧
  (mixE P Q sp = 0 → ∃ l S v, mixL P Q (ratS sp) = some l ∧ colO l = some S ∧ GoodQ (outQ S) ∧ sumD (outQ S) = 0 ∧ e = .returned (.tuple #[v, .int .i64 0]) ∧ w'.ownsRow w.heap.size 29 2 v (outQ S).length (cellsZ (tZ (outQ S)))) ∧ Below w.heap.size w w'
theorem sc_none {L : List MI} {F : Rat} {args : Array Value} {W : World} (hn : scO L F = none) (h : Calls Tryz.prog 94 args W fun e w' => (∀ s, scO L F = some s → ∃ v, e = .returned (.tuple #[v, .int .i64 0]) ∧ w'.ownsRow W.heap.size 29 2 v s.length (cellsZ s)) ∧ (scO L F = none → e = .returned (.tuple #[.slice none 0 0, .int .i64 5])) ∧ Below W.heap.size W w') :
    Calls Tryz.prog 94 args W fun e w' => e = .returned (.tuple #[.slice none 0 0, .int .i64 5]) ∧ Below W.heap.size W w' := h.mono fun _ _ ⟨_, h2, h3⟩ => ⟨h2 hn, h3⟩
theorem sc_some {L s : List MI} {F : Rat} {args : Array Value} {W : World} (hn : scO L F = some s) (h : Calls Tryz.prog 94 args W fun e w' => (∀ s, scO L F = some s → ∃ v, e = .returned (.tuple #[v, .int .i64 0]) ∧ w'.ownsRow W.heap.size 29 2 v s.length (cellsZ s)) ∧ (scO L F = none → e = .returned (.tuple #[.slice none 0 0, .int .i64 5])) ∧ Below W.heap.size W w') :
    Calls Tryz.prog 94 args W fun e w' => (∃ v, e = .returned (.tuple #[v, .int .i64 0]) ∧ w'.ownsRow W.heap.size 29 2 v s.length (cellsZ s)) ∧ Below W.heap.size W w' := h.mono fun _ _ ⟨h1, _, h3⟩ => ⟨h1 s hn, h3⟩
theorem scF_at {L : List MI} {F : Rat} : ∀ {k : Nat} {s : List MI}, k ≤ L.length → runO (scF L F) [] k = some s → ∀ x, x ∈ s → ∃ j, j < k ∧ x.1 = (getZ L j).1 ∧ x.2 = qstr (qZ L j * F) ∧ QOk (qZ L j * F)
  | 0, s, _, h => by obtain rfl : [] = s := Option.some.inj h; intro x hx; cases hx
  | k + 1, s, hk, h => by
    obtain ⟨s0, h0⟩ := runO_some h k (by omega)
    rw [runO_step h0] at h
    unfold scF at h
    cases hq : okQ (qZ L k * F) with
    | none => rw [hq] at h; cases h
    | some q =>
      rw [hq] at h
      obtain rfl : s0 ++ [((getZ L k).1, qstr q)] = s := by simpa using h
      obtain ⟨e, ho⟩ := okQ_some hq
      intro x hx
      rcases List.mem_append.1 hx with hx | hx
      · obtain ⟨j, h1, h2⟩ := scF_at (by omega) h0 x hx
        exact ⟨j, by omega, h2⟩
      · obtain rfl := List.mem_singleton.1 hx
        exact ⟨k, by omega, rfl, by rw [e], ho⟩
theorem scO_ml {L s : List MI} {F : Rat} (hl : ML2 L) (h : scO L F = some s) : ML2 s := fun x hx => by
  obtain ⟨j, hj, h1, h2, h3⟩ := scF_at (Nat.le_refl _) h x hx
  rw [h1, h2]
  refine ⟨?_, Nat.le_trans (qstr_size h3) (by omega)⟩
  rw [getZ_of (List.getElem?_eq_getElem hj)]
  exact (hl _ (List.getElem_mem hj)).1

set_option maxHeartbeats 6400000 in
set_option maxRecDepth 100000 in
theorem Mix_any {P Q : List MI} {N M c1 c2 : Nat} {a1 a2 : Option Addr} {sp : ByteArray} {w : World} (hp : MR w a1 N P) (hq : MR w a2 M Q) (hN : N ≤ 400) (hM : M ≤ 400) (hlp : ML2 P) (hlq : ML2 Q) (hsp : sp.size ≤ 1000000) (hz1 : eS sp = 0 → QOk (1 + -ratS sp)) (htab : Tab w) (hm : ML w) :
    Calls Tryz.prog 24 #[.string sp, .slice a1 N c1, .slice a2 M c2] w (MxP P Q sp w) := by
  have HTM := Lib.hid (fun W (hb : Below w.heap.size w W) => And.intro (htab.below hb) (ml_keep hm (ml_pos hm) hb))
  have HCB := Lib.hid (checkBoth_any (c1 := c1) (c2 := c2) hp hq (by omega) (by omega) hlp hlq htab hm)
  have HCN := Lib.hid (fun s (hs : s.size ≤ 1000000) W (hb : Below w.heap.size w W) => cnn_any s hs W (HTM.out W hb).2)
  have HSP := Lib.hid hsp
  unfold MxP
  obtain ⟨E, hE⟩ : ∃ E, E = mixE P Q sp := ⟨_, rfl⟩
  rw [← hE]
  unfold mixE at hE
  by_cases h0 : bE P Q = 0
  · rw [if_neg (by omega)] at hE
    rw [h0] at HCB
    obtain ⟨hcp, hcq⟩ := bE_zero h0
    have HCQ := Lib.hid hcq
    have hop := (chk_ok hcp).1
    have hoq := (chk_ok hcq).1
    by_cases h1 : eS sp = 0
    · rw [if_neg (by omega)] at hE
      obtain ⟨hs1, hs2, hs3⟩ := eS_zero h1
      have hr := hz1 h1
      obtain ⟨p, hpp⟩ : ∃ p, p = ratS sp := ⟨_, rfl⟩
      rw [← hpp] at hE hs1 hs2 hs3 hr
      rw [← hpp]
      have HCN2 := Lib.hid (show ∀ W, Below w.heap.size w W → Calls Tryz.prog 80 #[.string sp] W fun e w' => e = .returned (.int .i64 0) ∧ Below W.heap.size W w' from fun W hb => by
        have h := HCN.out sp hsp W hb
        rw [h1] at h
        exact h)
      have HSU := Lib.hid (show ∀ W, Below w.heap.size w W → Calls Tryz.prog 93 #[.string ⟨#[49]⟩, .string sp] W (fun e w' => e = .returned (.tuple #[.string (qstr (1 + -p)), .int .i64 0]) ∧ Below W.heap.size W w') from fun W hb => by
        have h := Sub_oQ 1 p (by decide +kernel) hs2 W (HTM.out W hb).1 (HTM.out W hb).2
        rw [okQ_yes hr, ← hs1, show qstr 1 = ⟨#[49]⟩ by decide +kernel] at h
        exact h)
      have HCR := Lib.hid (fun W (hb : Below w.heap.size w W) => HCN.out (qstr (1 + -p)) (Nat.le_trans (qstr_size hr) (by omega)) W hb)
      by_cases h2 : eS (qstr (1 + -p)) = 0
      · rw [if_neg (by omega)] at hE
        rw [h2] at HCR
        have HSA := Lib.hid (fun W (hb : Below w.heap.size w W) => Scaled_any (cap := c1) (F := p) (hp.below hb) (by omega) hop hs2 (HTM.out W hb).1 (HTM.out W hb).2)
        have HSB := Lib.hid (fun W (hb : Below w.heap.size w W) => Scaled_any (cap := c2) (F := 1 + -p) (hq.below hb) (by omega) hoq hr (HTM.out W hb).1 (HTM.out W hb).2)
        rw [← hs1] at HSA
        unfold mixL at hE ⊢
        have hlen1 := hp.len
        have hlen2 := hq.len
        clear hp hq hsp hz1 htab hm hs1 hs2 hs3 hr h0 h1 h2 hop hoq hcp hcq hpp HCN HSP
        generalize qstr (1 + -p) = sr at *
        cases hsa : scO P p with
        | none =>
          rw [hsa] at hE
          obtain rfl : E = 5 := hE
          have HNA := Lib.hid (fun W (hb : Below w.heap.size w W) => sc_none hsa (HSA.out W hb))
          clear HSA HSB hsa HTM
          go_enter Tryz.func24, Tryz.ntmps24
          go_wp2_with fail
          refine HCB.out.mono ?_
          rintro e w1 ⟨rfl, hb⟩
          have HB1 := Lib.hid hb
          clear hb HCB
          go_wp2_with fail
          refine (HCN2.out _ HB1.out).mono ?_
          rintro e w2 ⟨rfl, hb⟩
          have HB2 := Lib.hid (HB1.out.trans (hb.mono HB1.out.size))
          clear hb HB1 HCN2
          go_wp2_with fail
          refine (HSU.out _ HB2.out).mono ?_
          rintro e w3 ⟨rfl, hb⟩
          have HB3 := Lib.hid (HB2.out.trans (hb.mono HB2.out.size))
          clear hb HB2 HSU
          go_wp2_with fail
          refine (HCR.out _ HB3.out).mono ?_
          rintro e w4 ⟨rfl, hb⟩
          have HB4 := Lib.hid (HB3.out.trans (hb.mono HB3.out.size))
          clear hb HB3 HCR
          go_wp2_with fail
          refine (HNA.out _ HB4.out).mono ?_
          rintro e w5 ⟨rfl, hb⟩
          have HB5 := Lib.hid (HB4.out.trans (hb.mono HB4.out.size))
          clear hb HNA HB4
          go_wp2_with fail
          go_ret2
          exact ⟨fun _ => rfl, fun h => (by cases h), HB5.out⟩
        | some s =>
          have HYA := Lib.hid (fun W (hb : Below w.heap.size w W) => sc_some hsa (HSA.out W hb))
          rw [hsa] at hE
          cases hsb : scO Q (1 + -p) with
          | none =>
            rw [hsb] at hE
            obtain rfl : E = 5 := hE
            have HNB := Lib.hid (fun W (hb : Below w.heap.size w W) => sc_none hsb (HSB.out W hb))
            clear HSA HSB hsa hsb HTM
            go_enter Tryz.func24, Tryz.ntmps24
            go_wp2_with fail
            refine HCB.out.mono ?_
            rintro e w1 ⟨rfl, hb⟩
            have HB1 := Lib.hid hb
            clear hb HCB
            go_wp2_with fail
            refine (HCN2.out _ HB1.out).mono ?_
            rintro e w2 ⟨rfl, hb⟩
            have HB2 := Lib.hid (HB1.out.trans (hb.mono HB1.out.size))
            clear hb HB1 HCN2
            go_wp2_with fail
            refine (HSU.out _ HB2.out).mono ?_
            rintro e w3 ⟨rfl, hb⟩
            have HB3 := Lib.hid (HB2.out.trans (hb.mono HB2.out.size))
            clear hb HB2 HSU
            go_wp2_with fail
            refine (HCR.out _ HB3.out).mono ?_
            rintro e w4 ⟨rfl, hb⟩
            have HB4 := Lib.hid (HB3.out.trans (hb.mono HB3.out.size))
            clear hb HB3 HCR
            go_wp2_with fail
            refine (HYA.out _ HB4.out).mono ?_
            rintro e w5 ⟨⟨v, rfl, hrow⟩, hb⟩
            have HB5 := Lib.hid (HB4.out.trans (hb.mono HB4.out.size))
            clear hb HYA HB4 hrow
            go_wp2_with fail
            refine (HNB.out _ HB5.out).mono ?_
            rintro e w6 ⟨rfl, hb⟩
            have HB6 := Lib.hid (HB5.out.trans (hb.mono HB5.out.size))
            clear hb HNB HB5
            go_wp2_with fail
            go_ret2
            exact ⟨fun _ => rfl, fun h => (by cases h), HB6.out⟩
          | some t =>
            have HYB := Lib.hid (fun W (hb : Below w.heap.size w W) => sc_some hsb (HSB.out W hb))
            rw [hsb] at hE
            replace hE : E = mkE (s ++ t) := hE
            have hsl : s.length ≤ 400 := by rw [scF_len hsa]; omega
            have htl : t.length ≤ 400 := by rw [scF_len hsb]; omega
            have hml : ML2 (s ++ t) := fun x hx => (List.mem_append.1 hx).elim (scO_ml hlp hsa x) (scO_ml hlq hsb x)
            have HMK := Lib.hid (fun W ao cap (hb : Below w.heap.size w W) (h : MR W ao (s.length + t.length) (s ++ t)) => Make_any (cap := cap) h (by omega) hml (HTM.out W hb).1 (HTM.out W hb).2)
            have HJ := Lib.hid (And.intro hsa hsb)
            have HT0 := Lib.hid (show t.length ≠ 0 from fun h => by
              have h1 : Q.length = 0 := by rw [← scF_len hsb]; exact h
              have h2 : Q = [] := List.length_eq_zero_iff.1 h1
              rw [h2] at HCQ
              exact absurd HCQ.out (by decide +kernel))
            have HOC := Lib.hid (show ∀ u ∈ cellsZ t, u.oneCell' = true from fun u hu => by
              unfold cellsZ at hu
              obtain ⟨x, _, hx⟩ := List.mem_flatMap.1 hu
              rcases List.mem_cons.1 hx with rfl | hx
              · rfl
              · obtain rfl := List.mem_singleton.1 hx
                rfl)
            obtain ⟨i0, hi, hz0, hz1, hz2⟩ := info_parts infoZ
            clear HSA HSB hsa hsb HTM hlp hlq hml
            go_enter Tryz.func24, Tryz.ntmps24
            go_wp2_with fail
            refine HCB.out.mono ?_
            rintro e w1 ⟨rfl, hb⟩
            have HB1 := Lib.hid hb
            clear hb HCB
            go_wp2_with fail
            refine (HCN2.out _ HB1.out).mono ?_
            rintro e w2 ⟨rfl, hb⟩
            have HB2 := Lib.hid (HB1.out.trans (hb.mono HB1.out.size))
            clear hb HB1 HCN2
            go_wp2_with fail
            refine (HSU.out _ HB2.out).mono ?_
            rintro e w3 ⟨rfl, hb⟩
            have HB3 := Lib.hid (HB2.out.trans (hb.mono HB2.out.size))
            clear hb HB2 HSU
            go_wp2_with fail
            refine (HCR.out _ HB3.out).mono ?_
            rintro e w4 ⟨rfl, hb⟩
            have HB4 := Lib.hid (HB3.out.trans (hb.mono HB3.out.size))
            clear hb HB3 HCR
            go_wp2_with fail
            refine (HYA.out _ HB4.out).mono ?_
            rintro e w5 ⟨⟨v, rfl, hrow⟩, hb⟩
            have HB5 := Lib.hid (HB4.out.trans (hb.mono HB4.out.size))
            have HR5 := Lib.hid hrow
            have HZ4 := Lib.hid HB4.out.size
            have HZ5 := Lib.hid hb.size
            clear hb HYA HB4 hrow
            go_wp2_with fail
            refine (HYB.out _ HB5.out).mono ?_
            rintro e w6 ⟨⟨u, rfl, hrow⟩, hb⟩
            have HB6 := Lib.hid (HB5.out.trans (hb.mono HB5.out.size))
            have HR6 := Lib.hid (rowM_below HR5.out hb)
            have HZ6 := Lib.hid hb.size
            obtain ⟨uo, uc, rfl, hmu⟩ := MR.own hrow rfl
            have HMU := Lib.hid hmu
            obtain ⟨ua, rfl, _, _⟩ := hmu.form HT0.out
            have HUC := Lib.hid (show ∀ j x, (cellsZ t)[j]? = some x → w6.cell? (ua.add j) = some x from fun j x hx => by
              obtain ⟨ao', c', h1, h2⟩ := rowM_shape hrow
              obtain ⟨g, h3, _, _⟩ := h2 HT0.out
              cases h1
              cases h3
              exact hrow.cells (g := g) rfl j x hx)
            obtain ⟨vo, vc, rfl, _⟩ := rowM_shape HR6.out
            clear hb HYB HB5 hrow HR5 hmu HMU
            go_wp2_with (at_builtin; refine wpList_append_own _ rfl _ _ 23 rfl w4.heap.size 29 i0 (.agg #[.string ⟨#[]⟩, .string ⟨#[]⟩]) 2 32 Tryz.underlying23 hi hz0 hz1 hz2 rfl (by decide) _ _ _ rfl HR6.out ua t.length uc (cellsZ t) rfl (cellsZ_len t) HUC.out HOC.out ?c3 ?c4 ?c5 ?_)
            case c3 => unfold maxLen; omega
            case c4 => omega
            case c5 => have h5 := HZ5.out; have h6 := HZ6.out; omega
            intro v' w7 hown' hgrow _
            have hlt5 := HR6.out.lt
            have HB7 := Lib.hid (HB6.out.grown hgrow HB6.out.size (fun q hq => Nat.le_trans HZ4.out (hlt5 q hq).1))
            obtain ⟨xo, xc, rfl, hmr⟩ := MR.own (L := s ++ t) (by rw [cellsZ_app]; exact hown') (List.length_append)
            have HMK2 := Lib.hid (HMK.out w7 xo xc HB7.out hmr)
            clear hown' hgrow hlt5 hmr HR6 HUC HMK HB6
            go_wp2_with fail
            refine HMK2.out.mono ?_
            rintro e w8 ⟨h1, h2, hb⟩
            have HB8 := Lib.hid (HB7.out.trans (hb.mono HB7.out.size))
            have HZ7 := Lib.hid HB7.out.size
            clear hb HMK2 HB7
            by_cases hm0 : mkE (s ++ t) = 0
            · obtain ⟨S, y, hc, hg, hs, rfl, hrow⟩ := h2 hm0
              have HEND := Lib.hid (And.intro hc (And.intro hg (And.intro hs (rowM_mono hrow HZ7.out))))
              have hE0 : E = 0 := by rw [hE]; exact hm0
              clear h1 h2 hc hg hs hrow hE hm0
              go_wp2_with fail
              go_ret2
              refine ⟨fun h => absurd hE0 h, fun _ => ⟨s ++ t, S, y, ?_, HEND.out.1, HEND.out.2.1, HEND.out.2.2.1, rfl, HEND.out.2.2.2⟩, HB8.out⟩
              rfl
            · obtain rfl := h1 hm0
              clear h1 h2
              rw [← hE] at hm0
              subst hE
              go_wp2_with fail
              go_ret2
              exact ⟨fun _ => rfl, fun h => absurd h hm0, HB8.out⟩
      · rw [if_pos h2] at hE
        subst hE
        have hz := errneZ h2
        generalize eS (qstr (1 + -p)) = d at *
        clear hp hq hlp hlq hsp hz1 htab hm hs1 hs2 hs3 hr h0 h1 h2 hop hoq hcp hcq hpp HCN HSP HTM
        generalize qstr (1 + -p) = sr at *
        go_enter Tryz.func24, Tryz.ntmps24
        go_wp2_with fail
        refine HCB.out.mono ?_
        rintro e w1 ⟨rfl, hb⟩
        have HB1 := Lib.hid hb
        clear hb HCB
        go_wp2_with fail
        refine (HCN2.out _ HB1.out).mono ?_
        rintro e w2 ⟨rfl, hb⟩
        have HB2 := Lib.hid (HB1.out.trans (hb.mono HB1.out.size))
        clear hb HB1 HCN2
        go_wp2_with fail
        refine (HSU.out _ HB2.out).mono ?_
        rintro e w3 ⟨rfl, hb⟩
        have HB3 := Lib.hid (HB2.out.trans (hb.mono HB2.out.size))
        clear hb HB2 HSU
        go_wp2_with fail
        refine (HCR.out _ HB3.out).mono ?_
        rintro e w4 ⟨rfl, hb⟩
        have HB4 := Lib.hid (HB3.out.trans (hb.mono HB3.out.size))
        clear hb HB3 HCR
        go_wp2_with fail
        go_ret2
        exact ⟨fun _ => rfl, fun h => (by cases h), HB4.out⟩
    · rw [if_pos h1] at hE
      subst hE
      have hz := errneZ h1
      have hne := h1
      have HC1 := Lib.hid (fun W (hb : Below w.heap.size w W) => HCN.out sp hsp W hb)
      clear hp hq hlp hlq hsp hz1 htab hm h0 h1 hop hoq hcp hcq HCN HTM HSP
      generalize eS sp = d at *
      go_enter Tryz.func24, Tryz.ntmps24
      go_wp2_with fail
      refine HCB.out.mono ?_
      rintro e w1 ⟨rfl, hb⟩
      have HB1 := Lib.hid hb
      clear hb HCB
      go_wp2_with fail
      refine (HC1.out _ HB1.out).mono ?_
      rintro e w2 ⟨rfl, hb⟩
      have HB2 := Lib.hid (HB1.out.trans (hb.mono HB1.out.size))
      clear hb HB1
      go_wp2_with fail
      go_ret2
      exact ⟨fun _ => rfl, fun h => absurd h hne, HB2.out⟩
  · rw [if_pos h0] at hE
    subst hE
    have hz := errneZ h0
    have hne := h0
    clear hp hq hlp hlq hsp hz1 htab hm h0 HCN HTM HSP
    generalize bE P Q = d at *
    go_enter Tryz.func24, Tryz.ntmps24
    go_wp2_with fail
    refine HCB.out.mono ?_
    rintro e w1 ⟨rfl, hb⟩
    have HB1 := Lib.hid hb
    clear hb HCB
    go_wp2_with fail
    go_ret2
    exact ⟨fun _ => rfl, fun h => absurd h hne, HB1.out⟩

/-- D times q is whole. -/
def Zd (D : Nat) (q : Rat) : Prop := ∃ z : Int, q * (D : Rat) = (z : Rat)
theorem Zd.zero (D : Nat) : Zd D 0 := ⟨0, by rw [Rat.zero_mul]; rfl⟩
theorem Zd.add {D : Nat} {p q : Rat} (hp : Zd D p) (hq : Zd D q) : Zd D (p + q) := by
  obtain ⟨a, ha⟩ := hp
  obtain ⟨b, hb⟩ := hq
  exact ⟨a + b, by rw [Rat.add_mul, ha, hb, Rat.intCast_add]⟩
theorem Zd.neg {D : Nat} {p : Rat} (hp : Zd D p) : Zd D (-p) := by
  obtain ⟨a, ha⟩ := hp
  exact ⟨-a, by rw [Rat.neg_mul, ha, Rat.intCast_neg]⟩
theorem Zd.sub {D : Nat} {p q : Rat} (hp : Zd D p) (hq : Zd D q) : Zd D (p - q) := by
  rw [Rat.sub_eq_add_neg]; exact hp.add hq.neg
theorem Zd.mul {D E : Nat} {p q : Rat} (hp : Zd D p) (hq : Zd E q) : Zd (D * E) (p * q) := by
  obtain ⟨a, ha⟩ := hp
  obtain ⟨b, hb⟩ := hq
  refine ⟨a * b, ?_⟩
  rw [Rat.intCast_mul, ← ha, ← hb, Rat.natCast_mul]
  grind
theorem Zd.up {D E : Nat} {p : Rat} (hp : Zd D p) (h : D ∣ E) : Zd E p := by
  obtain ⟨k, rfl⟩ := h
  obtain ⟨a, ha⟩ := hp
  refine ⟨a * k, ?_⟩
  rw [Rat.intCast_mul, ← ha, Rat.natCast_mul, Rat.intCast_natCast]
  grind
theorem mul_den (q : Rat) : q * (q.den : Rat) = (q.num : Rat) := by
  have h1 : q = (q.num : Rat) / ((q.den : Int) : Rat) := by
    rw [← Rat.divInt_eq_div, Rat.num_divInt_den]
  have h2 : (q.den : Rat) ≠ 0 := fun e => q.den_nz (Rat.natCast_inj.1 (e.trans rfl))
  have h3 : (q.den : Rat) * (q.den : Rat)⁻¹ = 1 := Rat.mul_inv_cancel _ h2
  have h4 : q = (q.num : Rat) * (q.den : Rat)⁻¹ := by rw [← Rat.div_def]; exact h1
  have h5 : (q.num : Rat) * (q.den : Rat)⁻¹ * (q.den : Rat) = (q.num : Rat) * ((q.den : Rat) * (q.den : Rat)⁻¹) := by grind
  rw [← h4, h3, Rat.mul_one] at h5
  exact h5
theorem Zd.den (q : Rat) : Zd q.den q := ⟨q.num, mul_den q⟩
theorem Zd.mx0 {D : Nat} {p : Rat} (hp : Zd D p) : Zd D (mx0 p) := by
  unfold Go.Proofs.YtofanopnibbaeaaGreatDoor.mx0
  split
  · exact hp
  · exact Zd.zero D
theorem Zd.sm {D : Nat} {g : Nat → Rat} : ∀ {n : Nat}, (∀ i, i < n → Zd D (g i)) → Zd D (sm g n)
  | 0, _ => Zd.zero D
  | n + 1, h => (Zd.sm (n := n) fun i hi => h i (by omega)).add (h n (by omega))
theorem Zd.dvd {D : Nat} {q : Rat} (h : Zd D q) : q.den ∣ D := by
  obtain ⟨z, hz⟩ := h
  have h1 : (z * q.den : Int) = q.num * D := by
    have h2 : ((z * q.den : Int) : Rat) = ((q.num * D : Int) : Rat) := by
      have h3 := mul_den q
      rw [Rat.intCast_mul, Rat.intCast_mul, ← hz, ← h3, Rat.intCast_natCast, Rat.intCast_natCast]
      grind
    exact Rat.intCast_inj.1 h2
  have h4 : q.den ∣ q.num.natAbs * D := by
    have h5 : (z * q.den : Int).natAbs = (q.num * D : Int).natAbs := by rw [h1]
    rw [Int.natAbs_mul, Int.natAbs_mul, Int.natAbs_natCast, Int.natAbs_natCast] at h5
    exact ⟨z.natAbs, by rw [← h5, Nat.mul_comm]⟩
  exact (Nat.Coprime.symm q.reduced).dvd_of_dvd_mul_left h4
theorem Zd.sz {D k : Nat} {q : Rat} (h : Zd D q) (h0 : 0 ≤ q) (h1 : q ≤ 1) (hD0 : 0 < D) (hD : D < 10 ^ k) : Sz k q := by
  have hden := Nat.le_of_dvd hD0 h.dvd
  have hn : q.num ≤ q.den := by
    have h3 := mul_den q
    have h4 : (0 : Rat) ≤ (q.den : Rat) := by
      have : ((0 : Int) : Rat) ≤ ((q.den : Int) : Rat) := Rat.intCast_le_intCast.2 (by omega)
      exact this
    have h5 := Rat.mul_nonneg (a := 1 - q) (b := (q.den : Rat)) (by grind) h4
    have h6 : (q.num : Rat) ≤ ((q.den : Int) : Rat) := by
      rw [← h3]
      have h7 : (1 - q) * (q.den : Rat) = (q.den : Rat) - q * q.den := by grind
      rw [h7] at h5
      show q * (q.den : Rat) ≤ (q.den : Rat)
      grind
    exact Rat.intCast_le_intCast.1 h6
  have hnn : 0 ≤ q.num := Rat.num_nonneg.2 h0
  exact ⟨by unfold tp; omega, by omega⟩

theorem look_set {k : ByteArray} {r : Rat} {k' : List UInt8} : ∀ S : List QI, lookQ k' (setQ k r S) = if k.data.toList = k' then r else lookQ k' S
  | [] => rfl
  | y :: S => by
    unfold setQ
    split
    · rfl
    · split
      · next h1 h2 =>
        show (if k.data.toList = k' then r else lookQ k' S) = if k.data.toList = k' then r else (if kQ y = k' then y.2 else lookQ k' S)
        by_cases h : k.data.toList = k'
        · rw [if_pos h, if_pos h]
        · rw [if_neg h, if_neg h, if_neg (fun e => h (h2.trans e))]
      · next h1 h2 =>
        show (if kQ y = k' then y.2 else lookQ k' (setQ k r S)) = if k.data.toList = k' then r else (if kQ y = k' then y.2 else lookQ k' S)
        rw [look_set S]
        by_cases h : kQ y = k'
        · rw [if_pos h, if_pos h, if_neg (fun e => h2 (e.trans h.symm))]
        · rw [if_neg h, if_neg h]
/-- The sum of the numbers of a key. -/
def kv (L : List MI) (k : List UInt8) (n : Nat) : Rat := sm (fun i => if kZ (getZ L i) = k then qZ L i else 0) n
theorem col_val {L : List MI} {k : List UInt8} : ∀ {n : Nat} {S : List QI}, runO (colS L) [] n = some S → lookQ k S = kv L k n
  | 0, S, h => by obtain rfl : [] = S := Option.some.inj h; rfl
  | n + 1, S, h => by
    obtain ⟨S0, h0⟩ := runO_some h n (by omega)
    rw [runO_step h0] at h
    unfold colS at h
    cases hq : okQ (lookQ (kZ (getZ L n)) S0 + qZ L n) with
    | none => rw [hq] at h; cases h
    | some r =>
      rw [hq] at h
      obtain rfl : setQ (getZ L n).1 r S0 = S := by simpa using h
      obtain ⟨e, _⟩ := okQ_some hq
      rw [look_set]
      show _ = kv L k n + (if kZ (getZ L n) = k then qZ L n else 0)
      have e2 : (getZ L n).1.data.toList = kZ (getZ L n) := rfl
      rw [e2]
      by_cases hk : kZ (getZ L n) = k
      · rw [if_pos hk, if_pos hk, ← e, col_val h0, hk]
      · rw [if_neg hk, if_neg hk, col_val h0, Rat.add_zero]
/-- A distribution has a key once. -/
theorem kv_dist {P : List MI} {k : List UInt8} {f : Rat} (hs : SrtZ P) : ∀ {n : Nat}, n ≤ P.length → (∀ j, n ≤ j → j < P.length → kZ (getZ P j) ≠ k) → sm (fun i => if kZ (getZ P i) = k then qZ P i * f else 0) n = vQ P k * f
  | 0, _, h => by
    have hh : hasZ k P = false := by
      cases hh : hasZ k P with
      | false => rfl
      | true =>
        obtain ⟨j, hj, e⟩ := has_get hh
        exact absurd e (h j (by omega) hj)
    rw [vQ_out hh, Rat.zero_mul]; rfl
  | n + 1, hn, h => by
    show sm _ n + (if kZ (getZ P n) = k then qZ P n * f else 0) = _
    by_cases hk : kZ (getZ P n) = k
    · have h0 : sm (fun i => if kZ (getZ P i) = k then qZ P i * f else 0) n = 0 := by
        refine (sm_eq (h := fun _ => 0) fun i hi => if_neg fun e => ?_).trans sm_zero
        exact srt_get hs hi (by omega) (e.trans hk.symm)
      rw [h0, if_pos hk, ← hk, vQ_get hs (by omega), Rat.zero_add]
    · rw [if_neg hk, Rat.add_zero]
      refine kv_dist hs (by omega) fun j hj hl => ?_
      rcases Nat.lt_or_ge n j with h1 | h1
      · exact h j (by omega) hl
      · obtain rfl : n = j := by omega
        exact hk

theorem sm_split {g : Nat → Rat} {n : Nat} : ∀ m, sm g (n + m) = sm g n + sm (fun i => g (n + i)) m
  | 0 => (Rat.add_zero _).symm
  | m + 1 => by
    show sm g (n + m) + g (n + m) = sm g n + (sm (fun i => g (n + i)) m + g (n + m))
    rw [sm_split m, Rat.add_assoc]
theorem getZ_left {s t : List MI} {i : Nat} (h : i < s.length) : getZ (s ++ t) i = getZ s i := by
  unfold getZ
  rw [List.getD_eq_getElem?_getD, List.getD_eq_getElem?_getD, List.getElem?_append_left h]
theorem getZ_right {s t : List MI} {i : Nat} : getZ (s ++ t) (s.length + i) = getZ t i := by
  unfold getZ
  rw [List.getD_eq_getElem?_getD, List.getD_eq_getElem?_getD, List.getElem?_append_right (by omega), Nat.add_sub_cancel_left]
theorem scF_get {L : List MI} {F : Rat} : ∀ {n : Nat} {s : List MI}, runO (scF L F) [] n = some s → ∀ i, i < n → getZ s i = ((getZ L i).1, qstr (qZ L i * F))
  | 0, _, _, i, hi => absurd hi (Nat.not_lt_zero _)
  | n + 1, s, h, i, hi => by
    obtain ⟨s0, h0⟩ := runO_some h n (by omega)
    have hl := scF_len h0
    rw [runO_step h0] at h
    unfold scF at h
    cases hq : okQ (qZ L n * F) with
    | none => rw [hq] at h; cases h
    | some q =>
      rw [hq] at h
      obtain rfl : s0 ++ [((getZ L n).1, qstr q)] = s := by simpa using h
      obtain ⟨e, _⟩ := okQ_some hq
      rcases Nat.lt_or_ge i n with h1 | h1
      · rw [getZ_left (by omega), scF_get h0 i h1]
      · obtain rfl : i = n := by omega
        have h2 : getZ (s0 ++ [((getZ L i).1, qstr q)]) (s0.length + 0) = _ := getZ_right
        rw [Nat.add_zero, hl] at h2
        rw [h2, e]; rfl
theorem sc_yes {L : List MI} {F : Rat} (h : ∀ i, i < L.length → QOk (qZ L i * F)) : ∀ n, n ≤ L.length → ∃ s, runO (scF L F) [] n = some s
  | 0, _ => ⟨[], rfl⟩
  | n + 1, hn => by
    obtain ⟨s, hs⟩ := sc_yes h n (by omega)
    refine ⟨s ++ [((getZ L n).1, qstr (qZ L n * F))], ?_⟩
    rw [runO_step hs]
    unfold scF
    rw [okQ_yes (h n (by omega))]
    rfl
theorem kv_sc {L s : List MI} {F : Rat} {k : List UInt8} (hs : SrtZ L) (h : scO L F = some s) : kv s k s.length = vQ L k * F := by
  have hl : s.length = L.length := scF_len h
  rw [hl, ← kv_dist (f := F) hs (Nat.le_refl _) (fun j h1 h2 => absurd h2 (by omega))]
  refine sm_eq fun i hi => ?_
  show (if kZ (getZ s i) = k then qZ s i else 0) = _
  have h1 := scF_get h i hi
  unfold qZ
  rw [h1]
  show (if kZ (getZ L i) = k then ratS (qstr (qZ L i * F)) else 0) = (if kZ (getZ L i) = k then qZ L i * F else 0)
  rw [ratS_q]
/-- A mixture's probability of a key. -/
theorem mix_val {P R l : List MI} {S : List QI} {p : Rat} {k : List UInt8} (hp : SrtZ P) (hr : SrtZ R) (hl : mixL P R p = some l) (hc : colO l = some S) : lookQ k S = vQ P k * p + vQ R k * (1 + -p) := by
  unfold mixL at hl
  cases hs : scO P p with
  | none => rw [hs] at hl; cases hl
  | some s =>
    rw [hs] at hl
    have hl2 : ((scO R (1 + -p)).map fun t => s ++ t) = some l := hl
    cases ht : scO R (1 + -p) with
    | none => rw [ht] at hl2; cases hl2
    | some t =>
      rw [ht] at hl2
      obtain rfl : s ++ t = l := by simpa using hl2
      have h1 : lookQ k S = kv (s ++ t) k (s ++ t).length := col_val hc
      rw [h1, List.length_append]
      unfold kv
      rw [sm_split, ← kv_sc hp hs, ← kv_sc hr ht]
      congr 1
      · refine sm_eq fun i hi => ?_
        show (if kZ (getZ (s ++ t) i) = k then ratS (getZ (s ++ t) i).2 else 0) = _
        rw [getZ_left hi]; rfl
      · refine sm_eq fun i _ => ?_
        show (if kZ (getZ (s ++ t) (s.length + i)) = k then ratS (getZ (s ++ t) (s.length + i)).2 else 0) = _
        rw [getZ_right]; rfl
/-- collect's run goes through where every sum of a key has few enough digits. -/
theorem col_yes {L : List MI} (h : ∀ n, n < L.length → QOk (kv L (kZ (getZ L n)) (n + 1))) : ∀ n, n ≤ L.length → ∃ S, runO (colS L) [] n = some S
  | 0, _ => ⟨[], rfl⟩
  | n + 1, hn => by
    obtain ⟨S, hs⟩ := col_yes h n (by omega)
    have h1 := h n (by omega)
    have h2 : kv L (kZ (getZ L n)) (n + 1) = lookQ (kZ (getZ L n)) S + qZ L n := by
      rw [col_val hs]
      show kv L _ n + (if kZ (getZ L n) = kZ (getZ L n) then qZ L n else 0) = _
      rw [if_pos rfl]
    rw [h2] at h1
    refine ⟨setQ (getZ L n).1 (lookQ (kZ (getZ L n)) S + qZ L n) S, ?_⟩
    rw [runO_step hs]
    unfold colS
    rw [okQ_yes h1]
    rfl

theorem look_none {k : List UInt8} : ∀ {S : List QI}, (∀ x, x ∈ S → kQ x ≠ k) → lookQ k S = 0
  | [], _ => rfl
  | y :: S, h => by
    show (if kQ y = k then y.2 else lookQ k S) = 0
    rw [if_neg (h y (List.mem_cons_self ..))]
    exact look_none fun x hx => h x (List.mem_cons_of_mem _ hx)
theorem look_out {k : List UInt8} : ∀ {S : List QI}, SrtQ S → lookQ k (outQ S) = lookQ k S
  | [], _ => rfl
  | y :: S, h => by
    obtain ⟨h1, h2⟩ := List.pairwise_cons.1 h
    have ih := look_out (k := k) h2
    unfold outQ at ih ⊢
    by_cases h0 : y.2 = 0
    · rw [List.filter_cons_of_neg (by simp [h0]), ih]
      show lookQ k S = if kQ y = k then y.2 else lookQ k S
      by_cases hk : kQ y = k
      · rw [if_pos hk, h0]
        refine look_none fun x hx e => ?_
        have h3 := h1 x hx
        rw [hk, e] at h3
        exact List.lt_irrefl _ h3
      · rw [if_neg hk]
    · rw [List.filter_cons_of_pos (by simp [h0])]
      show (if kQ y = k then y.2 else lookQ k _) = if kQ y = k then y.2 else lookQ k S
      rw [ih]
theorem vQ_t {k : List UInt8} {D : List QI} : vQ (tZ D) k = lookQ k D := by
  unfold vQ
  rw [val_look, ratS_q]
theorem mx0_mul {p q : Rat} (h : 0 ≤ p) : mx0 (p * q) ≤ p * mx0 q := by
  unfold mx0
  by_cases h1 : 0 < q
  · rw [if_pos h1]
    split
    · exact Rat.le_refl
    · exact Rat.mul_nonneg h (Rat.le_of_lt h1)
  · rw [if_neg h1, Rat.mul_zero]
    split
    · next h2 =>
      have h3 := Rat.mul_nonneg (a := p) (b := -q) h (by grind)
      have h4 : p * -q = -(p * q) := by grind
      rw [h4] at h3
      grind
    · exact Rat.le_refl
theorem mx0_add {a b : Rat} : mx0 (a + b) ≤ mx0 a + mx0 b := by unfold mx0; grind
theorem dl_mix {P Q R T X Y : List MI} {p f : Rat} (hP : DiL P) (hQ : DiL Q) (hR : DiL R) (hT : DiL T) (hX : DiL X) (hf : 0 ≤ f) (hp0 : 0 ≤ p) (hp1 : p ≤ 1)
    (vx : ∀ k, vQ X k = vQ P k * p + vQ R k * (1 + -p)) (vy : ∀ k, vQ Y k = vQ Q k * p + vQ T k * (1 + -p)) : dl X Y f ≤ p * dl P Q f + (1 + -p) * dl R T f := by
  have z1 : ∀ k, hasZ k P = false → mx0 (vQ P k - f * vQ Q k) = 0 := fun k h => by
    have h1 := Rat.mul_nonneg hf (hQ.nn k)
    rw [vQ_out h]
    unfold mx0
    grind
  have z2 : ∀ k, hasZ k R = false → mx0 (vQ R k - f * vQ T k) = 0 := fun k h => by
    have h1 := Rat.mul_nonneg hf (hT.nn k)
    rw [vQ_out h]
    unfold mx0
    grind
  have i1 := inject hX.srt (Q := P) (Nat.le_refl _) (fun k => mx0_nonneg (vQ P k - f * vQ Q k)) z1
  have i2 := inject hX.srt (Q := R) (Nat.le_refl _) (fun k => mx0_nonneg (vQ R k - f * vQ T k)) z2
  rw [← dl_ks hP] at i1
  rw [← dl_ks hR] at i2
  have hle : dl X Y f ≤ p * ks X (fun k => mx0 (vQ P k - f * vQ Q k)) X.length + (1 + -p) * ks X (fun k => mx0 (vQ R k - f * vQ T k)) X.length := by
    rw [dl_ks hX]
    unfold ks
    rw [← sm_mul, ← sm_mul, ← sm_add]
    refine sm_le fun i _ => ?_
    generalize kZ (getZ X i) = k
    have e : vQ X k - f * vQ Y k = p * (vQ P k - f * vQ Q k) + (1 + -p) * (vQ R k - f * vQ T k) := by rw [vx, vy]; grind
    show mx0 (vQ X k - f * vQ Y k) ≤ p * mx0 (vQ P k - f * vQ Q k) + (1 + -p) * mx0 (vQ R k - f * vQ T k)
    rw [e]
    have h1 := mx0_add (a := p * (vQ P k - f * vQ Q k)) (b := (1 + -p) * (vQ R k - f * vQ T k))
    have h2 := mx0_mul (q := vQ P k - f * vQ Q k) hp0
    have h3 := mx0_mul (p := 1 + -p) (q := vQ R k - f * vQ T k) (by grind)
    grind
  have m1 := Rat.mul_nonneg (a := p) (b := dl P Q f - ks X (fun k => mx0 (vQ P k - f * vQ Q k)) X.length) hp0 (by grind)
  have m2 := Rat.mul_nonneg (a := 1 + -p) (b := dl R T f - ks X (fun k => mx0 (vQ R k - f * vQ T k)) X.length) (by grind) (by grind)
  grind

/-- The product of the denominators of a list. -/
def pd (L : List MI) : Nat → Nat
  | 0 => 1
  | n + 1 => pd L n * (qZ L n).den
theorem pd_pos {L : List MI} : ∀ n, 0 < pd L n
  | 0 => Nat.one_pos
  | n + 1 => Nat.mul_pos (pd_pos n) (Nat.pos_of_ne_zero (qZ L n).den_nz)
theorem pd_dvd {L : List MI} {i : Nat} : ∀ {n : Nat}, i < n → (qZ L i).den ∣ pd L n
  | 0, h => absurd h (Nat.not_lt_zero _)
  | n + 1, h => by
    rcases Nat.lt_or_ge i n with h1 | h1
    · exact Nat.dvd_trans (pd_dvd h1) (Nat.dvd_mul_right ..)
    · obtain rfl : i = n := by omega
      exact Nat.dvd_mul_left ..
theorem pd_lt {L : List MI} (h : ∀ i, i < L.length → Sz 24 (qZ L i)) : ∀ n, n ≤ L.length → pd L n ≤ 10 ^ (24 * n)
  | 0, _ => Nat.le_refl _
  | n + 1, hn => by
    show pd L n * (qZ L n).den ≤ _
    rw [Nat.mul_succ, Nat.pow_add]
    exact Nat.mul_le_mul (pd_lt h n (by omega)) (Nat.le_of_lt (h n (by omega)).2)
theorem vQ_zd {L : List MI} (hs : SrtZ L) (k : List UInt8) : Zd (pd L L.length) (vQ L k) := by
  cases hh : hasZ k L with
  | false => rw [vQ_out hh]; exact Zd.zero _
  | true =>
    obtain ⟨j, hj, e⟩ := has_get hh
    rw [← e, vQ_get hs hj]
    exact (Zd.den _).up (pd_dvd hj)
theorem sm_one_le {g : Nat → Rat} {n i : Nat} (h : ∀ j, j < n → 0 ≤ g j) (hi : i < n) : g i ≤ sm g n := by
  have h1 := sm_lift (g := fun _ => 0) (h := g) (c := g i) (j := i) (n := n) h hi (by rw [Rat.zero_add]; exact Rat.le_refl)
  rw [sm_zero, Rat.zero_add] at h1
  exact h1
theorem sm_mono {g : Nat → Rat} {n : Nat} (h : ∀ j, j < n → 0 ≤ g j) : ∀ {m : Nat}, m ≤ n → sm g m ≤ sm g n := by
  intro m hm
  obtain ⟨d, rfl⟩ : ∃ d, n = m + d := ⟨n - m, by omega⟩
  rw [sm_split]
  have := sm_nonneg (g := fun i => g (m + i)) (n := d) (fun i hi => h _ (by omega))
  grind
theorem vQ_le1 {P : List MI} (h : DiL P) (k : List UInt8) : vQ P k ≤ 1 := by
  cases hh : hasZ k P with
  | false => rw [vQ_out hh]; decide
  | true =>
    obtain ⟨j, hj, e⟩ := has_get hh
    rw [← e, vQ_get h.srt hj, ← h.one]
    exact sm_one_le (fun i hi => Rat.le_of_lt (h.pos i hi)) hj
/-- The sum of a mixture is 1. -/
theorem mix_one {P R X : List MI} {p : Rat} (hP : DiL P) (hR : DiL R) (hs : SrtZ X) (hp0 : 0 ≤ p) (hp1 : p ≤ 1) (vx : ∀ k, vQ X k = vQ P k * p + vQ R k * (1 + -p)) : sm (qZ X) X.length = 1 := by
  have e0 : sm (qZ X) X.length = ks X (fun k => p * vQ P k) X.length + ks X (fun k => (1 + -p) * vQ R k) X.length := by
    unfold ks
    rw [← sm_add]
    refine sm_eq fun i hi => ?_
    rw [← vQ_get hs hi, vx]
    grind
  have n1 : ∀ k, 0 ≤ p * vQ P k := fun k => Rat.mul_nonneg hp0 (hP.nn k)
  have n2 : ∀ k, 0 ≤ (1 + -p) * vQ R k := fun k => Rat.mul_nonneg (by grind) (hR.nn k)
  have z0 : ∀ k, hasZ k X = false → p * vQ P k = 0 ∧ (1 + -p) * vQ R k = 0 := fun k h => by
    have h1 := vx k
    rw [vQ_out h] at h1
    have h2 := n1 k
    have h3 := n2 k
    constructor <;> grind
  have a1 := inject hs (Q := P) (Nat.le_refl _) n1 (fun k h => by rw [vQ_out h, Rat.mul_zero])
  have a2 := inject hP.srt (Q := X) (Nat.le_refl _) n1 (fun k h => (z0 k h).1)
  have b1 := inject hs (Q := R) (Nat.le_refl _) n2 (fun k h => by rw [vQ_out h, Rat.mul_zero])
  have b2 := inject hR.srt (Q := X) (Nat.le_refl _) n2 (fun k h => (z0 k h).2)
  have c1 : ks P (fun k => p * vQ P k) P.length = p * 1 := by
    unfold ks
    rw [sm_mul]
    have h := hP.kone
    unfold ks at h
    rw [h]
  have c2 : ks R (fun k => (1 + -p) * vQ R k) R.length = (1 + -p) * 1 := by
    unfold ks
    rw [sm_mul]
    have h := hR.kone
    unfold ks at h
    rw [h]
  have c3 : ks X (fun k => p * vQ P k) X.length = p * 1 := by rw [← c1]; exact Rat.le_antisymm a1 a2
  have c4 : ks X (fun k => (1 + -p) * vQ R k) X.length = (1 + -p) * 1 := by rw [← c2]; exact Rat.le_antisymm b1 b2
  rw [e0, c3, c4, Rat.mul_one, Rat.mul_one]
  grind

/-- The common denominator of a mixture. -/
def mD (P R : List MI) (p : Rat) : Nat := pd P P.length * pd R R.length * p.den
theorem mD_pos {P R : List MI} {p : Rat} : 0 < mD P R p := Nat.mul_pos (Nat.mul_pos (pd_pos _) (pd_pos _)) (Nat.pos_of_ne_zero p.den_nz)
theorem zd_left {P R : List MI} {p q : Rat} (h : Zd (pd P P.length) q) : Zd (mD P R p) (q * p) :=
  (Zd.mul h (Zd.den p)).up (by unfold mD; exact ⟨pd R R.length, by rw [Nat.mul_assoc, Nat.mul_assoc, Nat.mul_comm p.den]⟩)
theorem zd_right {P R : List MI} {p q : Rat} (h : Zd (pd R R.length) q) : Zd (mD P R p) (q * (1 + -p)) := by
  have h1 : Zd p.den (1 + -p) := Zd.add ((Zd.den 1).up (Nat.one_dvd _)) (Zd.neg (Zd.den p))
  exact (Zd.mul h h1).up (by unfold mD; exact ⟨pd P P.length, by rw [Nat.mul_assoc, Nat.mul_comm]⟩)
set_option exponentiation.threshold 4000 in
theorem mD_lt {P R : List MI} {p : Rat} (lp : litB P = true) (lr : litB R = true) (op : OKM P) (or : OKM R) (hp : Sz 24 p) : mD P R p < 10 ^ 792 := by
  have h1 := pd_lt (lit_sz lp op) P.length (Nat.le_refl _)
  have h2 := pd_lt (lit_sz lr or) R.length (Nat.le_refl _)
  have h3 : pd P P.length ≤ 10 ^ 384 := Nat.le_trans h1 (Nat.pow_le_pow_right (by omega) (by have := (litB_yes lp).1; omega))
  have h4 : pd R R.length ≤ 10 ^ 384 := Nat.le_trans h2 (Nat.pow_le_pow_right (by omega) (by have := (litB_yes lr).1; omega))
  unfold mD
  have h5 : (10 : Nat) ^ 792 = 10 ^ 384 * 10 ^ 384 * 10 ^ 24 := by rw [← Nat.pow_add, ← Nat.pow_add]
  rw [h5]
  exact Nat.mul_lt_mul_of_le_of_lt (Nat.mul_le_mul h3 h4) hp.2 (Nat.mul_pos (Nat.pow_pos (by omega)) (Nat.pow_pos (by omega)))
theorem kv_mix {P R s t : List MI} {p : Rat} {k : List UInt8} (hp : SrtZ P) (hr : SrtZ R) (hs : scO P p = some s) (ht : scO R (1 + -p) = some t) : kv (s ++ t) k (s ++ t).length = vQ P k * p + vQ R k * (1 + -p) := by
  rw [List.length_append]
  unfold kv
  rw [sm_split, ← kv_sc hp hs, ← kv_sc hr ht]
  congr 1
  · refine sm_eq fun i hi => ?_
    show (if kZ (getZ (s ++ t) i) = k then ratS (getZ (s ++ t) i).2 else 0) = _
    rw [getZ_left hi]; rfl
  · refine sm_eq fun i _ => ?_
    show (if kZ (getZ (s ++ t) (s.length + i)) = k then ratS (getZ (s ++ t) (s.length + i)).2 else 0) = _
    rw [getZ_right]; rfl
theorem mixv_le {P R : List MI} {p : Rat} (dP : DiL P) (dR : DiL R) (h0 : 0 ≤ p) (h1 : p ≤ 1) (k : List UInt8) : 0 ≤ vQ P k * p + vQ R k * (1 + -p) ∧ vQ P k * p + vQ R k * (1 + -p) ≤ 1 := by
  have a1 := Rat.mul_nonneg (dP.nn k) h0
  have a2 := Rat.mul_nonneg (a := vQ R k) (b := 1 + -p) (dR.nn k) (by grind)
  have a3 := Rat.mul_nonneg (a := 1 - vQ P k) (b := p) (by have := vQ_le1 dP k; grind) h0
  have a4 := Rat.mul_nonneg (a := 1 - vQ R k) (b := 1 + -p) (by have := vQ_le1 dR k; grind) (by grind)
  constructor <;> grind
theorem mix_ok {P R : List MI} {p : Rat} (lp : litB P = true) (lr : litB R = true) (kp : chkZ P = 0) (kr : chkZ R = 0) (hp : Sz 24 p) (h0 : 0 ≤ p) (h1 : p ≤ 1) :
    ∃ l S, mixL P R p = some l ∧ colO l = some S ∧ mkE l = 0 ∧ GoodQ (outQ S) ∧ (∀ k, vQ (tZ (outQ S)) k = vQ P k * p + vQ R k * (1 + -p)) ∧ chkZ (tZ (outQ S)) = 0 ∧ (outQ S).length ≤ 32 := by
  have dP := DiL.of kp
  have dR := DiL.of kr
  have s1 : Sz 1 (1 : Rat) := ⟨by decide, by decide⟩
  have hr1 : Sz 26 (1 + -p) := Sz.add s1 hp.neg
  obtain ⟨s, hs⟩ := sc_yes (L := P) (F := p) (fun i hi => (Sz.mul (lit_sz lp dP.ok i hi) hp).qok (by omega) (by omega)) P.length (Nat.le_refl _)
  obtain ⟨t, ht⟩ := sc_yes (L := R) (F := 1 + -p) (fun i hi => (Sz.mul (lit_sz lr dR.ok i hi) hr1).qok (by omega) (by omega)) R.length (Nat.le_refl _)
  have hls : s.length = P.length := scF_len hs
  have hlt : t.length = R.length := scF_len ht
  have hml : mixL P R p = some (s ++ t) := by
    unfold mixL
    rw [show scO P p = some s from hs]
    show (scO R (1 + -p)).map _ = _
    rw [show scO R (1 + -p) = some t from ht]
    rfl
  have hll : (s ++ t).length = P.length + R.length := by rw [List.length_append, hls, hlt]
  have hq : ∀ i, i < (s ++ t).length → (0 ≤ qZ (s ++ t) i ∧ Zd (mD P R p) (qZ (s ++ t) i)) ∧ ∃ q, (getZ (s ++ t) i).2 = qstr q ∧ QOk q ∧ 0 ≤ q := fun i hi => by
    rcases Nat.lt_or_ge i s.length with h2 | h2
    · have h3 := scF_get hs i (by omega)
      have h4 : getZ (s ++ t) i = ((getZ P i).1, qstr (qZ P i * p)) := by rw [getZ_left h2, h3]
      have h5 : 0 ≤ qZ P i * p := Rat.mul_nonneg (Rat.le_of_lt (dP.pos i (by omega))) h0
      unfold qZ at h5 ⊢
      rw [h4]
      refine ⟨?_, _, rfl, (Sz.mul (lit_sz lp dP.ok i (by omega)) hp).qok (by omega) (by omega), h5⟩
      show 0 ≤ ratS (qstr (qZ P i * p)) ∧ Zd _ (ratS (qstr (qZ P i * p)))
      rw [ratS_q]
      exact ⟨h5, zd_left ((Zd.den _).up (pd_dvd (by omega)))⟩
    · obtain ⟨j, rfl⟩ : ∃ j, i = s.length + j := ⟨i - s.length, by omega⟩
      have h3 := scF_get ht j (by omega)
      have h4 : getZ (s ++ t) (s.length + j) = ((getZ R j).1, qstr (qZ R j * (1 + -p))) := by rw [getZ_right, h3]
      have h5 : 0 ≤ qZ R j * (1 + -p) := Rat.mul_nonneg (Rat.le_of_lt (dR.pos j (by omega))) (by grind)
      unfold qZ at h5 ⊢
      rw [h4]
      refine ⟨?_, _, rfl, (Sz.mul (lit_sz lr dR.ok j (by omega)) hr1).qok (by omega) (by omega), h5⟩
      show 0 ≤ ratS (qstr (qZ R j * (1 + -p))) ∧ Zd _ (ratS (qstr (qZ R j * (1 + -p))))
      rw [ratS_q]
      exact ⟨h5, zd_right ((Zd.den _).up (pd_dvd (by omega)))⟩
  generalize hl : s ++ t = l at *
  have hD := mD_lt lp lr dP.ok dR.ok hp
  have hkv : ∀ k n, n ≤ l.length → 0 ≤ kv l k n ∧ kv l k n ≤ 1 ∧ Zd (mD P R p) (kv l k n) := fun k n hn => by
    have a0 : ∀ i, i < l.length → 0 ≤ (if kZ (getZ l i) = k then qZ l i else 0) := fun i hi => by
      by_cases hk : kZ (getZ l i) = k
      · rw [if_pos hk]; exact (hq i hi).1.1
      · rw [if_neg hk]; exact Rat.le_refl
    refine ⟨sm_nonneg fun i hi => a0 i (by omega), Rat.le_trans (sm_mono a0 hn) ?_, Zd.sm fun i hi => ?_⟩
    · have h2 : kv l k l.length = vQ P k * p + vQ R k * (1 + -p) := by rw [← hl]; exact kv_mix (k := k) dP.srt dR.srt hs ht
      show kv l k l.length ≤ 1
      rw [h2]
      exact (mixv_le dP dR h0 h1 k).2
    · by_cases hk : kZ (getZ l i) = k
      · rw [if_pos hk]; exact (hq i (by omega)).1.2
      · rw [if_neg hk]; exact Zd.zero _
  obtain ⟨S, hS⟩ := col_yes (L := l) (fun n hn => by
    obtain ⟨b1, b2, b3⟩ := hkv (kZ (getZ l n)) (n + 1) (by omega)
    exact (b3.sz b1 b2 mD_pos hD).qok (by omega) (by omega)) l.length (Nat.le_refl _)
  have hC : colO l = some S := hS
  have good := good_out (fun k hk => (hq k hk).1.1) hC
  have hI := ColI.run (Nat.le_refl _) hS
  have vx : ∀ k, vQ (tZ (outQ S)) k = vQ P k * p + vQ R k * (1 + -p) := fun k => by
    rw [vQ_t, look_out hI.srt, mix_val dP.srt dR.srt hml hC]
  have hsx : SrtZ (tZ (outQ S)) := srt_t.2 good.srt
  have hone := mix_one dP dR hsx h0 h1 vx
  rw [tZ_len] at hone
  have hsum : sumD (outQ S) = 0 := by
    have hrun : runO (addS (qZ (tZ (outQ S)))) 0 (outQ S).length = some (sm (qZ (tZ (outQ S))) (outQ S).length) := by
      have p0 : ∀ i, i < (outQ S).length → 0 ≤ qZ (tZ (outQ S)) i ∧ Zd (mD P R p) (qZ (tZ (outQ S)) i) := fun i hi => by
        rw [← vQ_get hsx (by rw [tZ_len]; exact hi), vx]
        exact ⟨(mixv_le dP dR h0 h1 _).1, Zd.add (zd_left (vQ_zd dP.srt _)) (zd_right (vQ_zd dR.srt _))⟩
      refine runO_sm fun k hk => ?_
      unfold addS
      refine okQ_yes ?_
      show QOk (sm (qZ (tZ (outQ S))) (k + 1))
      have b1 : 0 ≤ sm (qZ (tZ (outQ S))) (k + 1) := sm_nonneg fun i hi => (p0 i (by omega)).1
      have b2 : sm (qZ (tZ (outQ S))) (k + 1) ≤ 1 := by rw [← hone]; exact sm_mono (fun i hi => (p0 i hi).1) (by omega)
      exact (Zd.sz (Zd.sm fun i hi => (p0 i (by omega)).2) b1 b2 mD_pos hD).qok (by omega) (by omega)
    unfold sumD sumE
    rw [hrun, hone]
    rfl
  refine ⟨l, S, hml, hC, ?_, good, vx, by rw [chk_good good]; exact hsum, ?_⟩
  · rw [mkE_col (fstE_zero fun k hk => by
      obtain ⟨_, q, e, ho, hq0⟩ := hq k hk
      unfold eN
      rw [e]
      exact eS_q ho hq0), hC]
    exact hsum
  · have h2 := List.length_filter_le (fun x : QI => decide (x.2 ≠ 0)) S
    have h3 := hI.len
    have h4 := (litB_yes lp).1
    have h5 := (litB_yes lr).1
    show (S.filter _).length ≤ 32
    omega

set_option exponentiation.threshold 4000 in
theorem dlt_mix {X Y : List MI} {DX DY : Nat} {f : Rat} (kX : chkZ X = 0) (kY : chkZ Y = 0) (zx : ∀ k, Zd DX (vQ X k)) (zy : ∀ k, Zd DY (vQ Y k)) (x0 : 0 < DX) (y0 : 0 < DY) (hx : DX < 10 ^ 792) (hy : DY < 10 ^ 792) (hf : Sz 24 f) (hf0 : 0 ≤ f) :
    dltE X Y (qstr f) = (qstr (dl X Y f), 0) ∧ Sz 1608 (dl X Y f) := by
  have dX := DiL.of kX
  have dY := DiL.of kY
  have ho := hf.qok (by omega) (by omega)
  have sx : ∀ i, i < X.length → Sz 792 (qZ X i) ∧ Zd DX (qZ X i) := fun i hi => by
    have h1 := zx (kZ (getZ X i))
    have h2 := vQ_le1 dX (kZ (getZ X i))
    rw [vQ_get dX.srt hi] at h1 h2
    exact ⟨h1.sz (Rat.le_of_lt (dX.pos i hi)) h2 x0 hx, h1⟩
  have sy : ∀ k, Sz 792 (vQ Y k) := fun k => (zy k).sz (dY.nn k) (vQ_le1 dY k) y0 hy
  have hE : DX * (f.den * DY) < 10 ^ 1608 := by
    have h5 : (10 : Nat) ^ 1608 = 10 ^ 792 * (10 ^ 24 * 10 ^ 792) := by rw [← Nat.pow_add, ← Nat.pow_add]
    rw [h5]
    exact Nat.mul_lt_mul_of_lt_of_le hx (Nat.mul_le_mul (Nat.le_of_lt hf.2) (Nat.le_of_lt hy)) (Nat.mul_pos (Nat.pow_pos (by omega)) (Nat.pow_pos (by omega)))
  have hE0 : 0 < DX * (f.den * DY) := Nat.mul_pos x0 (Nat.mul_pos (Nat.pos_of_ne_zero f.den_nz) y0)
  have hd : ∀ i, i < X.length → 0 ≤ dD X Y f i ∧ dD X Y f i ≤ qZ X i ∧ Zd (DX * (f.den * DY)) (dD X Y f i) := fun i hi => by
    have h1 := Rat.mul_nonneg hf0 (dY.nn (kZ (getZ X i)))
    have h2 := dX.pos i hi
    refine ⟨mx0_nonneg _, ?_, Zd.mx0 (Zd.sub ((sx i hi).2.up (Nat.dvd_mul_right ..)) ((Zd.mul (Zd.den f) (zy _)).up (Nat.dvd_mul_left ..)))⟩
    show mx0 (qZ X i - f * vQ Y (kZ (getZ X i))) ≤ qZ X i
    unfold mx0
    grind
  have hs : ∀ n, n ≤ X.length → Sz 1608 (sm (dD X Y f) n) := fun n hn => by
    refine Zd.sz (Zd.sm fun i hi => (hd i (by omega)).2.2) (sm_nonneg fun i hi => (hd i (by omega)).1) ?_ hE0 hE
    rw [← dX.one]
    exact Rat.le_trans (sm_le fun i hi => (hd i (by omega)).2.1) (sm_mono (fun i hi => Rat.le_of_lt (dX.pos i hi)) hn)
  have hrun : dltO X Y f = some (dl X Y f) := by
    unfold dltO dl
    refine runO_sm fun k hk => ?_
    unfold dltF exO
    have h2 := Sz.mul hf (sy (kZ (getZ X k)))
    have h3 := Sz.sub (sx k hk).1 h2
    rw [okQ_yes (h2.qok (by omega) (by omega))]
    show (((okQ (qZ X k + -(f * vQ Y (kZ (getZ X k))))).map mx0).bind fun d => okQ (sm (dD X Y f) k + d)) = _
    rw [← Rat.sub_eq_add_neg, okQ_yes (h3.qok (by omega) (by omega))]
    show okQ (sm (dD X Y f) k + dD X Y f k) = _
    exact okQ_yes ((hs (k + 1) (by omega)).qok (by omega) (by omega))
  refine ⟨?_, hs _ (Nat.le_refl _)⟩
  unfold dltE
  rw [if_neg (by unfold bE; rw [kX, kY]; simp), if_neg (by rw [eS_q ho hf0]; simp), ratS_q, hrun]
  rfl

/-- What is said of a mixture. -/
structure MixX (P R : List MI) (p : Rat) (X : List MI) (NX : Nat) : Prop where
  len : X.length = NX
  le : NX ≤ 32
  chk : chkZ X = 0
  ml : ML2 X
  val : ∀ k, vQ X k = vQ P k * p + vQ R k * (1 + -p)
  zd : ∀ k, Zd (mD P R p) (vQ X k)
theorem mixc_any {P R : List MI} {N M c1 c2 : Nat} {a1 a2 : Option Addr} {p : Rat} (lp : litB P = true) (lr : litB R = true) (kp : chkZ P = 0) (kr : chkZ R = 0) (hp : Sz 24 p) (h0 : 0 ≤ p) (h1 : p ≤ 1) :
    ∃ X NX, MixX P R p X NX ∧ ∀ W, MR W a1 N P → MR W a2 M R → Tab W → ML W → Calls Tryz.prog 24 #[.string (qstr p), .slice a1 N c1, .slice a2 M c2] W fun e w' => ∃ xo xc, e = .returned (.tuple #[.slice xo NX xc, .int .i64 0]) ∧ MR w' xo NX X ∧ Below W.heap.size W w' := by
  obtain ⟨l, S, e1, e2, e3, good, vx, kx, hle⟩ := mix_ok lp lr kp kr hp h0 h1
  have dP := DiL.of kp
  have dR := DiL.of kr
  have ho := hp.qok (by omega) (by omega)
  have s1 : Sz 1 (1 : Rat) := ⟨by decide, by decide⟩
  have hr1 : Sz 26 (1 + -p) := Sz.add s1 hp.neg
  have hro : QOk (1 + -p) := hr1.qok (by omega) (by omega)
  have hml : ML2 l := by
    unfold mixL at e1
    cases hs : scO P p with
    | none => rw [hs] at e1; cases e1
    | some s =>
      rw [hs] at e1
      have e4 : ((scO R (1 + -p)).map fun t => s ++ t) = some l := e1
      cases ht : scO R (1 + -p) with
      | none => rw [ht] at e4; cases e4
      | some t =>
        rw [ht] at e4
        obtain rfl : s ++ t = l := by simpa using e4
        exact fun x hx => (List.mem_append.1 hx).elim (scO_ml (litB_ml lp) hs x) (scO_ml (litB_ml lr) ht x)
  have hI := ColI.run (L := l) (Nat.le_refl _) (show runO (colS l) [] l.length = some S from e2)
  refine ⟨tZ (outQ S), (outQ S).length, ⟨tZ_len _, hle, kx, fun x hx => ?_, vx, fun k => ?_⟩, fun W m1 m2 htab hm => ?_⟩
  · obtain ⟨y, hy, rfl⟩ := List.mem_map.1 hx
    have hyS : y ∈ S := (List.mem_filter.1 hy).1
    obtain ⟨z, hz, e⟩ := hI.key y hyS
    refine ⟨?_, Nat.le_trans (qstr_size (hI.ok y hyS)) (by omega)⟩
    show y.1.size ≤ _
    rw [e]
    exact (hml z hz).1
  · rw [vx]
    exact Zd.add (zd_left (vQ_zd dP.srt _)) (zd_right (vQ_zd dR.srt _))
  · have hN := m1.len
    have hM := m2.len
    have b1 := (litB_yes lp).1
    have b2 := (litB_yes lr).1
    have h := Mix_any (c1 := c1) (c2 := c2) (sp := qstr p) m1 m2 (by omega) (by omega) (litB_ml lp) (litB_ml lr) (Nat.le_trans (qstr_size ho) (by omega)) (fun _ => by rw [ratS_q]; exact hro) htab hm
    have hE : mixE P R (qstr p) = 0 := by
      unfold mixE
      rw [if_neg (by unfold bE; rw [kp, kr]; simp), if_neg (by rw [eS_q ho h0]; simp), ratS_q, if_neg (by rw [eS_q hro (by grind)]; simp), e1]
      exact e3
    refine h.mono ?_
    rintro e w' ⟨_, h2, hb⟩
    obtain ⟨l', S', v, f1, f2, _, _, he, hrow⟩ := h2 hE
    rw [ratS_q, e1] at f1
    obtain rfl := Option.some.inj f1
    rw [e2] at f2
    obtain rfl := Option.some.inj f2
    obtain ⟨xo, xc, rfl, hmr⟩ := MR.own hrow (tZ_len _)
    exact ⟨xo, xc, he, hmr, hb⟩

set_option maxHeartbeats 12800000 in
set_option maxRecDepth 100000 in
theorem mixes_any {A0 : Option Addr} {n0 c0 : Nat} {L0 : List MI} {A1 : Option Addr} {n1 c1 : Nat} {L1 : List MI} {A2 : Option Addr} {n2 c2 : Nat} {L2 : List MI} {A3 : Option Addr} {n3 c3 : Nat} {L3 : List MI} {s pt : ByteArray} {w : World} (h0 : MR w A0 n0 L0 ∧ n0 ≤ 9223372036854775807 ∧ MX L0) (h1 : MR w A1 n1 L1 ∧ n1 ≤ 9223372036854775807 ∧ MX L1) (h2 : MR w A2 n2 L2 ∧ n2 ≤ 9223372036854775807 ∧ MX L2) (h3 : MR w A3 n3 L3 ∧ n3 ≤ 9223372036854775807 ∧ MX L3) (hs : s.size ≤ 140737488351232) (hpt : pt.size ≤ 140737488351232) (htab : Tab w) (hm : ML w) :
    Calls Tryz.prog 6 #[.slice A0 n0 c0, .slice A1 n1 c1, .slice A2 n2 c2, .slice A3 n3 c3, .string s, .string pt] w fun e w' => e = .returned (.bool true) ∧ Below w.heap.size w w' := by
  have HL := Lib.hid (lives8_any w htab hm)
  have HTM := Lib.hid (fun W (hb : Below w.heap.size w W) => And.intro (htab.below hb) (ml_keep hm (ml_pos hm) hb))
  have HMD := Lib.hid (fun W (hb : Below w.heap.size w W) => made4_any (c0 := c0) (c1 := c1) (c2 := c2) (c3 := c3) (w := W) ⟨h0.1.below hb, h0.2⟩ ⟨h1.1.below hb, h1.2⟩ ⟨h2.1.below hb, h2.2⟩ ⟨h3.1.below hb, h3.2⟩)
  have HN1 := Lib.hid (fun W => number_any s hs W)
  have HN2 := Lib.hid (fun W => number_any pt hpt W)
  clear h0 h1 h2 h3 hs hpt htab hm
  cases hn1 : numB s with
  | false =>
    rw [hn1] at HN1
    clear hn1 HN2 HTM
    go_enter Tryz.func6, Tryz.ntmps6
    go_wp2_with fail
    refine HL.out.mono ?_
    rintro e w1 ⟨rfl, hb⟩
    have HB := Lib.hid hb
    clear hb HL
    go_wp2_with fail
    refine (HMD.out _ HB.out).mono ?_
    rintro e w2 ⟨v, r, rfl, hr, hb⟩
    have HB2 := Lib.hid (HB.out.trans (hb.mono HB.out.size))
    clear hb HMD HB
    cases r with
    | false =>
      clear hr
      go_wp2_with fail
      go_ret
      exact ⟨rfl, HB2.out⟩
    | true =>
      clear hr
      go_wp2_with fail
      refine (HN1.out _).mono ?_
      rintro e y0 ⟨rfl, hb⟩
      have HE0 := Lib.hid (HB2.out.trans (hb.mono HB2.out.size))
      clear hb HN1
      go_wp2_with fail
      go_ret
      exact ⟨rfl, HE0.out⟩
  | true =>
    rw [hn1] at HN1
    obtain ⟨f, hsf, hfo, hf0, hsz⟩ := numB_yes hn1
    have hfz : Sz 24 f := Sz.of (by omega) (by rw [← hsf]; exact hsz)
    have HFF := Lib.hid (And.intro hsf (And.intro hfz hf0))
    clear hn1 hsf hfo hf0 hsz hfz
    cases hn2 : numB pt with
    | false =>
      rw [hn2] at HN2
      clear hn2 HTM HFF
      go_enter Tryz.func6, Tryz.ntmps6
      go_wp2_with fail
      refine HL.out.mono ?_
      rintro e w1 ⟨rfl, hb⟩
      have HB := Lib.hid hb
      clear hb HL
      go_wp2_with fail
      refine (HMD.out _ HB.out).mono ?_
      rintro e w2 ⟨v, r, rfl, hr, hb⟩
      have HB2 := Lib.hid (HB.out.trans (hb.mono HB.out.size))
      clear hb HMD HB
      cases r with
      | false =>
        clear hr
        go_wp2_with fail
        go_ret
        exact ⟨rfl, HB2.out⟩
      | true =>
        clear hr
        go_wp2_with fail
        refine (HN1.out _).mono ?_
        rintro e y0 ⟨rfl, hb⟩
        have HE0 := Lib.hid (HB2.out.trans (hb.mono HB2.out.size))
        clear hb HN1
        go_wp2_with fail
        refine (HN2.out _).mono ?_
        rintro e y1 ⟨rfl, hb⟩
        have HE1 := Lib.hid (HE0.out.trans (hb.mono HE0.out.size))
        clear hb HN2
        go_wp2_with fail
        go_ret
        exact ⟨rfl, HE1.out⟩
    | true =>
      rw [hn2] at HN2
      obtain ⟨p, hpp, hpo, hp0, hsz⟩ := numB_yes hn2
      have hpz : Sz 24 p := Sz.of (by omega) (by rw [← hpp]; exact hsz)
      have q1Z : qstr 1 = ⟨#[49]⟩ := by decide +kernel
      have o1 : QOk (1 : Rat) := by decide +kernel
      have HLP := Lib.hid (show ∀ W, Calls Tryz.prog 33 #[.string pt, .string ⟨#[49]⟩] W (Rb (decide (p ≤ 1)) W) from fun W => by
        have h := least_q hpo o1 W
        rw [← hpp, q1Z] at h
        exact h)
      by_cases hp1 : p ≤ 1
      · rw [decide_eq_true hp1] at HLP
        have HPP := Lib.hid (And.intro hpp (And.intro hpz (And.intro hp0 (And.intro hp1 (And.intro hpo (And.intro q1Z o1))))))
        clear hn2 hpp hpo hp0 hsz hpz hp1 q1Z o1
        go_enter Tryz.func6, Tryz.ntmps6
        go_wp2_with fail
        refine HL.out.mono ?_
        rintro e w1 ⟨rfl, hb⟩
        have HB := Lib.hid hb
        clear hb HL
        go_wp2_with fail
        refine (HMD.out _ HB.out).mono ?_
        rintro e w2 ⟨v, r, rfl, hr, hb⟩
        have HB2 := Lib.hid (HB.out.trans (hb.mono HB.out.size))
        clear hb HMD HB
        cases r with
        | false =>
          clear hr
          go_wp2_with fail
          go_ret
          exact ⟨rfl, HB2.out⟩
        | true =>
          obtain ⟨g, cl, u0, u1, u2, u3, D0, D1, D2, D3, rfl, hg, hc0, hc1, hc2, hc3, d0, d1, d2, d3⟩ := hr rfl
          obtain ⟨hk0, hl0⟩ := chk_dv d0
          obtain ⟨a0, q0, rfl, m0, _⟩ := d0
          obtain ⟨P, hP⟩ : ∃ P, P = tZ D0 := ⟨_, rfl⟩
          have hlen0 : P.length = D0.length := by rw [hP, tZ_len]
          rw [← hP] at m0 hl0 hk0
          obtain ⟨N0, hN0⟩ : ∃ N0, D0.length = N0 := ⟨_, rfl⟩
          rw [hN0] at m0 hlen0 hc0
          have hs0 := (litB_yes hl0).1
          rw [hlen0] at hs0
          have p0 := DiL.of hk0
          obtain ⟨hk1, hl1⟩ := chk_dv d1
          obtain ⟨a1, q1, rfl, m1, _⟩ := d1
          obtain ⟨Q, hQ⟩ : ∃ Q, Q = tZ D1 := ⟨_, rfl⟩
          have hlen1 : Q.length = D1.length := by rw [hQ, tZ_len]
          rw [← hQ] at m1 hl1 hk1
          obtain ⟨N1, hN1⟩ : ∃ N1, D1.length = N1 := ⟨_, rfl⟩
          rw [hN1] at m1 hlen1 hc1
          have hs1 := (litB_yes hl1).1
          rw [hlen1] at hs1
          have p1 := DiL.of hk1
          obtain ⟨hk2, hl2⟩ := chk_dv d2
          obtain ⟨a2, q2, rfl, m2, _⟩ := d2
          obtain ⟨R, hR⟩ : ∃ R, R = tZ D2 := ⟨_, rfl⟩
          have hlen2 : R.length = D2.length := by rw [hR, tZ_len]
          rw [← hR] at m2 hl2 hk2
          obtain ⟨N2, hN2⟩ : ∃ N2, D2.length = N2 := ⟨_, rfl⟩
          rw [hN2] at m2 hlen2 hc2
          have hs2 := (litB_yes hl2).1
          rw [hlen2] at hs2
          have p2 := DiL.of hk2
          obtain ⟨hk3, hl3⟩ := chk_dv d3
          obtain ⟨a3, q3, rfl, m3, _⟩ := d3
          obtain ⟨T, hT⟩ : ∃ T, T = tZ D3 := ⟨_, rfl⟩
          have hlen3 : T.length = D3.length := by rw [hT, tZ_len]
          rw [← hT] at m3 hl3 hk3
          obtain ⟨N3, hN3⟩ : ∃ N3, D3.length = N3 := ⟨_, rfl⟩
          rw [hN3] at m3 hlen3 hc3
          have hs3 := (litB_yes hl3).1
          rw [hlen3] at hs3
          have p3 := DiL.of hk3
          obtain ⟨hsf, hf24, hf0⟩ := HFF.out
          obtain ⟨hpp, hp24, hp0, hp1, hpo, q1Z, o1⟩ := HPP.out
          have hf60 : Sz 60 f := hf24.mono (by omega)
          have ofo := hf24.qok (by omega) (by omega)
          have s1 : Sz 1 (1 : Rat) := ⟨by decide, by decide⟩
          have hr26 : Sz 26 (1 + -p) := Sz.add s1 hp24.neg
          have HTW := Lib.hid (fun W (hb : Below w2.heap.size w2 W) => HTM.out W (HB2.out.trans (hb.mono HB2.out.size)))
          have HMR := Lib.hid (fun W (hb : Below w2.heap.size w2 W) => And.intro (m0.below hb) (And.intro (m1.below hb) (And.intro (m2.below hb) (m3.below hb))))
          have HLC := Lib.hid (show ∀ W, Below w2.heap.size w2 W → W.cell? ⟨g, 0, none⟩ = some (.slice a0 N0 q0) ∧ W.cell? ⟨g, 1, none⟩ = some (.slice a1 N1 q1) ∧ W.cell? ⟨g, 2, none⟩ = some (.slice a2 N2 q2) ∧ W.cell? ⟨g, 3, none⟩ = some (.slice a3 N3 q3) from fun W hb => ⟨(hb.cell (p := ⟨g, 0, none⟩) hg).trans hc0, (hb.cell (p := ⟨g, 1, none⟩) hg).trans hc1, (hb.cell (p := ⟨g, 2, none⟩) hg).trans hc2, (hb.cell (p := ⟨g, 3, none⟩) hg).trans hc3⟩)
          obtain ⟨X, NX, hX, cX⟩ := mixc_any (N := N0) (M := N2) (c1 := q0) (c2 := q2) (a1 := a0) (a2 := a2) hl0 hl2 hk0 hk2 hp24 hp0 hp1
          obtain ⟨Y, NY, hY, cY⟩ := mixc_any (N := N1) (M := N3) (c1 := q1) (c2 := q3) (a1 := a1) (a2 := a3) hl1 hl3 hk1 hk3 hp24 hp0 hp1
          rw [← hpp] at cX cY
          have HX := Lib.hid (fun W (hb : Below w2.heap.size w2 W) => cX W (HMR.out W hb).1 (HMR.out W hb).2.2.1 (HTW.out W hb).1 (HTW.out W hb).2)
          have HY := Lib.hid (fun W (hb : Below w2.heap.size w2 W) => cY W (HMR.out W hb).2.1 (HMR.out W hb).2.2.2 (HTW.out W hb).1 (HTW.out W hb).2)
          obtain ⟨tu, htu⟩ : ∃ tu, tu = qstr (dl P Q f) := ⟨_, rfl⟩
          obtain ⟨tv, htv⟩ : ∃ tv, tv = qstr (dl R T f) := ⟨_, rfl⟩
          obtain ⟨tw, htw⟩ : ∃ tw, tw = qstr (dl X Y f) := ⟨_, rfl⟩
          obtain ⟨tr, htr⟩ : ∃ tr, tr = qstr (1 + -p) := ⟨_, rfl⟩
          obtain ⟨ta, hta⟩ : ∃ ta, ta = qstr (p * dl P Q f) := ⟨_, rfl⟩
          obtain ⟨tb, htb⟩ : ∃ tb, tb = qstr ((1 + -p) * dl R T f) := ⟨_, rfl⟩
          obtain ⟨ts, hts⟩ : ∃ ts, ts = qstr (p * dl P Q f + (1 + -p) * dl R T f) := ⟨_, rfl⟩
          have HU := Lib.hid (show ∀ W, Below w2.heap.size w2 W → Calls Tryz.prog 20 #[.slice a0 N0 q0, .slice a1 N1 q1, .string s] W (fun e w' => e = .returned (.tuple #[.string tu, .int .i64 0]) ∧ Below W.heap.size W w') from fun W hb => by
            have h := Delta_any (c1 := q0) (c2 := q1) (sf := qstr f) (HMR.out W hb).1 (HMR.out W hb).2.1 (by omega) (by omega) (litB_ml hl0) (litB_ml hl1) (Nat.le_trans (qstr_size ofo) (by omega)) (HTW.out W hb).1 (HTW.out W hb).2
            rw [dlt_is2 hl0 hl1 hk0 hk1 hf60 hf0, ← hsf, ← htu] at h
            exact h)
          have HV := Lib.hid (show ∀ W, Below w2.heap.size w2 W → Calls Tryz.prog 20 #[.slice a2 N2 q2, .slice a3 N3 q3, .string s] W (fun e w' => e = .returned (.tuple #[.string tv, .int .i64 0]) ∧ Below W.heap.size W w') from fun W hb => by
            have h := Delta_any (c1 := q2) (c2 := q3) (sf := qstr f) (HMR.out W hb).2.2.1 (HMR.out W hb).2.2.2 (by omega) (by omega) (litB_ml hl2) (litB_ml hl3) (Nat.le_trans (qstr_size ofo) (by omega)) (HTW.out W hb).1 (HTW.out W hb).2
            rw [dlt_is2 hl2 hl3 hk2 hk3 hf60 hf0, ← hsf, ← htv] at h
            exact h)
          obtain ⟨ed, sd⟩ := dlt_mix hX.chk hY.chk hX.zd hY.zd mD_pos mD_pos (mD_lt hl0 hl2 p0.ok p2.ok hp24) (mD_lt hl1 hl3 p1.ok p3.ok hp24) hf24 hf0
          have hXle := hX.le
          have hYle := hY.le
          have HW := Lib.hid (show ∀ W xo xc yo yc, Below w2.heap.size w2 W → MR W xo NX X → MR W yo NY Y → Calls Tryz.prog 20 #[.slice xo NX xc, .slice yo NY yc, .string s] W (fun e w' => e = .returned (.tuple #[.string tw, .int .i64 0]) ∧ Below W.heap.size W w') from fun W xo xc yo yc hb mx my => by
            have h := Delta_any (c1 := xc) (c2 := yc) (sf := qstr f) mx my (by omega) (by omega) hX.ml hY.ml (Nat.le_trans (qstr_size ofo) (by omega)) (HTW.out W hb).1 (HTW.out W hb).2
            rw [ed, ← hsf, ← htw] at h
            exact h)
          have HSUB := Lib.hid (show ∀ W, Calls Tryz.prog 39 #[.string ⟨#[49]⟩, .string pt] W (fun e w' => e = .returned (.tuple #[.string tr, .int .i64 0]) ∧ Below W.heap.size W w') from fun W => by
            have h := rSub_q (p := 1) (q := p) W o1 hpo
            unfold RQ at h
            rw [wQ_oQ, okQ_yes (hr26.qok (by omega) (by omega)), q1Z, ← hpp] at h
            rw [htr]
            exact h)
          have su := (dlt_run2 hl0 hl1 p0.ok p1.ok hf60).2
          have sv := (dlt_run2 hl2 hl3 p2.ok p3.ok hf60).2
          have sa := Sz.mul hp24 su
          have sb := Sz.mul hr26 sv
          have ss := Sz.add sa sb
          have HT1 := Lib.hid (show ∀ W, Calls Tryz.prog 36 #[.string pt, .string tu] W (Rt ta W) from fun W => by
            rw [hpp, htu, hta]
            exact ltimes_q hpo (su.qok (by omega) (by omega)) (sa.qok (by omega) (by omega)) W)
          have HT2 := Lib.hid (show ∀ W, Calls Tryz.prog 36 #[.string tr, .string tv] W (Rt tb W) from fun W => by
            rw [htr, htv, htb]
            exact ltimes_q (hr26.qok (by omega) (by omega)) (sv.qok (by omega) (by omega)) (sb.qok (by omega) (by omega)) W)
          have HPL := Lib.hid (show ∀ W, Calls Tryz.prog 37 #[.string ta, .string tb] W (Rt ts W) from fun W => by
            rw [hta, htb, hts]
            exact lplus_q (sa.qok (by omega) (by omega)) (sb.qok (by omega) (by omega)) (ss.qok (by omega) (by omega)) W)
          have HLE := Lib.hid (show ∀ W, Calls Tryz.prog 33 #[.string tw, .string ts] W (Rb true W) from fun W => by
            have h := least_q (sd.qok (by omega) (by omega)) (ss.qok (by omega) (by omega)) W
            rw [decide_eq_true (dl_mix p0 p1 p2 p3 (DiL.of hX.chk) hf0 hp0 hp1 hX.val hY.val), ← htw, ← hts] at h
            exact h)
          clear hr hc0 hc1 hc2 hc3 m0 m1 m2 m3 hk0 hk1 hk2 hk3 hl0 hl1 hl2 hl3 hlen0 hlen1 hlen2 hlen3 hP hQ hR hT hN0 hN1 hN2 hN3 p0 p1 p2 p3 hs0 hs1 hs2 hs3 HFF HPP hsf hf24 hf0 hpp hp24 hp0 hp1 hpo q1Z o1 hf60 ofo s1 hr26 HTW HMR HTM hX hY cX cY htu htv htw htr hta htb hts ed sd hXle hYle su sv sa sb ss
          have HB0 := Lib.hid (Below.refl w2.heap.size w2)
          go_wp2_with fail
          refine (HN1.out _).mono ?_
          rintro e y1 ⟨rfl, hb⟩
          have HB1 := Lib.hid (HB0.out.trans (hb.mono HB0.out.size))
          clear hb HN1
          go_wp2_with fail
          refine (HN2.out _).mono ?_
          rintro e y2 ⟨rfl, hb⟩
          have HBB := Lib.hid (HB1.out.trans (hb.mono HB1.out.size))
          clear hb HN2
          go_wp2_with fail
          refine (HLP.out _).mono ?_
          rintro e y3 ⟨rfl, hb⟩
          have HB3 := Lib.hid (HBB.out.trans (hb.mono HBB.out.size))
          clear hb HLP
          go_wp2_with fail
          refine wp_world HB3.out (fun wx hbx => ?_)
          have HBX2 := Lib.hid hbx
          clear hbx
          refine wp_region_held (S := fun W => Below wx.heap.size wx W) (by kernel_rfl) ?_
          change wpAnyH _ _ _ _ _ 13 _ _ wx.drew
          have hD0 := (Below.refl wx.heap.size wx).drew
          generalize wx.drew = W at *
          refine wpHz_take (i := 0) (d := 56) (v := .string pt) rfl rfl (by kernel_rfl) (by kernel_rfl) (by kernel_rfl) (fun _ _ _ h => h) rfl (fun W _ => by go_simp) hD0 ?_
          simp only [Act.put, List.setIfInBounds_toArray, List.set_cons_zero, List.set_cons_succ]
          refine wpHz_take (i := 1) (d := 57) (v := .slice (some ⟨g, 0, none⟩) 4 cl) rfl rfl (by kernel_rfl) (by kernel_rfl) (by kernel_rfl) (fun _ _ _ h => h) rfl (fun W _ => by go_simp) hD0 ?_
          simp only [Act.put, List.setIfInBounds_toArray, List.set_cons_zero, List.set_cons_succ]
          refine wpHz_take (i := 2) (d := 58) (v := .pointer (some ⟨g, 0, none⟩)) rfl rfl (by kernel_rfl) (by kernel_rfl) (by kernel_rfl) (fun _ _ _ h => h) rfl (fun W _ => by go_simp) hD0 ?_
          simp only [Act.put, List.setIfInBounds_toArray, List.set_cons_zero, List.set_cons_succ]
          refine wpHz_take (i := 3) (d := 59) (v := .slice a0 N0 q0) rfl rfl (by kernel_rfl) (by kernel_rfl) (by kernel_rfl) (fun _ _ _ h => h) rfl (fun W hW => by have e0 := (HLC.out W (HBX2.out.trans (hW.mono HBX2.out.size))).1; go_simp) hD0 ?_
          simp only [Act.put, List.setIfInBounds_toArray, List.set_cons_zero, List.set_cons_succ]
          refine wpHz_take (i := 4) (d := 60) (v := .slice (some ⟨g, 0, none⟩) 4 cl) rfl rfl (by kernel_rfl) (by kernel_rfl) (by kernel_rfl) (fun _ _ _ h => h) rfl (fun W _ => by go_simp) hD0 ?_
          simp only [Act.put, List.setIfInBounds_toArray, List.set_cons_zero, List.set_cons_succ]
          refine wpHz_take (i := 5) (d := 61) (v := .pointer (some ⟨g, 2, none⟩)) rfl rfl (by kernel_rfl) (by kernel_rfl) (by kernel_rfl) (fun _ _ _ h => h) rfl (fun W _ => by go_simp) hD0 ?_
          simp only [Act.put, List.setIfInBounds_toArray, List.set_cons_zero, List.set_cons_succ]
          refine wpHz_take (i := 6) (d := 62) (v := .slice a2 N2 q2) rfl rfl (by kernel_rfl) (by kernel_rfl) (by kernel_rfl) (fun _ _ _ h => h) rfl (fun W hW => by have e0 := (HLC.out W (HBX2.out.trans (hW.mono HBX2.out.size))).2.2.1; go_simp) hD0 ?_
          simp only [Act.put, List.setIfInBounds_toArray, List.set_cons_zero, List.set_cons_succ]
          refine wpHz_one (i := 7) (by kernel_rfl) ?_
          refine wpOz_run rfl rfl (wpz_enter (d := 63) rfl (by go_simp) ((HX.out _ (HBX2.out.trans (hD0.mono HBX2.out.size))).mono ?_))
          rintro e z1 ⟨xo, xc, rfl, hmx, hb⟩
          have hD1 : Below wx.heap.size wx z1 := hD0.trans (hb.mono hD0.size)
          have HMX := Lib.hid hmx
          clear hb hmx
          refine ⟨_, rfl, hD1, ?_⟩
          simp only [Act.put, List.setIfInBounds_toArray, List.set_cons_zero, List.set_cons_succ]
          refine wpHz_take (i := 8) (d := 55) (v := .tuple #[.slice xo NX xc, .int .i64 0]) rfl rfl (by kernel_rfl) (by kernel_rfl) (by kernel_rfl) (fun _ _ _ h => h) rfl (fun W _ => by go_simp) hD1 ?_
          simp only [Act.put, List.setIfInBounds_toArray, List.set_cons_zero, List.set_cons_succ]
          refine wpHz_take (i := 9) (d := 64) (v := .slice xo NX xc) rfl rfl (by kernel_rfl) (by kernel_rfl) (by kernel_rfl) (fun _ _ _ h => h) rfl (fun W _ => by go_simp) hD1 ?_
          simp only [Act.put, List.setIfInBounds_toArray, List.set_cons_zero, List.set_cons_succ]
          refine wpHz_take (i := 10) (d := 65) (v := .int .i64 0) rfl rfl (by kernel_rfl) (by kernel_rfl) (by kernel_rfl) (fun _ _ _ h => h) rfl (fun W _ => by go_simp) hD1 ?_
          simp only [Act.put, List.setIfInBounds_toArray, List.set_cons_zero, List.set_cons_succ]
          refine wpHz_take (i := 11) (d := 15) (v := .slice xo NX xc) rfl rfl (by kernel_rfl) (by kernel_rfl) (by kernel_rfl) (fun _ _ _ h => h) rfl (fun W _ => by go_simp) hD1 ?_
          simp only [Act.put, List.setIfInBounds_toArray, List.set_cons_zero, List.set_cons_succ]
          refine wpHz_take (i := 12) (d := 16) (v := .int .i64 0) rfl rfl (by kernel_rfl) (by kernel_rfl) (by kernel_rfl) (fun _ _ _ h => h) rfl (fun W _ => by go_simp) hD1 ?_
          simp only [Act.put, List.setIfInBounds_toArray, List.set_cons_zero, List.set_cons_succ]
          refine wpAnyH_done (by kernel_rfl) ?_ _
          have HB4 := Lib.hid (HBX2.out.trans (hD1.mono HBX2.out.size))
          clear HBX2 hD0 hD1 HX
          go_wp2_with fail
          refine wp_world (Below.refl z1.heap.size z1) (fun wx hbx => ?_)
          have HBX2 := Lib.hid hbx
          clear hbx
          refine wp_region_held (S := fun W => Below wx.heap.size wx W) (by kernel_rfl) ?_
          change wpAnyH _ _ _ _ _ 13 _ _ wx.drew
          have hD0 := (Below.refl wx.heap.size wx).drew
          generalize wx.drew = W at *
          refine wpHz_take (i := 0) (d := 67) (v := .string pt) rfl rfl (by kernel_rfl) (by kernel_rfl) (by kernel_rfl) (fun _ _ _ h => h) rfl (fun W _ => by go_simp) hD0 ?_
          simp only [Act.put, List.setIfInBounds_toArray, List.set_cons_zero, List.set_cons_succ]
          refine wpHz_take (i := 1) (d := 68) (v := .slice (some ⟨g, 0, none⟩) 4 cl) rfl rfl (by kernel_rfl) (by kernel_rfl) (by kernel_rfl) (fun _ _ _ h => h) rfl (fun W _ => by go_simp) hD0 ?_
          simp only [Act.put, List.setIfInBounds_toArray, List.set_cons_zero, List.set_cons_succ]
          refine wpHz_take (i := 2) (d := 69) (v := .pointer (some ⟨g, 1, none⟩)) rfl rfl (by kernel_rfl) (by kernel_rfl) (by kernel_rfl) (fun _ _ _ h => h) rfl (fun W _ => by go_simp) hD0 ?_
          simp only [Act.put, List.setIfInBounds_toArray, List.set_cons_zero, List.set_cons_succ]
          refine wpHz_take (i := 3) (d := 70) (v := .slice a1 N1 q1) rfl rfl (by kernel_rfl) (by kernel_rfl) (by kernel_rfl) (fun _ _ _ h => h) rfl (fun W hW => by have e0 := (HLC.out W (HB4.out.trans ((HBX2.out.trans (hW.mono HBX2.out.size)).mono HB4.out.size))).2.1; go_simp) hD0 ?_
          simp only [Act.put, List.setIfInBounds_toArray, List.set_cons_zero, List.set_cons_succ]
          refine wpHz_take (i := 4) (d := 71) (v := .slice (some ⟨g, 0, none⟩) 4 cl) rfl rfl (by kernel_rfl) (by kernel_rfl) (by kernel_rfl) (fun _ _ _ h => h) rfl (fun W _ => by go_simp) hD0 ?_
          simp only [Act.put, List.setIfInBounds_toArray, List.set_cons_zero, List.set_cons_succ]
          refine wpHz_take (i := 5) (d := 72) (v := .pointer (some ⟨g, 3, none⟩)) rfl rfl (by kernel_rfl) (by kernel_rfl) (by kernel_rfl) (fun _ _ _ h => h) rfl (fun W _ => by go_simp) hD0 ?_
          simp only [Act.put, List.setIfInBounds_toArray, List.set_cons_zero, List.set_cons_succ]
          refine wpHz_take (i := 6) (d := 73) (v := .slice a3 N3 q3) rfl rfl (by kernel_rfl) (by kernel_rfl) (by kernel_rfl) (fun _ _ _ h => h) rfl (fun W hW => by have e0 := (HLC.out W (HB4.out.trans ((HBX2.out.trans (hW.mono HBX2.out.size)).mono HB4.out.size))).2.2.2; go_simp) hD0 ?_
          simp only [Act.put, List.setIfInBounds_toArray, List.set_cons_zero, List.set_cons_succ]
          refine wpHz_one (i := 7) (by kernel_rfl) ?_
          refine wpOz_run rfl rfl (wpz_enter (d := 74) rfl (by go_simp) ((HY.out _ (HB4.out.trans ((HBX2.out.trans (hD0.mono HBX2.out.size)).mono HB4.out.size))).mono ?_))
          rintro e z2 ⟨yo, yc, rfl, hmx, hb⟩
          have hD1 : Below wx.heap.size wx z2 := hD0.trans (hb.mono hD0.size)
          have HMY := Lib.hid hmx
          clear hb hmx
          refine ⟨_, rfl, hD1, ?_⟩
          simp only [Act.put, List.setIfInBounds_toArray, List.set_cons_zero, List.set_cons_succ]
          refine wpHz_take (i := 8) (d := 66) (v := .tuple #[.slice yo NY yc, .int .i64 0]) rfl rfl (by kernel_rfl) (by kernel_rfl) (by kernel_rfl) (fun _ _ _ h => h) rfl (fun W _ => by go_simp) hD1 ?_
          simp only [Act.put, List.setIfInBounds_toArray, List.set_cons_zero, List.set_cons_succ]
          refine wpHz_take (i := 9) (d := 75) (v := .slice yo NY yc) rfl rfl (by kernel_rfl) (by kernel_rfl) (by kernel_rfl) (fun _ _ _ h => h) rfl (fun W _ => by go_simp) hD1 ?_
          simp only [Act.put, List.setIfInBounds_toArray, List.set_cons_zero, List.set_cons_succ]
          refine wpHz_take (i := 10) (d := 76) (v := .int .i64 0) rfl rfl (by kernel_rfl) (by kernel_rfl) (by kernel_rfl) (fun _ _ _ h => h) rfl (fun W _ => by go_simp) hD1 ?_
          simp only [Act.put, List.setIfInBounds_toArray, List.set_cons_zero, List.set_cons_succ]
          refine wpHz_take (i := 11) (d := 17) (v := .slice yo NY yc) rfl rfl (by kernel_rfl) (by kernel_rfl) (by kernel_rfl) (fun _ _ _ h => h) rfl (fun W _ => by go_simp) hD1 ?_
          simp only [Act.put, List.setIfInBounds_toArray, List.set_cons_zero, List.set_cons_succ]
          refine wpHz_take (i := 12) (d := 18) (v := .int .i64 0) rfl rfl (by kernel_rfl) (by kernel_rfl) (by kernel_rfl) (fun _ _ _ h => h) rfl (fun W _ => by go_simp) hD1 ?_
          simp only [Act.put, List.setIfInBounds_toArray, List.set_cons_zero, List.set_cons_succ]
          refine wpAnyH_done (by kernel_rfl) ?_ _
          have HB5 := Lib.hid (HB4.out.trans ((HBX2.out.trans (hD1.mono HBX2.out.size)).mono HB4.out.size))
          have HMX2 := Lib.hid (HMX.out.below (HBX2.out.trans (hD1.mono HBX2.out.size)))
          clear HBX2 hD0 hD1 HY HMX
          go_wp2_with fail
          refine wp_world (Below.refl z2.heap.size z2) (fun wx hbx => ?_)
          have HBX2 := Lib.hid hbx
          clear hbx
          refine wp_region_held (S := fun W => Below wx.heap.size wx W) (by kernel_rfl) ?_
          change wpAnyH _ _ _ _ _ 13 _ _ wx.drew
          have hD0 := (Below.refl wx.heap.size wx).drew
          generalize wx.drew = W at *
          refine wpHz_take (i := 0) (d := 78) (v := .slice (some ⟨g, 0, none⟩) 4 cl) rfl rfl (by kernel_rfl) (by kernel_rfl) (by kernel_rfl) (fun _ _ _ h => h) rfl (fun W _ => by go_simp) hD0 ?_
          simp only [Act.put, List.setIfInBounds_toArray, List.set_cons_zero, List.set_cons_succ]
          refine wpHz_take (i := 1) (d := 79) (v := .pointer (some ⟨g, 0, none⟩)) rfl rfl (by kernel_rfl) (by kernel_rfl) (by kernel_rfl) (fun _ _ _ h => h) rfl (fun W _ => by go_simp) hD0 ?_
          simp only [Act.put, List.setIfInBounds_toArray, List.set_cons_zero, List.set_cons_succ]
          refine wpHz_take (i := 2) (d := 80) (v := .slice a0 N0 q0) rfl rfl (by kernel_rfl) (by kernel_rfl) (by kernel_rfl) (fun _ _ _ h => h) rfl (fun W hW => by have e0 := (HLC.out W (HB5.out.trans ((HBX2.out.trans (hW.mono HBX2.out.size)).mono HB5.out.size))).1; go_simp) hD0 ?_
          simp only [Act.put, List.setIfInBounds_toArray, List.set_cons_zero, List.set_cons_succ]
          refine wpHz_take (i := 3) (d := 81) (v := .slice (some ⟨g, 0, none⟩) 4 cl) rfl rfl (by kernel_rfl) (by kernel_rfl) (by kernel_rfl) (fun _ _ _ h => h) rfl (fun W _ => by go_simp) hD0 ?_
          simp only [Act.put, List.setIfInBounds_toArray, List.set_cons_zero, List.set_cons_succ]
          refine wpHz_take (i := 4) (d := 82) (v := .pointer (some ⟨g, 1, none⟩)) rfl rfl (by kernel_rfl) (by kernel_rfl) (by kernel_rfl) (fun _ _ _ h => h) rfl (fun W _ => by go_simp) hD0 ?_
          simp only [Act.put, List.setIfInBounds_toArray, List.set_cons_zero, List.set_cons_succ]
          refine wpHz_take (i := 5) (d := 83) (v := .slice a1 N1 q1) rfl rfl (by kernel_rfl) (by kernel_rfl) (by kernel_rfl) (fun _ _ _ h => h) rfl (fun W hW => by have e0 := (HLC.out W (HB5.out.trans ((HBX2.out.trans (hW.mono HBX2.out.size)).mono HB5.out.size))).2.1; go_simp) hD0 ?_
          simp only [Act.put, List.setIfInBounds_toArray, List.set_cons_zero, List.set_cons_succ]
          refine wpHz_take (i := 6) (d := 84) (v := .string s) rfl rfl (by kernel_rfl) (by kernel_rfl) (by kernel_rfl) (fun _ _ _ h => h) rfl (fun W _ => by go_simp) hD0 ?_
          simp only [Act.put, List.setIfInBounds_toArray, List.set_cons_zero, List.set_cons_succ]
          refine wpHz_one (i := 7) (by kernel_rfl) ?_
          refine wpOz_run rfl rfl (wpz_enter (d := 85) rfl (by go_simp) ((HU.out _ (HB5.out.trans ((HBX2.out.trans (hD0.mono HBX2.out.size)).mono HB5.out.size))).mono ?_))
          rintro e z3 ⟨rfl, hb⟩
          have hD1 : Below wx.heap.size wx z3 := hD0.trans (hb.mono hD0.size)
          clear hb
          refine ⟨_, rfl, hD1, ?_⟩
          simp only [Act.put, List.setIfInBounds_toArray, List.set_cons_zero, List.set_cons_succ]
          refine wpHz_take (i := 8) (d := 77) (v := .tuple #[.string tu, .int .i64 0]) rfl rfl (by kernel_rfl) (by kernel_rfl) (by kernel_rfl) (fun _ _ _ h => h) rfl (fun W _ => by go_simp) hD1 ?_
          simp only [Act.put, List.setIfInBounds_toArray, List.set_cons_zero, List.set_cons_succ]
          refine wpHz_take (i := 9) (d := 86) (v := .string tu) rfl rfl (by kernel_rfl) (by kernel_rfl) (by kernel_rfl) (fun _ _ _ h => h) rfl (fun W _ => by go_simp) hD1 ?_
          simp only [Act.put, List.setIfInBounds_toArray, List.set_cons_zero, List.set_cons_succ]
          refine wpHz_take (i := 10) (d := 87) (v := .int .i64 0) rfl rfl (by kernel_rfl) (by kernel_rfl) (by kernel_rfl) (fun _ _ _ h => h) rfl (fun W _ => by go_simp) hD1 ?_
          simp only [Act.put, List.setIfInBounds_toArray, List.set_cons_zero, List.set_cons_succ]
          refine wpHz_take (i := 11) (d := 19) (v := .string tu) rfl rfl (by kernel_rfl) (by kernel_rfl) (by kernel_rfl) (fun _ _ _ h => h) rfl (fun W _ => by go_simp) hD1 ?_
          simp only [Act.put, List.setIfInBounds_toArray, List.set_cons_zero, List.set_cons_succ]
          refine wpHz_take (i := 12) (d := 20) (v := .int .i64 0) rfl rfl (by kernel_rfl) (by kernel_rfl) (by kernel_rfl) (fun _ _ _ h => h) rfl (fun W _ => by go_simp) hD1 ?_
          simp only [Act.put, List.setIfInBounds_toArray, List.set_cons_zero, List.set_cons_succ]
          refine wpAnyH_done (by kernel_rfl) ?_ _
          have HB6 := Lib.hid (HBX2.out.trans (hD1.mono HBX2.out.size))
          clear HBX2 hD0 hD1 HU
          go_wp2_with fail
          refine wp_world HB6.out (fun wx hbx => ?_)
          have HBX2 := Lib.hid hbx
          clear hbx
          refine wp_region_held (S := fun W => Below wx.heap.size wx W) (by kernel_rfl) ?_
          change wpAnyH _ _ _ _ _ 13 _ _ wx.drew
          have hD0 := (Below.refl wx.heap.size wx).drew
          generalize wx.drew = W at *
          refine wpHz_take (i := 0) (d := 89) (v := .slice (some ⟨g, 0, none⟩) 4 cl) rfl rfl (by kernel_rfl) (by kernel_rfl) (by kernel_rfl) (fun _ _ _ h => h) rfl (fun W _ => by go_simp) hD0 ?_
          simp only [Act.put, List.setIfInBounds_toArray, List.set_cons_zero, List.set_cons_succ]
          refine wpHz_take (i := 1) (d := 90) (v := .pointer (some ⟨g, 2, none⟩)) rfl rfl (by kernel_rfl) (by kernel_rfl) (by kernel_rfl) (fun _ _ _ h => h) rfl (fun W _ => by go_simp) hD0 ?_
          simp only [Act.put, List.setIfInBounds_toArray, List.set_cons_zero, List.set_cons_succ]
          refine wpHz_take (i := 2) (d := 91) (v := .slice a2 N2 q2) rfl rfl (by kernel_rfl) (by kernel_rfl) (by kernel_rfl) (fun _ _ _ h => h) rfl (fun W hW => by have e0 := (HLC.out W (HB5.out.trans ((HBX2.out.trans (hW.mono HBX2.out.size)).mono HB5.out.size))).2.2.1; go_simp) hD0 ?_
          simp only [Act.put, List.setIfInBounds_toArray, List.set_cons_zero, List.set_cons_succ]
          refine wpHz_take (i := 3) (d := 92) (v := .slice (some ⟨g, 0, none⟩) 4 cl) rfl rfl (by kernel_rfl) (by kernel_rfl) (by kernel_rfl) (fun _ _ _ h => h) rfl (fun W _ => by go_simp) hD0 ?_
          simp only [Act.put, List.setIfInBounds_toArray, List.set_cons_zero, List.set_cons_succ]
          refine wpHz_take (i := 4) (d := 93) (v := .pointer (some ⟨g, 3, none⟩)) rfl rfl (by kernel_rfl) (by kernel_rfl) (by kernel_rfl) (fun _ _ _ h => h) rfl (fun W _ => by go_simp) hD0 ?_
          simp only [Act.put, List.setIfInBounds_toArray, List.set_cons_zero, List.set_cons_succ]
          refine wpHz_take (i := 5) (d := 94) (v := .slice a3 N3 q3) rfl rfl (by kernel_rfl) (by kernel_rfl) (by kernel_rfl) (fun _ _ _ h => h) rfl (fun W hW => by have e0 := (HLC.out W (HB5.out.trans ((HBX2.out.trans (hW.mono HBX2.out.size)).mono HB5.out.size))).2.2.2; go_simp) hD0 ?_
          simp only [Act.put, List.setIfInBounds_toArray, List.set_cons_zero, List.set_cons_succ]
          refine wpHz_take (i := 6) (d := 95) (v := .string s) rfl rfl (by kernel_rfl) (by kernel_rfl) (by kernel_rfl) (fun _ _ _ h => h) rfl (fun W _ => by go_simp) hD0 ?_
          simp only [Act.put, List.setIfInBounds_toArray, List.set_cons_zero, List.set_cons_succ]
          refine wpHz_one (i := 7) (by kernel_rfl) ?_
          refine wpOz_run rfl rfl (wpz_enter (d := 96) rfl (by go_simp) ((HV.out _ (HB5.out.trans ((HBX2.out.trans (hD0.mono HBX2.out.size)).mono HB5.out.size))).mono ?_))
          rintro e z4 ⟨rfl, hb⟩
          have hD1 : Below wx.heap.size wx z4 := hD0.trans (hb.mono hD0.size)
          clear hb
          refine ⟨_, rfl, hD1, ?_⟩
          simp only [Act.put, List.setIfInBounds_toArray, List.set_cons_zero, List.set_cons_succ]
          refine wpHz_take (i := 8) (d := 88) (v := .tuple #[.string tv, .int .i64 0]) rfl rfl (by kernel_rfl) (by kernel_rfl) (by kernel_rfl) (fun _ _ _ h => h) rfl (fun W _ => by go_simp) hD1 ?_
          simp only [Act.put, List.setIfInBounds_toArray, List.set_cons_zero, List.set_cons_succ]
          refine wpHz_take (i := 9) (d := 97) (v := .string tv) rfl rfl (by kernel_rfl) (by kernel_rfl) (by kernel_rfl) (fun _ _ _ h => h) rfl (fun W _ => by go_simp) hD1 ?_
          simp only [Act.put, List.setIfInBounds_toArray, List.set_cons_zero, List.set_cons_succ]
          refine wpHz_take (i := 10) (d := 98) (v := .int .i64 0) rfl rfl (by kernel_rfl) (by kernel_rfl) (by kernel_rfl) (fun _ _ _ h => h) rfl (fun W _ => by go_simp) hD1 ?_
          simp only [Act.put, List.setIfInBounds_toArray, List.set_cons_zero, List.set_cons_succ]
          refine wpHz_take (i := 11) (d := 21) (v := .string tv) rfl rfl (by kernel_rfl) (by kernel_rfl) (by kernel_rfl) (fun _ _ _ h => h) rfl (fun W _ => by go_simp) hD1 ?_
          simp only [Act.put, List.setIfInBounds_toArray, List.set_cons_zero, List.set_cons_succ]
          refine wpHz_take (i := 12) (d := 22) (v := .int .i64 0) rfl rfl (by kernel_rfl) (by kernel_rfl) (by kernel_rfl) (fun _ _ _ h => h) rfl (fun W _ => by go_simp) hD1 ?_
          simp only [Act.put, List.setIfInBounds_toArray, List.set_cons_zero, List.set_cons_succ]
          refine wpAnyH_done (by kernel_rfl) ?_ _
          have HB7 := Lib.hid (HBX2.out.trans (hD1.mono HBX2.out.size))
          clear HBX2 hD0 hD1 HV
          go_wp2_with fail
          refine (HW.out _ xo xc yo yc (HB5.out.trans (HB7.out.mono HB5.out.size)) (HMX2.out.below HB7.out) (HMY.out.below HB7.out)).mono ?_
          rintro e z5 ⟨rfl, hb⟩
          have HC0 := Lib.hid (HB5.out.trans ((HB7.out.trans (hb.mono HB7.out.size)).mono HB5.out.size))
          clear hb HW HMX2 HMY HB7 HB6 HLC
          go_wp2_with fail
          refine (HSUB.out _).mono ?_
          rintro e z6 ⟨rfl, hb⟩
          have HC1 := Lib.hid (HC0.out.trans (hb.mono HC0.out.size))
          clear hb HSUB
          go_wp2_with fail
          refine (HT1.out _).mono ?_
          rintro e z7 ⟨rfl, hb⟩
          have HC2 := Lib.hid (HC1.out.trans (hb.mono HC1.out.size))
          clear hb HT1
          go_wp2_with fail
          refine (HT2.out _).mono ?_
          rintro e z8 ⟨rfl, hb⟩
          have HC3 := Lib.hid (HC2.out.trans (hb.mono HC2.out.size))
          clear hb HT2
          go_wp2_with fail
          refine (HPL.out _).mono ?_
          rintro e z9 ⟨rfl, hb⟩
          have HC4 := Lib.hid (HC3.out.trans (hb.mono HC3.out.size))
          clear hb HPL
          go_wp2_with fail
          refine (HLE.out _).mono ?_
          rintro e z10 ⟨rfl, hb⟩
          have HC5 := Lib.hid (HC4.out.trans (hb.mono HC4.out.size))
          clear hb HLE
          go_wp2_with fail
          go_ret
          exact ⟨rfl, HB2.out.trans (HC5.out.mono HB2.out.size)⟩
      · rw [decide_eq_false hp1] at HLP
        clear hn2 hpp hpo hp0 hsz hpz hp1 q1Z o1 HTM HFF
        go_enter Tryz.func6, Tryz.ntmps6
        go_wp2_with fail
        refine HL.out.mono ?_
        rintro e w1 ⟨rfl, hb⟩
        have HB := Lib.hid hb
        clear hb HL
        go_wp2_with fail
        refine (HMD.out _ HB.out).mono ?_
        rintro e w2 ⟨v, r, rfl, hr, hb⟩
        have HB2 := Lib.hid (HB.out.trans (hb.mono HB.out.size))
        clear hb HMD HB
        cases r with
        | false =>
          clear hr
          go_wp2_with fail
          go_ret
          exact ⟨rfl, HB2.out⟩
        | true =>
          clear hr
          go_wp2_with fail
          refine (HN1.out _).mono ?_
          rintro e y0 ⟨rfl, hb⟩
          have HE0 := Lib.hid (HB2.out.trans (hb.mono HB2.out.size))
          clear hb HN1
          go_wp2_with fail
          refine (HN2.out _).mono ?_
          rintro e y1 ⟨rfl, hb⟩
          have HE1 := Lib.hid (HE0.out.trans (hb.mono HE0.out.size))
          clear hb HN2
          go_wp2_with fail
          refine (HLP.out _).mono ?_
          rintro e y2 ⟨rfl, hb⟩
          have HE2 := Lib.hid (HE1.out.trans (hb.mono HE1.out.size))
          clear hb HLP
          go_wp2_with fail
          go_ret
          exact ⟨rfl, HE2.out⟩
end Go.Proofs.YtofanopnibbaeaaGreatDoor
