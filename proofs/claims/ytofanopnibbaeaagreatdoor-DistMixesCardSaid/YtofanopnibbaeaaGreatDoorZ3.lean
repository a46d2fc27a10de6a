/-
  Package dist: checkNotNegative, fold, checkSum, Check.
-/
import Derived.Test.YtofanopnibbaeaaGreatDoorZ2
import Derived.Test.YtofanopnibbaeaaGreatDoorHF
import Derived.Test.YtofanopnibbaeaaGreatDoorB1
import Derived.BigQuiet
import Derived.Deep.QuietTactic
namespace Go.Proofs.YtofanopnibbaeaaGreatDoor
open Go.RowKit NV
open Go.Lib (decDigits)

/-- The sign that rat.Sign returns. -/
def sE (s : ByteArray) : Int := if rchk s = 0 then sgnQ (ratS s) else 0
theorem Sign_any (s : ByteArray) (hs : s.size ≤ 1000000) (w : World) (hm : ML w) :
    Calls Tryz.prog 77 #[.string s] w fun e w' => e = .returned (.tuple #[.int .i64 (sE s), .int .i64 ((rchk s : Nat) : Int)]) ∧ Below w.heap.size w w' := by
  by_cases h0 : rchk s = 0
  · unfold sE
    rw [if_pos h0, h0]
    obtain ⟨h1, h2⟩ := ratS_ok h0
    have h := Sign_q (ratS s) h2 w hm
    rw [← h1] at h
    exact h
  · unfold sE
    rw [if_neg h0]
    exact Sign_err1 w hs hm rfl h0
theorem rSign_any (s : ByteArray) (hs : s.size ≤ 140737488351232) (w : World) :
    Calls Tryz.prog 103 #[.string s] w fun e w' => e = .returned (.tuple #[.int .i64 (sE s), .int .i64 ((rchk s : Nat) : Int)]) ∧ Below w.heap.size w w' := by
  by_cases h0 : rchk s = 0
  · unfold sE
    rw [if_pos h0, h0]
    obtain ⟨h1, h2⟩ := ratS_ok h0
    have h := rSign_q w h2
    rw [← h1] at h
    exact h
  · unfold sE
    rw [if_neg h0]
    exact rSign_err1 w hs rfl h0

theorem eS_is (s : ByteArray) : eS s = if rchk s ≠ 0 then rchk s else if sE s < 0 then 2 else 0 := by
  unfold eS sE
  by_cases h0 : rchk s = 0
  · rw [if_pos h0]
  · rw [if_pos h0, if_pos h0]
set_option maxHeartbeats 1600000 in
set_option maxRecDepth 100000 in
theorem cnn_any (s : ByteArray) (hs : s.size ≤ 1000000) (w : World) (hm : ML w) :
    Calls Tryz.prog 80 #[.string s] w fun e w' => e = .returned (.int .i64 ((eS s : Nat) : Int)) ∧ Below w.heap.size w w' := by
  have HS := Lib.hid (Sign_any s hs w hm)
  have HE := Lib.hid (eS_is s)
  generalize eS s = c at *
  generalize sE s = x at *
  clear hm hs
  by_cases h0 : rchk s = 0
  · rw [h0] at HE HS
    simp only [ne_eq, not_true_eq_false, if_false] at HE
    by_cases hx : x < 0
    · rw [if_pos hx] at HE
      obtain rfl := HE.out
      go_enter Tryz.func80, Tryz.ntmps80
      go_wp2_with fail
      refine HS.out.mono ?_
      rintro e w1 ⟨rfl, hb⟩
      have HB := Lib.hid hb
      clear hb HS
      go_wp2_with fail
      go_ret
      exact ⟨rfl, HB.out⟩
    · rw [if_neg hx] at HE
      obtain rfl := HE.out
      go_enter Tryz.func80, Tryz.ntmps80
      go_wp2_with fail
      refine HS.out.mono ?_
      rintro e w1 ⟨rfl, hb⟩
      have HB := Lib.hid hb
      clear hb HS
      go_wp2_with fail
      go_ret
      exact ⟨rfl, HB.out⟩
  · have hz := errneZ h0
    rw [if_pos h0] at HE
    obtain rfl := HE.out
    generalize rchk s = d at *
    clear h0 HE
    go_enter Tryz.func80, Tryz.ntmps80
    go_wp2_with fail
    refine HS.out.mono ?_
    rintro e w1 ⟨rfl, hb⟩
    have HB := Lib.hid hb
    clear hb HS
    go_wp2_with fail
    go_ret
    exact ⟨rfl, HB.out⟩

theorem Ch.at {S : Nat → Prop} {w w' : World} (h : Ch S w w') {a : Addr} (hl : a.block < w.heap.size) (hb : ¬ S a.block) : w'.cell? a = w.cell? a := by
  unfold World.cell?
  rw [h.block _ hl hb]
theorem MR.ch {S : Nat → Prop} {w w' : World} {ao : Option Addr} {N : Nat} {L : List MI} (h : MR w ao N L) (hc : Ch S w w') (hS : ∀ a, ao = some a → N ≠ 0 → ¬ S a.block) : MR w' ao N L := by
  refine ⟨h.1, ?_⟩
  rcases h.2 with h2 | ⟨a, h1, h2, h3⟩
  · exact .inl h2
  · by_cases h0 : N = 0
    · exact .inl h0
    have hb := hS a h1 h0
    exact .inr ⟨a, h1, Nat.lt_of_lt_of_le h2 hc.size, fun j x hx => ⟨(hc.at (a := a.add (j * 2)) (by rw [addZ_block]; exact h2) (by rw [addZ_block]; exact hb)).trans (h3 j x hx).1, (hc.at (a := ⟨(a.add (j * 2)).block, (a.add (j * 2)).off + 1, none⟩) (by show (a.add (j * 2)).block < _; rw [addZ_block]; exact h2) (by show ¬ S (a.add (j * 2)).block; rw [addZ_block]; exact hb)).trans (h3 j x hx).2⟩⟩

set_option maxHeartbeats 3200000 in
set_option maxRecDepth 100000 in
/-- fold: a run that stops at the first error. -/
theorem fold_num {α : Type} {g : Nat} {lb : Array Value} (eg : ∀ args w, (callFunc g args).run Tryz.prog w = .ok (.enter g args) w) {f : Nat → α → Option α} {L : List MI} {N cap : Nat} {ao : Option Addr} {s0 : α} {v0 : Value} {w : World} (S : Nat → Prop) (St : Nat → α → Value → World → Prop)
    (hr : MR w ao N L) (hN : N ≤ 1000000) (hS : ∀ a, ao = some a → N ≠ 0 → ¬ S a.block) (h0 : St 0 s0 v0 w)
    (hSt : ∀ k s v W W', St k s v W → Below W.heap.size W W' → St k s v W')
    (hOk : ∀ k s t x v W, k < N → L[k]? = some x → runO f s0 k = some s → f k s = some t → Ch S w W → St k s v W → Calls Tryz.prog g (#[v, .agg #[.string x.1, .string x.2]] ++ lb) W fun e w' => ∃ v', e = .returned (.tuple #[v', .int .i64 0]) ∧ St (k + 1) t v' w' ∧ Ch S W w')
    (hNo : ∀ k s x v W, k < N → L[k]? = some x → runO f s0 k = some s → f k s = none → Ch S w W → St k s v W → Calls Tryz.prog g (#[v, .agg #[.string x.1, .string x.2]] ++ lb) W fun e w' => ∃ v', e = .returned (.tuple #[v', .int .i64 5]) ∧ Ch S W w') :
    Calls Tryz.prog 82 #[.slice ao N cap, v0, .func (.func g) #[] lb] w fun e w' => (∀ s, runO f s0 N = some s → ∃ v, e = .returned (.tuple #[v, .int .i64 0]) ∧ St N s v w') ∧ (runO f s0 N = none → e = .returned (.tuple #[.string ⟨#[]⟩, .int .i64 5])) ∧ Ch S w w' := by
  have HR := Lib.hid (fun W (h : Ch S w W) => hr.ch h hS)
  have HST := Lib.hid hSt
  have HOK := Lib.hid hOk
  have HNO := Lib.hid hNo
  have H0 := Lib.hid h0
  clear hOk hNo hr hSt h0
  go_enter Tryz.func82, Tryz.ntmps82
  go_wp2_with fail
  go_loopw [1, 15] (fun vv iv wr => ∃ (k : Nat) (s : α), k ≤ N ∧ iv = .int .i64 (k : Int) ∧ Hid (runO f s0 k = some s) ∧ Hid (St k s vv wr) ∧ Ch S w wr) (fun _ iv _ => N - (intOf iv).toNat)
  case atStart => exact ⟨0, s0, Nat.zero_le _, rfl, Lib.hid rfl, H0, Ch.refl _ _⟩
  case round =>
    obtain ⟨k, s, hk, rfl, HRUN, HSV, hc⟩ := hrel
    by_cases hlt : k < N
    · obtain ⟨a, x, rfl, hx, _, c0, c1⟩ := (HR.out _ hc).at hlt
      have hb0 := (Below.refl wr.heap.size wr).alloc (Nat.le_refl _) (.cells #[.string x.1, .string x.2] 29)
      have HC := Lib.hid (hc.trans (Ch.below hb0))
      have HX := Lib.hid (And.intro hx (HST.out _ _ _ _ _ HSV.out hb0))
      clear hc hb0 hx HR HST HSV
      obtain ⟨x1, x2⟩ := x
      cases hf : f k s with
      | none =>
        have HFK := Lib.hid (HNO.out k s (x1, x2) u1 _ hlt HX.out.1 HRUN.out hf HC.out HX.out.2)
        have HT := Lib.hid (runO_fail HRUN.out hf hlt)
        clear hf HNO HOK HX HRUN
        go_wp2_with (go_at_fn g; refine HFK.out.mono ?_; rintro e w2 ⟨v', rfl, hc⟩)
        go_ret2
        exact ⟨fun s h => (by rw [HT.out] at h; cases h), fun _ => rfl, HC.out.trans hc⟩
      | some t =>
        have HFK := Lib.hid (HOK.out k s t (x1, x2) u1 _ hlt HX.out.1 HRUN.out hf HC.out HX.out.2)
        have HT := Lib.hid (show runO f s0 (k + 1) = some t by rw [runO_step HRUN.out, hf])
        clear hf HNO HOK HX HRUN
        go_wp2_with (go_at_fn g; refine HFK.out.mono ?_; rintro e w2 ⟨v', rfl, hst, hc⟩; have HSV := Lib.hid hst; clear hst)
        go_roundw
        case rel => exact ⟨k + 1, t, by omega, by go_num, HT, HSV, HC.out.trans hc⟩
        case measure => simp [intOf]; omega
    · obtain rfl : k = N := by omega
      have HC := Lib.hid hc
      clear hc HR HOK HNO HST
      go_wp2_with fail
      go_ret2
      exact ⟨fun s' h => ⟨_, rfl, (by rw [HRUN.out] at h; cases h; exact HSV.out)⟩, fun h => (by rw [HRUN.out] at h; cases h), HC.out⟩

/-- fold to a number. -/
theorem foldN_any {g : Nat} {lb : Array Value} (eg : ∀ args w, (callFunc g args).run Tryz.prog w = .ok (.enter g args) w) {f : Nat → Rat → Option Rat} {L : List MI} {N cap : Nat} {ao : Option Addr} {s0 : Rat} {w : World} (hr : MR w ao N L) (hN : N ≤ 1000000)
    (hF : ∀ k s x W, k < N → L[k]? = some x → runO f s0 k = some s → Below w.heap.size w W → Calls Tryz.prog g (#[.string (qstr s), .agg #[.string x.1, .string x.2]] ++ lb) W (PR (oQ (f k s)) W)) :
    Calls Tryz.prog 82 #[.slice ao N cap, .string (qstr s0), .func (.func g) #[] lb] w (PR (oQ (runO f s0 N)) w) := by
  refine (fold_num eg (f := f) (fun _ => False) (fun _ s v _ => v = .string (qstr s)) hr hN (fun _ _ _ h => h) rfl (fun _ _ _ _ _ h _ => h)
    (fun k s t x v W hk hx h1 h2 hc hv => ?_) (fun k s x v W hk hx h1 h2 hc hv => ?_)).mono ?_
  · subst hv
    have h := hF k s x W hk hx h1 (hc.to_below (Nat.le_refl _) (fun _ h => h.elim))
    rw [h2] at h
    exact h.mono fun e w' ⟨he, hb⟩ => ⟨_, he, rfl, Ch.below hb⟩
  · subst hv
    have h := hF k s x W hk hx h1 (hc.to_below (Nat.le_refl _) (fun _ h => h.elim))
    rw [h2] at h
    exact h.mono fun e w' ⟨he, hb⟩ => ⟨_, he, Ch.below hb⟩
  · rintro e w' ⟨h1, h2, hc⟩
    refine ⟨?_, hc.to_below (Nat.le_refl _) (fun _ h => h.elim)⟩
    cases hr : runO f s0 N with
    | none => exact h2 hr
    | some s =>
      obtain ⟨v, he, rfl⟩ := h1 s hr
      exact he

end Go.Proofs.YtofanopnibbaeaaGreatDoor
