/-
  marks.in and its closure; all; demand and its closure; firstError.
-/
import Derived.Test.YtgehldadfaonbaaDoorSH
namespace Go.Proofs.YtgehldadfaonbaaDoor
open Go.RowKit Go.Shelf Go.ChangeMaps Go.Maps

/-- What marks.in returns. -/
abbrev inV (b : Nat) : Value := .func (.func 71) #[] #[.pointer (some ⟨b + 1, 0, none⟩), .pointer (some ⟨b, 0, none⟩)]
/-- A closure of marks.in lies in memory. -/
def InAt (W : World) (b mb : Nat) (c : ByteArray) : Prop := Boxed W b 61 (.map (some mb)) ∧ Boxed W (b + 1) 9 (.string c)
theorem InAt.ch {S : Nat → Prop} {w w' : World} {b mb : Nat} {c : ByteArray} (h : InAt w b mb c) (hc : Ch S w w') (h1 : ¬ S b) (h2 : ¬ S (b + 1)) : InAt w' b mb c := ⟨hc.boxed h1 h.1, hc.boxed h2 h.2⟩
theorem in_any (w : World) (mb : Nat) (c : ByteArray) :
    Calls Tryd.prog 45 #[.map (some mb), .string c] w fun e w' => e = .returned (inV w.heap.size) ∧ InAt w' w.heap.size mb c ∧ Below w.heap.size w w' ∧ w'.heap.size = w.heap.size + 2 := by
  have h1 : InAt ((w.alloc (.cells #[.map (some mb)] 61)).alloc (.cells #[.string c] 9)) w.heap.size mb c :=
    ⟨(Boxed.new w 61 (.map (some mb))).alloc _, by have := Boxed.new (w.alloc (.cells #[.map (some mb)] 61)) 9 (.string c); rwa [World.size_alloc] at this⟩
  have h2 : Below w.heap.size w ((w.alloc (.cells #[.map (some mb)] 61)).alloc (.cells #[.string c] 9)) := ((Below.refl _ _).alloc (Nat.le_refl _) _).alloc (by simp) _
  have H := Lib.hid (And.intro h1 (And.intro h2 (show ((w.alloc (.cells #[.map (some mb)] 61)).alloc (.cells #[.string c] 9)).heap.size = w.heap.size + 2 by simp)))
  clear h1 h2
  go_enter Tryd.func45, Tryd.ntmps45
  go_wp2
  go_ret
  exact ⟨rfl, H.out⟩

theorem enters_in : ∀ args w, (callFunc 71 args).run Tryd.prog w = .ok (.enter 71 args) w := enters_of Tryd.func71 (by kernel_rfl) rfl

set_option maxHeartbeats 1600000 in
/-- The closure of marks.in: true for a word that it has not seen, which it then has seen. -/
theorem in1_any {w : World} {b mb n : Nat} {c x : ByteArray} {S : ByteArray → ByteArray → Bool} (hi : InAt w b mb c) (hm : Marks w mb n S) (hc : c.size ≤ maxLen) (hx : x.size ≤ maxLen) (hn : n < maxLen) :
    Calls Tryd.prog 71 #[.string x, .pointer (some ⟨b + 1, 0, none⟩), .pointer (some ⟨b, 0, none⟩)] w fun e w' => e = .returned (.bool (!S c x)) ∧ Marks w' mb (n + 1) (putS S c x) ∧ Ch (fun j => j = mb) w w' := by
  have d0 := hi.1.cell
  have d1 := hi.2.cell
  obtain ⟨W, hW⟩ : ∃ W, W = w.alloc (.cells #[.string c, .string x] 91) := ⟨_, rfl⟩
  have hch : Ch (fun j => j = mb) w W := by rw [hW]; exact Ch.alloc _ _ _
  have hmW : Marks W mb n S := by rw [hW]; exact hm.ch (Ch.alloc (fun _ => False) _ _) (fun h => h)
  have e0 : W.cell? ⟨b, 0, none⟩ = some (.map (some mb)) := hch.cell (fun e => by
    have h1 := hi.1
    obtain ⟨D, ⟨es, clock, hb, _⟩, _⟩ := hm
    have e' : b = mb := e
    rw [← e'] at hb
    unfold Boxed at h1
    rw [h1] at hb
    injection hb with hb
    cases hb) hi.1.cell
  have m0 : W.cell? ⟨w.heap.size, 0, none⟩ = some (.string c) := by rw [hW]; simp [World.cell?_alloc_new]
  have m1 : W.cell? ⟨w.heap.size, 1, none⟩ = some (.string x) := by rw [hW]; simp [World.cell?_alloc_new]
  have hl := hmW.look hc hx
  cases hs : S c x with
  | true =>
    rw [hs] at hl
    have HP := Lib.hid (show Marks W mb (n + 1) (putS S c x) from (hmW.congr (fun c' x' => by
      unfold putS
      by_cases e : c' = c ∧ x' = x
      · rw [e.1, e.2, hs]; rfl
      · have : (decide (c' = c) && decide (x' = x)) = false := by
          rw [Bool.and_eq_false_iff, decide_eq_false_iff_not, decide_eq_false_iff_not]
          by_cases h1 : c' = c
          · exact .inr (fun h2 => e ⟨h1, h2⟩)
          · exact .inl h1
        rw [this, Bool.or_false])).mono (by omega))
    have HC := Lib.hid hch
    clear hm hmW hch hs hi
    subst hW
    go_enter Tryd.func71, Tryd.ntmps71
    go_wp2
    go_ret
    exact ⟨rfl, HP.out, HC.out⟩
  | false =>
    rw [hs] at hl
    obtain ⟨W2, hup, hm2, hc2⟩ := hmW.put hc hx hn
    have HP := Lib.hid hm2
    have HC := Lib.hid (hch.trans hc2)
    clear hm hmW hch hs hi hm2 hc2
    subst hW
    go_enter Tryd.func71, Tryd.ntmps71
    go_wp2
    go_ret
    exact ⟨rfl, HP.out, HC.out⟩

set_option maxHeartbeats 1600000 in
/-- all: whether a condition holds for each word; J: what holds ahead of word k; R: behind a word for which it does not. -/
theorem all_any {a : Option Addr} {l : List ByteArray} {c : Nat} {w : World} {g : Nat} {cb : Array Value} (J : Nat → World → Prop) (R : World → Prop) (b1 : l.length ≤ 9223372036854775807)
    (eg : ∀ args w, (callFunc g args).run Tryd.prog w = .ok (.enter g args) w) (hTL : ∀ k W, J k W → TL W a l)
    (hg : ∀ k W, k < l.length → J k W → Calls Tryd.prog g (#[.string (l.getD k ByteArray.empty)] ++ cb) W fun e W' => ∃ b, e = .returned (.bool b) ∧ (b = true → J (k + 1) W') ∧ (b = false → R W')) (h0 : J 0 w) :
    Calls Tryd.prog 86 #[.slice a l.length c, .func (.func g) #[] cb] w fun e w' => ∃ b, e = .returned (.bool b) ∧ (b = true → J l.length w') ∧ (b = false → R w') := by
  have HT := Lib.hid hTL
  have HG := Lib.hid hg
  have H0 := Lib.hid h0
  obtain ⟨N, hN⟩ : ∃ N, N = l.length := ⟨_, rfl⟩
  rw [← hN]
  rw [← hN] at b1
  have H1 := Lib.hid hN
  clear hTL hg h0 hN
  go_enter Tryd.func86, Tryd.ntmps86
  go_wp2_with fail
  go_loopw [6, 9] (fun _ i wr => ∃ k : Nat, k ≤ N ∧ i = .int .i64 (k : Int) ∧ Hid (J k wr)) (fun _ i _ => N - (intOf i).toNat)
  case atStart => exact ⟨0, Nat.zero_le _, rfl, H0.out⟩
  case round =>
    obtain ⟨k, hk, rfl, HJ⟩ := hrel
    by_cases hlt : k < N
    · obtain ⟨ad, ea, ha, d1⟩ := (HT.out k wr HJ.out).at (j := k) (by rw [← H1.out]; exact hlt)
      subst ea
      have HC := Lib.hid (HG.out k wr (by rw [← H1.out]; exact hlt) HJ.out)
      obtain ⟨s, hs⟩ : ∃ s, s = l.getD k ByteArray.empty := ⟨_, rfl⟩
      rw [← hs] at d1 HC
      clear hs ha
      go_wp2_with fail
      refine HC.out.mono ?_
      rintro e w1 ⟨b, rfl, hy, hn⟩
      cases b with
      | true =>
        have HY := Lib.hid (hy rfl)
        clear hy hn HC HJ
        go_wp2_with fail
        go_roundw
        case rel => exact ⟨k + 1, by omega, by go_num, HY.out⟩
        case measure => simp [intOf]; omega
      | false =>
        have HY := Lib.hid (hn rfl)
        clear hy hn HC HJ
        go_wp2_with fail
        go_ret
        exact ⟨false, rfl, (fun h => by cases h), fun _ => HY.out⟩
    · obtain rfl : N = k := by omega
      go_wp2_with fail
      go_ret
      exact ⟨true, rfl, fun _ => HJ.out, fun h => by cases h⟩

/-- A check that demands that g holds, and finds e otherwise. -/
def ChkAt (W : World) (v : Value) (e : Int) (g : Nat) (cb : Array Value) : Prop :=
  ∃ b, v = .func (.func 83) #[] #[.pointer (some ⟨b + 1, 0, none⟩), .pointer (some ⟨b, 0, none⟩)] ∧ Boxed W b 28 (.int .i64 e) ∧ Boxed W (b + 1) 26 (.func (.func g) #[] cb)
theorem ChkAt.below {w w' : World} {v : Value} {e : Int} {g : Nat} {cb : Array Value} (h : ChkAt w v e g cb) (hb : Below w.heap.size w w') : ChkAt w' v e g cb := by
  obtain ⟨b, rfl, h1, h2⟩ := h
  exact ⟨b, rfl, (Ch.below (S := fun _ => False) hb).boxed (fun h => h) h1, (Ch.below (S := fun _ => False) hb).boxed (fun h => h) h2⟩
theorem ChkAt.ch {S : Nat → Prop} {w w' : World} {v : Value} {e : Int} {g : Nat} {cb : Array Value} (h : ChkAt w v e g cb) (hc : Ch S w w') (hs : ∀ b t u, Boxed w b t u → ¬ S b) : ChkAt w' v e g cb := by
  obtain ⟨b, rfl, h1, h2⟩ := h
  exact ⟨b, rfl, hc.boxed (hs _ _ _ h1) h1, hc.boxed (hs _ _ _ h2) h2⟩
theorem demand_any (e : Int) (g : Nat) (cb : Array Value) (w : World) :
    Calls Tryd.prog 61 #[.int .i64 e, .func (.func g) #[] cb] w fun r w' => ∃ v, r = .returned v ∧ ChkAt w' v e g cb ∧ Below w.heap.size w w' := by
  obtain ⟨V, hV⟩ : ∃ V, V = w.alloc (.cells #[.int .i64 e] 28) := ⟨_, rfl⟩
  have sV : V.heap.size = w.heap.size + 1 := by rw [hV]; simp
  have h1 : Boxed V w.heap.size 28 (.int .i64 e) := by rw [hV]; exact Boxed.new w _ _
  have h2 := Boxed.new V 26 (.func (.func g) #[] cb)
  rw [sV] at h2
  have H := Lib.hid (show ChkAt (V.alloc (.cells #[.func (.func g) #[] cb] 26)) (.func (.func 83) #[] #[.pointer (some ⟨w.heap.size + 1, 0, none⟩), .pointer (some ⟨w.heap.size, 0, none⟩)]) e g cb from ⟨_, rfl, h1.alloc _, h2⟩)
  have HB := Lib.hid (show Below w.heap.size w (V.alloc (.cells #[.func (.func g) #[] cb] 26)) from by rw [hV]; exact ((Below.refl _ _).alloc (Nat.le_refl _) _).alloc (by simp) _)
  clear h1 h2 sV
  subst hV
  go_enter Tryd.func61, Tryd.ntmps61
  go_wp2
  go_ret
  exact ⟨_, rfl, H.out, HB.out⟩
theorem enters_dem : ∀ args w, (callFunc 83 args).run Tryd.prog w = .ok (.enter 83 args) w := enters_of Tryd.func83 (by kernel_rfl) rfl

/-- A check is made: J: what holds behind a condition that holds; R: behind one that does not. -/
theorem check_any {w : World} {v : Value} {n : Int} {g : Nat} {cb : Array Value} {J R : World → Prop} (h : ChkAt w v n g cb) (eg : ∀ args w, (callFunc g args).run Tryd.prog w = .ok (.enter g args) w)
    (hg : Calls Tryd.prog g cb w fun e W' => ∃ b, e = .returned (.bool b) ∧ (∀ i t u, Boxed w i t u → Boxed W' i t u) ∧ (b = true → J W') ∧ (b = false → R W')) :
    ∃ cap, v = .func (.func 83) #[] cap ∧ Calls Tryd.prog 83 cap w fun e w' => ∃ r, e = .returned (.int .i64 r) ∧ (r = 0 ∧ J w' ∨ r = n ∧ R w') := by
  obtain ⟨b, rfl, h1, h2⟩ := h
  refine ⟨_, rfl, ?_⟩
  have c2 := h2.cell
  have H1 := Lib.hid h1
  have HG := Lib.hid hg
  clear h1 h2 hg
  go_enter Tryd.func83, Tryd.ntmps83
  go_wp2_with fail
  refine HG.out.mono ?_
  rintro e w1 ⟨x, rfl, hk, hy, hn⟩
  cases x with
  | true =>
    have HY := Lib.hid (hy rfl)
    clear hy hn HG hk c2
    go_wp2
    go_ret
    exact ⟨0, rfl, .inl ⟨rfl, HY.out⟩⟩
  | false =>
    have HY := Lib.hid (hn rfl)
    have c1 := (hk _ _ _ H1.out).cell
    clear hy hn HG hk c2
    go_wp2
    go_ret
    exact ⟨n, rfl, .inr ⟨rfl, HY.out⟩⟩

set_option maxHeartbeats 1600000 in
/-- firstError: J: what holds ahead of check k; R: behind a check that has found an error. -/
theorem first_any {b N c : Nat} {w : World} (J : Nat → World → Prop) (R : Int → World → Prop) (hN : N ≤ 1000)
    (hstep : ∀ k W, k < N → J k W → ∃ cap, W.cell? ⟨b, k, none⟩ = some (.func (.func 83) #[] cap) ∧
      Calls Tryd.prog 83 cap W fun e W' => ∃ r, e = .returned (.int .i64 r) ∧ (r = 0 → J (k + 1) W') ∧ (r ≠ 0 → R r W')) (h0 : J 0 w) :
    Calls Tryd.prog 39 #[.slice (some ⟨b, 0, none⟩) N c] w fun e w' => ∃ r, e = .returned (.int .i64 r) ∧ (r = 0 → J N w') ∧ (r ≠ 0 → R r w') := by
  have HS := Lib.hid hstep
  have H0 := Lib.hid h0
  have eg := enters_dem
  clear hstep h0
  go_enter Tryd.func39, Tryd.ntmps39
  go_wp2_with fail
  go_loopw [4, 5, 8] (fun _ _ i wr => ∃ k : Nat, k ≤ N ∧ i = .int .i64 (k : Int) ∧ Hid (J k wr)) (fun _ _ i _ => N - (intOf i).toNat)
  case atStart => exact ⟨0, Nat.zero_le _, rfl, H0.out⟩
  case round =>
    obtain ⟨k, hk, rfl, HJ⟩ := hrel
    by_cases hlt : k < N
    · obtain ⟨cap, d1, hc⟩ := HS.out k wr hlt HJ.out
      have HC := Lib.hid hc
      clear hc
      go_wp2_with fail
      refine HC.out.mono ?_
      rintro e w1 ⟨r, rfl, hy, hn⟩
      by_cases hr : r = 0
      · have HY := Lib.hid (hy hr)
        have hq : (r != 0) = false := by rw [hr]; rfl
        clear hy hn HC HJ hr d1
        go_wp2_with fail
        go_roundw
        case rel => exact ⟨k + 1, by omega, by go_num, HY.out⟩
        case measure => simp [intOf]; omega
      · have HY := Lib.hid (And.intro hr (hn hr))
        have hq : (r != 0) = true := by rw [bne_iff_ne]; exact hr
        clear hy hn HC HJ hr d1
        go_wp2_with fail
        go_ret
        exact ⟨r, rfl, (fun h => absurd h HY.out.1), fun _ => HY.out.2⟩
    · obtain rfl : N = k := by omega
      go_wp2_with fail
      go_ret
      exact ⟨0, rfl, fun _ => HJ.out, fun h => absurd rfl h⟩

end Go.Proofs.YtgehldadfaonbaaDoor
