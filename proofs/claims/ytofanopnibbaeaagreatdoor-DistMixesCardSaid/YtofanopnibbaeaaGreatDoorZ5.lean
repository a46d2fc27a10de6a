/-
  Package dist: masses by their keys; collect.
-/
import Derived.Test.YtofanopnibbaeaaGreatDoorZ4
import Derived.Test.YtofanopnibbaeaaGreatDoorIter
import Derived.Test.YtofanopnibbaeaaGreatDoorHH
namespace Go.Proofs.YtofanopnibbaeaaGreatDoor
open Go.RowKit NV Go.Maps Go.Sort Go.Shelf
open Go.Lib (decDigits)

abbrev QI := ByteArray × Rat
abbrev kQ (x : QI) : List UInt8 := x.1.data.toList
/-- Masses as texts. -/
def tZ (S : List QI) : List MI := S.map fun x => (x.1, qstr x.2)
def lookQ (k : List UInt8) : List QI → Rat
  | [] => 0
  | x :: L => if kQ x = k then x.2 else lookQ k L
def setQ (k : ByteArray) (r : Rat) : List QI → List QI
  | [] => [(k, r)]
  | y :: S => if k.data.toList < kQ y then (k, r) :: y :: S else if k.data.toList = kQ y then (k, r) :: S else y :: setQ k r S
theorem q0Z : qstr 0 = ⟨#[48]⟩ := by
  have h : qstr 0 = dstr 0 := by
    show rstr false 0 1 = _
    rw [rstr_eq, if_pos rfl]; rfl
  rw [h, digit_str (by omega)]; rfl
theorem val_look (k : List UInt8) : ∀ S : List QI, valZ k (tZ S) = qstr (lookQ k S)
  | [] => q0Z.symm
  | x :: S => by
    show (if kQ x = k then qstr x.2 else valZ k (tZ S)) = qstr (if kQ x = k then x.2 else lookQ k S)
    by_cases h : kQ x = k
    · rw [if_pos h, if_pos h]
    · rw [if_neg h, if_neg h, val_look k S]
theorem set_t (k : ByteArray) (r : Rat) : ∀ S : List QI, setZ k (qstr r) (tZ S) = tZ (setQ k r S)
  | [] => rfl
  | y :: S => by
    show (if k.data.toList < kQ y then (k, qstr r) :: (y.1, qstr y.2) :: tZ S else if k.data.toList = kQ y then (k, qstr r) :: tZ S else (y.1, qstr y.2) :: setZ k (qstr r) (tZ S)) = tZ (setQ k r (y :: S))
    unfold setQ
    by_cases h1 : k.data.toList < kQ y
    · rw [if_pos h1, if_pos h1]; rfl
    · rw [if_neg h1, if_neg h1]
      by_cases h2 : k.data.toList = kQ y
      · rw [if_pos h2, if_pos h2]; rfl
      · rw [if_neg h2, if_neg h2, set_t k r S]; rfl
abbrev SrtQ (S : List QI) : Prop := S.Pairwise (fun a b => kQ a < kQ b)
theorem srt_t {S : List QI} : SrtZ (tZ S) ↔ SrtQ S := by
  unfold tZ
  show List.Pairwise _ _ ↔ List.Pairwise _ _
  rw [List.pairwise_map]
/-- Collecting one mass more. -/
def colS (L : List MI) (k : Nat) (S : List QI) : Option (List QI) :=
  (okQ (lookQ (kZ (getZ L k)) S + qZ L k)).map fun r => setQ (getZ L k).1 r S
def colO (L : List MI) : Option (List QI) := runO (colS L) [] L.length
def outQ (S : List QI) : List QI := S.filter fun x => decide (x.2 ≠ 0)
theorem setQ_mem {k : ByteArray} {r : Rat} : ∀ {S : List QI} {x : QI}, x ∈ setQ k r S → x = (k, r) ∨ x ∈ S
  | [], x, h => .inl (by simpa [setQ] using h)
  | y :: S, x, h => by
    unfold setQ at h
    split at h
    · rcases List.mem_cons.1 h with h | h
      · exact .inl h
      · exact .inr h
    · split at h
      · rcases List.mem_cons.1 h with h | h
        · exact .inl h
        · exact .inr (List.mem_cons_of_mem _ h)
      · rcases List.mem_cons.1 h with rfl | h
        · exact .inr (List.mem_cons_self ..)
        · rcases setQ_mem h with h | h
          · exact .inl h
          · exact .inr (List.mem_cons_of_mem _ h)
theorem setQ_srt {k : ByteArray} {r : Rat} {S : List QI} (h : SrtQ S) : SrtQ (setQ k r S) := by
  rw [← srt_t, ← set_t]
  exact set_srt (srt_t.2 h)
theorem setQ_len (k : ByteArray) (r : Rat) (S : List QI) : (setQ k r S).length ≤ S.length + 1 := by
  have h := set_len k (qstr r) (tZ S)
  rw [set_t] at h
  unfold tZ at h
  rwa [List.length_map, List.length_map] at h
theorem lookQ_in {k : List UInt8} : ∀ {S : List QI}, lookQ k S = 0 ∨ ∃ x, x ∈ S ∧ kQ x = k ∧ lookQ k S = x.2
  | [] => .inl rfl
  | y :: S => by
    unfold lookQ
    by_cases h : kQ y = k
    · rw [if_pos h]; exact .inr ⟨y, List.mem_cons_self .., h, rfl⟩
    · rw [if_neg h]
      rcases lookQ_in (k := k) (S := S) with h2 | ⟨x, h2, h3, h4⟩
      · exact .inl h2
      · exact .inr ⟨x, List.mem_cons_of_mem _ h2, h3, h4⟩
theorem qok_0 : QOk 0 := small_qok (by decide) (by decide)
/-- What holds of a list of masses while it is collected. -/
structure ColI (L : List MI) (k : Nat) (S : List QI) : Prop where
  srt : SrtQ S
  len : S.length ≤ k
  ok : ∀ x, x ∈ S → QOk x.2
  key : ∀ x, x ∈ S → ∃ y, y ∈ L ∧ x.1 = y.1
theorem ColI.nil (L : List MI) : ColI L 0 [] := ⟨List.Pairwise.nil, Nat.le_refl _, fun x h => by simp at h, fun x h => by simp at h⟩
theorem ColI.step {L : List MI} {k : Nat} {S S' : List QI} (h : ColI L k S) (hk : k < L.length) (hs : colS L k S = some S') : ColI L (k + 1) S' := by
  unfold colS at hs
  cases ho : okQ (lookQ (kZ (getZ L k)) S + qZ L k) with
  | none => rw [ho] at hs; cases hs
  | some r =>
    rw [ho] at hs
    obtain rfl : setQ (getZ L k).1 r S = S' := by simpa using hs
    obtain ⟨e, hok⟩ := okQ_some ho
    refine ⟨setQ_srt h.srt, Nat.le_trans (setQ_len ..) (Nat.succ_le_succ h.len), fun x hx => ?_, fun x hx => ?_⟩
    · rcases setQ_mem hx with rfl | hx
      · show QOk r; rw [← e]; exact hok
      · exact h.ok x hx
    · rcases setQ_mem hx with rfl | hx
      · refine ⟨getZ L k, ?_, rfl⟩
        have : L[k]? = some (L[k]'hk) := List.getElem?_eq_getElem hk
        rw [getZ_of this]
        exact List.getElem_mem hk
      · exact h.key x hx
theorem ColI.run {L : List MI} : ∀ {k : Nat} {S : List QI}, k ≤ L.length → runO (colS L) [] k = some S → ColI L k S
  | 0, S, _, h => by obtain rfl : [] = S := Option.some.inj h; exact ColI.nil L
  | k + 1, S, hk, h => by
    obtain ⟨s, hs⟩ := runO_some h k (by omega)
    rw [runO_step hs] at h
    exact (ColI.run (k := k) (by omega) hs).step (by omega) h

set_option maxHeartbeats 1600000 in
theorem of_any {b n : Nat} {S : List MI} {k : ByteArray} {w : World} (h : MapZ w b n S) (hk : k.size ≤ 1000000) :
    Calls Tryz.prog 85 #[.map (some b), .string k] w fun e w' => e = .returned (.string (valZ k.data.toList S)) ∧ w = w' := by
  obtain ⟨s, hlook, hv⟩ := lookZ_ok h (k := k) (Nat.le_trans hk (by unfold maxLen; omega))
  have HN := Lib.hid (fun hh => val_no (k := k.data.toList) (L := S) hh)
  generalize valZ k.data.toList S = v at *
  cases hh : hasZ k.data.toList S with
  | true =>
    obtain rfl := hv hh
    rw [hh] at hlook
    clear h hv hh HN hk
    go_enter Tryz.func85, Tryz.ntmps85
    go_wp2_with fail
    go_ret
    exact ⟨rfl, rfl⟩
  | false =>
    obtain rfl := HN.out hh
    rw [hh] at hlook
    clear h hv hh HN hk
    go_enter Tryz.func85, Tryz.ntmps85
    go_wp2_with fail
    go_ret
    exact ⟨rfl, rfl⟩

set_option maxHeartbeats 3200000 in
set_option maxRecDepth 100000 in
/-- plus takes one mass more into the map. -/
theorem mplus_any {b n : Nat} {S : List MI} {k p : ByteArray} {T : ByteArray × Nat} {w : World} (h : MapZ w b n S) (hs : SrtZ S) (hn : n ≤ 1000000) (hk : k.size ≤ 1000000) (hT : T.1.size ≤ 1000000)
    (hA : ∀ W, Below w.heap.size w W → Calls Tryz.prog 86 #[.string (valZ k.data.toList S), .string p] W (PR T W)) :
    Calls Tryz.prog 177 #[.map (some b), .agg #[.string k, .string p]] w fun e w' => e = .returned (.tuple #[.map (some b), .int .i64 (T.2 : Int)]) ∧ MapZ w' b (n + 1) (setZ k T.1 S) ∧ Ch (fun j => j = b) w w' := by
  have HV := Lib.hid (show T.1.size ≤ maxLen from Nat.le_trans hT (by unfold maxLen; omega))
  have HKY := Lib.hid (Go.WideMaps.keyOf_string_mk Tryz.underlying9 (s := k) (Nat.le_trans hk (by unfold maxLen; omega)))
  have HP := Lib.hid (mapZ_put (k := k) (t := T.1) hs)
  have HO := Lib.hid h
  have HOF := Lib.hid (show ∀ W, Below w.heap.size w W → Calls Tryz.prog 85 #[.map (some b), .string k] W fun e w' => e = .returned (.string (valZ k.data.toList S)) ∧ Below W.heap.size W w' from fun W hb => (of_any (k := k) (h.below hb) hk).mono (fun e w' ⟨h1, h2⟩ => ⟨h1, h2 ▸ Below.refl _ _⟩))
  have HA := Lib.hid hA
  obtain ⟨t1, t2⟩ := T
  generalize valZ k.data.toList S = v at *
  have HCB := Lib.hid (show ∀ W, Below (w.alloc (.cells #[.string k, .string p] 29)).heap.size (w.alloc (.cells #[.string k, .string p] 29)) W → W.cell? ⟨w.heap.size, 0, none⟩ = some (.string k) ∧ W.cell? ⟨w.heap.size, 1, none⟩ = some (.string p) from fun W hb =>
    ⟨(hb.cell (p := ⟨w.heap.size, 0, none⟩) (by simp)).trans (by rw [Lib.cell_of_heap (heap_alloc_new w _)]; rfl), (hb.cell (p := ⟨w.heap.size, 1, none⟩) (by simp)).trans (by rw [Lib.cell_of_heap (heap_alloc_new w _)]; rfl)⟩)
  clear h hs hk hT hA
  go_enter Tryz.func177, Tryz.ntmps177
  go_wp2_with fail
  have hb1 := (Below.refl w.heap.size w).alloc (Nat.le_refl _) (.cells #[.string k, .string p] 29)
  generalize w.alloc (.cells #[.string k, .string p] 29) = w1 at *
  have HB := Lib.hid hb1
  have HOF1 := Lib.hid (fun W (h : Below w1.heap.size w1 W) => HOF.out W (HB.out.trans (h.mono HB.out.size)))
  have HA1 := Lib.hid (fun W (h : Below w1.heap.size w1 W) => HA.out W (HB.out.trans (h.mono HB.out.size)))
  clear hb1 HOF HA
  have hD0 := (Below.refl w1.heap.size w1).drew
  go_region_held3 (fun W => W.cell? ⟨w.heap.size, 0, none⟩ = some (.string k) ∧ W.cell? ⟨w.heap.size, 1, none⟩ = some (.string p))
    (first | with_reducible exact HCB.out _ hD0 | with_reducible exact HCB.out _ (by assumption))
    (first
      | (go_at_call 85; refine (lift_0 (w0 := w1) (by assumption) (HOF1.out _ (by assumption))).mono ?_; rintro e u1 ⟨rfl, hb1, hB1⟩)
      | (go_at_call 86; refine (lift_0 (w0 := w1) (by assumption) (HA1.out _ (by assumption))).mono ?_; rintro e u2 ⟨rfl, hb2, hB2⟩))
  have HB2 := Lib.hid (HB.out.trans (hB2.mono HB.out.size))
  have HW := Lib.hid (HO.out.below HB2.out)
  have HCC := Lib.hid (HCB.out _ hB2)
  have c0 := HCC.out.1
  clear hb1 hb2 hB1 hB2 hD0 HCB HOF1 HA1 HO HB
  go_wp2_with (at_mapUpdate; refine wpList_mapUpdate_own _ rfl _ _ _ 97 rfl 9 27 keyedZ Tryz.underlying97 _ b n _ rfl HW.out (by unfold maxLen; omega) _ _ _ rfl rfl HKY.out _ [] (plainElem_string Tryz.underlying27 HV.out) ?_)
  intro w6 hown6 hgrow6
  have HF := Lib.hid (And.intro hown6 ((Ch.below (S := fun j => j = b) HB2.out).trans (Ch.grownZ hgrow6 (fun r hr => by cases hr; rfl))))
  clear hown6 hgrow6
  go_wp2_with fail
  go_ret2
  exact ⟨rfl, by have := HF.out.1; rw [HP.out] at this; exact this, HF.out.2⟩

set_option maxHeartbeats 3200000 in
set_option maxRecDepth 100000 in
/-- fold: a run that stops at the first error. -/
theorem fold_map {α : Type} {g : Nat} {lb : Array Value} (eg : ∀ args w, (callFunc g args).run Tryz.prog w = .ok (.enter g args) w) {f : Nat → α → Option α} {L : List MI} {N cap : Nat} {ao : Option Addr} {s0 : α} {v0 : Value} {w : World} (S : Nat → Prop) (St : Nat → α → Value → World → Prop)
    (hr : MR w ao N L) (hN : N ≤ 1000000) (hS : ∀ a, ao = some a → N ≠ 0 → ¬ S a.block) (h0 : St 0 s0 v0 w)
    (hSt : ∀ k s v W W', St k s v W → Below W.heap.size W W' → St k s v W')
    (hOk : ∀ k s t x v W, k < N → L[k]? = some x → runO f s0 k = some s → f k s = some t → Ch S w W → St k s v W → Calls Tryz.prog g (#[v, .agg #[.string x.1, .string x.2]] ++ lb) W fun e w' => ∃ v', e = .returned (.tuple #[v', .int .i64 0]) ∧ St (k + 1) t v' w' ∧ Ch S W w')
    (hNo : ∀ k s x v W, k < N → L[k]? = some x → runO f s0 k = some s → f k s = none → Ch S w W → St k s v W → Calls Tryz.prog g (#[v, .agg #[.string x.1, .string x.2]] ++ lb) W fun e w' => ∃ v', e = .returned (.tuple #[v', .int .i64 5]) ∧ Ch S W w') :
    Calls Tryz.prog 176 #[.slice ao N cap, v0, .func (.func g) #[] lb] w fun e w' => (∀ s, runO f s0 N = some s → ∃ v, e = .returned (.tuple #[v, .int .i64 0]) ∧ St N s v w') ∧ (runO f s0 N = none → e = .returned (.tuple #[.map none, .int .i64 5])) ∧ Ch S w w' := by
  have HR := Lib.hid (fun W (h : Ch S w W) => hr.ch h hS)
  have HST := Lib.hid hSt
  have HOK := Lib.hid hOk
  have HNO := Lib.hid hNo
  have H0 := Lib.hid h0
  clear hOk hNo hr hSt h0
  go_enter Tryz.func176, Tryz.ntmps176
  go_wp2_with fail
  go_loopw [1, 15] (fun vv iv wr => ∃ (k : Nat) (s : α), k ≤ N ∧ iv = .int .i64 (k : Int) ∧ Hid (runO f s0 k = some s) ∧ Hid (St k s vv wr) ∧ Ch S w wr) (fun _ iv _ => N - (intOf iv).toNat)
  case atStart => exact ⟨0, s0, Nat.zero_le _, rfl, Lib.hid rfl, H0, Ch.refl _ _⟩
  case round =>
    obtain ⟨k, s, hk, rfl, HRUN, HSV, hc⟩ := hrel
    by_cases hlt : k < N
    · obtain ⟨a, x, rfl, hx, _, c0, c1⟩ := (HR.out _ hc).at hlt
      have hb0 := (Below.refl wr.heap.size wr).alloc (Nat.le_refl _) (.cells #[.string x.1, .string x.2] 29)
      have HC := Lib.hid (hc.trans (Ch.below hb0))
      have HX := Lib.hid (And.intro hx (HST.out _ _ _ _ _ HSV.out hb0))
      clear hc hb0 hx HR HST HSV
      obtain ⟨x1, x2⟩ := x
      cases hf : f k s with
      | none =>
        have HFK := Lib.hid (HNO.out k s (x1, x2) u1 _ hlt HX.out.1 HRUN.out hf HC.out HX.out.2)
        have HT := Lib.hid (runO_fail HRUN.out hf hlt)
        clear hf HNO HOK HX HRUN
        go_wp2_with (go_at_fn g; refine HFK.out.mono ?_; rintro e w2 ⟨v', rfl, hc⟩)
        go_ret2
        exact ⟨fun s h => (by rw [HT.out] at h; cases h), fun _ => rfl, HC.out.trans hc⟩
      | some t =>
        have HFK := Lib.hid (HOK.out k s t (x1, x2) u1 _ hlt HX.out.1 HRUN.out hf HC.out HX.out.2)
        have HT := Lib.hid (show runO f s0 (k + 1) = some t by rw [runO_step HRUN.out, hf])
        clear hf HNO HOK HX HRUN
        go_wp2_with (go_at_fn g; refine HFK.out.mono ?_; rintro e w2 ⟨v', rfl, hst, hc⟩; have HSV := Lib.hid hst; clear hst)
        go_roundw
        case rel => exact ⟨k + 1, t, by omega, by go_num, HT, HSV, HC.out.trans hc⟩
        case measure => simp [intOf]; omega
    · obtain rfl : k = N := by omega
      have HC := Lib.hid hc
      clear hc HR HOK HNO HST
      go_wp2_with fail
      go_ret2
      exact ⟨fun s' h => ⟨_, rfl, (by rw [HRUN.out] at h; cases h; exact HSV.out)⟩, fun h => (by rw [HRUN.out] at h; cases h), HC.out⟩

end Go.Proofs.YtofanopnibbaeaaGreatDoor
