/-
  Package dist: byKey, excess, Delta, Distance.
-/
import Derived.Test.YtofanopnibbaeaaGreatDoorZ11
namespace Go.Proofs.YtofanopnibbaeaaGreatDoor
open Go.RowKit NV Go.Maps Go.Sort Go.Shelf
open Go.Lib (decDigits)

theorem srt_of {L : List MI} (h : ∀ k, k + 1 < L.length → kZ (getZ L k) < kZ (getZ L (k + 1))) : SrtZ L := by
  refine List.pairwise_iff_getElem.2 fun i j hi hj hij => ?_
  have key : ∀ d, i + 1 + d < L.length → kZ (getZ L i) < kZ (getZ L (i + 1 + d)) := by
    intro d
    induction d with
    | zero => exact fun hd => h i hd
    | succ d ih => exact fun hd => List.lt_trans (ih (by omega)) (h (i + 1 + d) hd)
  have h2 := key (j - i - 1) (by omega)
  rw [show i + 1 + (j - i - 1) = j by omega, getZ_of (List.getElem?_eq_getElem hi), getZ_of (List.getElem?_eq_getElem hj)] at h2
  exact h2
/-- What Check's OK says. -/
theorem chk_ok {L : List MI} (h : chkZ L = 0) : OKM L ∧ SrtZ L ∧ sumE (qZ L) L.length = 0 ∧ ∀ k, k < L.length → 0 < qZ L k := by
  unfold chkZ at h
  by_cases h0 : fstE (eC L) L.length = 0
  · rw [if_neg (by omega)] at h
    refine ⟨okm_of h0, srt_of fun k hk => ?_, h, fun k hk => ?_⟩
    · have h1 := fstE_all h0 (k + 1) hk
      rcases eC_cases (List.getElem?_eq_getElem hk) with ⟨h2, h3⟩ | ⟨_, _, h3⟩ | ⟨_, _, _, _, h3⟩ | ⟨_, _, h3, _⟩
      · omega
      · omega
      · omega
      · have h4 := h3.resolve_left (by omega)
        rw [Nat.add_sub_cancel] at h4
        rw [getZ_of (List.getElem?_eq_getElem hk)]; exact h4
    · have h1 := fstE_all h0 k hk
      have hx : L[k]? = some L[k] := List.getElem?_eq_getElem hk
      rcases eC_cases hx with ⟨h2, h3⟩ | ⟨_, _, h3⟩ | ⟨_, _, _, _, h3⟩ | ⟨h2, h3, _⟩
      · omega
      · omega
      · omega
      · unfold sE at h3
        rw [if_pos h2] at h3
        unfold qZ
        rw [getZ_of hx]
        have h5 : ¬ cmpQ (ratS L[k].2) 0 ≤ 0 := h3
        rw [cmpQ_le] at h5
        exact Rat.not_le.1 h5
  · rw [if_pos h0] at h; exact absurd h h0
/-- The probability of a key, as a number. -/
def vQ (Q : List MI) (key : List UInt8) : Rat := ratS (valZ key Q)
theorem rat0Z : ratS ⟨#[48]⟩ = 0 := by rw [← q0Z, ratS_q]
theorem vQ_ok {Q : List MI} (h : OKM Q) (key : List UInt8) : valZ key Q = qstr (vQ Q key) ∧ QOk (vQ Q key) := by
  unfold vQ
  cases hh : hasZ key Q with
  | true =>
    obtain ⟨x, hx, _, e⟩ := val_mem hh
    rw [e]; exact ratS_ok (h x hx)
  | false => rw [val_no hh, rat0Z, q0Z]; exact ⟨rfl, qok_0⟩
theorem set_append {S : List MI} {k t : ByteArray} (h : ∀ x, x ∈ S → kZ x < k.data.toList) : setZ k t S = S ++ [(k, t)] := by
  induction S with
  | nil => rfl
  | cons y r ih =>
    have hy := h y (List.mem_cons_self ..)
    unfold setZ
    rw [if_neg (fun e => List.lt_irrefl _ (List.lt_trans hy e)), if_neg (fun e => List.lt_irrefl _ (by rw [← e] at hy; exact hy)), ih (fun x hx => h x (List.mem_cons_of_mem _ hx))]
    rfl
theorem set_take {L : List MI} {k : Nat} {x : MI} (h : SrtZ L) (hx : L[k]? = some x) : setZ x.1 x.2 (L.take k) = L.take (k + 1) := by
  obtain ⟨hk, rfl⟩ := List.getElem?_eq_some_iff.1 hx
  rw [set_append (fun y hy => ?_), List.take_add_one, List.getElem?_eq_getElem hk]; rfl
  obtain ⟨j, hj, rfl⟩ := List.mem_iff_getElem.1 hy
  rw [List.length_take] at hj
  rw [List.getElem_take]
  exact List.pairwise_iff_getElem.1 h j k (by omega) hk (by omega)

set_option maxHeartbeats 3200000 in
set_option maxRecDepth 100000 in
theorem byKey_any {L : List MI} {N cap : Nat} {ao : Option Addr} {w : World} (hr : MR w ao N L) (hN : N ≤ 1000) (hs : SrtZ L) (hl : ML2 L) :
    Calls Tryz.prog 81 #[.slice ao N cap] w fun e w' => e = .returned (.map (some w.heap.size)) ∧ MapZ w' w.heap.size N L ∧ Below w.heap.size w w' := by
  have hmm := @run_makeMap Tryz.prog
  have HR := Lib.hid hr
  have HL := Lib.hid hl
  have HSET := Lib.hid (fun (k : Nat) (x : MI) (hx : L[k]? = some x) => (mapZ_put (k := x.1) (t := x.2) (List.Pairwise.sublist (List.take_sublist k L) hs)).trans (by rw [set_take hs hx]))
  have HTA := Lib.hid (show L.take N = L from List.take_of_length_le (by rw [hr.len]; exact Nat.le_refl _))
  have HM0 := Lib.hid (MapZ.made w)
  have HB0 := Lib.hid ((Below.refl w.heap.size w).alloc (Nat.le_refl _) (.map #[] 0))
  clear hr hl hs
  go_enter Tryz.func81, Tryz.ntmps81
  go_wp2_with fail
  go_loopw [9] (fun iv wr => ∃ k : Nat, k ≤ N ∧ iv = .int .i64 (k : Int) ∧ Hid (MapZ wr w.heap.size k (L.take k)) ∧ Below w.heap.size w wr) (fun iv _ => N - (intOf iv).toNat)
  case atStart => exact ⟨0, Nat.zero_le _, rfl, HM0, HB0.out⟩
  case round =>
    obtain ⟨k, hk, rfl, HMZ, hb⟩ := hrel
    clear HM0
    by_cases hlt : k < N
    · obtain ⟨a, x, rfl, hx, _, c0, c1⟩ := (HR.out.below hb).at hlt
      have hsz := HL.out x (List.mem_of_getElem? hx)
      have HKY := Lib.hid (Go.WideMaps.keyOf_string_mk Tryz.underlying9 (s := x.1) (Nat.le_trans hsz.1 (by unfold maxLen; omega)))
      have HV := Lib.hid (show x.2.size ≤ maxLen from Nat.le_trans hsz.2 (by unfold maxLen; omega))
      have HP := Lib.hid (HSET.out k x hx)
      have hb1 := (Below.refl wr.heap.size wr).alloc (Nat.le_refl _) (.cells #[.string x.1, .string x.2] 29)
      have HB := Lib.hid (hb.trans (hb1.mono hb.size))
      have HW := Lib.hid (HMZ.out.below hb1)
      obtain ⟨x1, x2⟩ := x
      clear hb hb1 hx HSET HL HR HMZ hsz HTA
      go_wp2_with (at_mapUpdate; refine wpList_mapUpdate_own _ rfl _ _ _ 97 rfl 9 27 keyedZ Tryz.underlying97 _ w.heap.size k _ rfl HW.out (by unfold maxLen; omega) _ _ _ rfl rfl HKY.out _ [] (plainElem_string Tryz.underlying27 HV.out) ?_)
      intro w6 hown6 hgrow6
      have HF := Lib.hid (And.intro hown6 (HB.out.grown hgrow6 HB.out.size (fun b hb => by cases hb; exact Nat.le_refl _)))
      clear hown6 hgrow6
      go_wp2_with fail
      go_roundw
      case rel => exact ⟨k + 1, by omega, by go_num, Lib.hid (by have := HF.out.1; rw [HP.out] at this; exact this), HF.out.2⟩
      case measure => simp [intOf]; omega
    · obtain rfl : k = N := by omega
      have HB := Lib.hid hb
      rw [HTA.out] at HMZ
      clear hb HSET HL HR
      go_wp2_with fail
      go_ret
      exact ⟨rfl, HMZ.out, HB.out⟩

/-- What checkBoth says. -/
def bE (P Q : List MI) : Nat := if chkZ P ≠ 0 then chkZ P else chkZ Q
set_option maxHeartbeats 1600000 in
set_option maxRecDepth 100000 in
theorem checkBoth_any {P Q : List MI} {N M c1 c2 : Nat} {a1 a2 : Option Addr} {w : World} (hp : MR w a1 N P) (hq : MR w a2 M Q) (hN : N ≤ 1000) (hM : M ≤ 1000) (hlp : ML2 P) (hlq : ML2 Q) (htab : Tab w) (hm : ML w) :
    Calls Tryz.prog 79 #[.slice a1 N c1, .slice a2 M c2] w fun e w' => e = .returned (.int .i64 ((bE P Q : Nat) : Int)) ∧ Below w.heap.size w w' := by
  have HP := Lib.hid (Check_any (cap := c1) hp (by omega) hlp htab hm)
  have HQ := Lib.hid (fun W (hb : Below w.heap.size w W) => Check_any (cap := c2) (hq.below hb) (by omega) hlq (htab.below hb) (ml_keep hm (ml_pos hm) hb))
  obtain ⟨c, hc⟩ : ∃ c, c = bE P Q := ⟨_, rfl⟩
  rw [← hc]
  unfold bE at hc
  clear hp hq hlp hlq htab hm
  by_cases h0 : chkZ P = 0
  · rw [if_neg (by omega)] at hc
    rw [← hc] at HQ
    rw [h0] at HP
    clear hc h0
    go_enter Tryz.func79, Tryz.ntmps79
    go_wp2_with fail
    refine HP.out.mono ?_
    rintro e w1 ⟨rfl, hb⟩
    have HB := Lib.hid hb
    clear hb HP
    go_wp2_with fail
    refine (HQ.out _ HB.out).mono ?_
    rintro e w2 ⟨rfl, hb⟩
    have HB2 := Lib.hid (HB.out.trans (hb.mono HB.out.size))
    clear hb HQ HB
    go_wp2_with fail
    go_ret
    exact ⟨rfl, HB2.out⟩
  · rw [if_pos h0] at hc
    have hz := errneZ h0
    rw [← hc] at HP hz
    clear hc h0
    go_enter Tryz.func79, Tryz.ntmps79
    go_wp2_with fail
    refine HP.out.mono ?_
    rintro e w1 ⟨rfl, hb⟩
    have HB := Lib.hid hb
    clear hb HP
    go_wp2_with fail
    go_ret
    exact ⟨rfl, HB.out⟩

theorem Mul_oQ (p q : Rat) (hp : QOk p) (hq : QOk q) (w : World) (htab : Tab w) (hm : ML w) :
    Calls Tryz.prog 92 #[.string (qstr p), .string (qstr q)] w (PR (oQ (okQ (p * q))) w) := by
  have h := Mul_q p q hp hq w htab hm
  unfold RQ at h
  rw [wQ_oQ] at h
  exact h
theorem Sub_oQ (p q : Rat) (hp : QOk p) (hq : QOk q) (w : World) (htab : Tab w) (hm : ML w) :
    Calls Tryz.prog 93 #[.string (qstr p), .string (qstr q)] w (PR (oQ (okQ (p + -q))) w) := by
  have h := Sub_q p q hp hq w htab hm
  unfold RQ at h
  rw [wQ_oQ] at h
  exact h
theorem Max_0 (q : Rat) (hq : QOk q) (w : World) (hm : ML w) :
    Calls Tryz.prog 90 #[.string ⟨#[48]⟩, .string (qstr q)] w (PR (qstr (mx0 q), 0) w) := by
  have h := Max_q 0 q qok_0 hq w hm
  have e : (if 0 < cmpQ 0 q then qstr 0 else qstr q) = qstr (mx0 q) := by
    unfold mx0
    by_cases h1 : 0 < q
    · have h2 := cmpQ_lt h1
      rw [if_neg (by omega), if_pos h1]
    · rw [if_neg h1]
      by_cases h3 : q < 0
      · have h4 := cmpQ_gt h3
        rw [if_pos (by omega)]
      · have h5 : q = 0 := Rat.le_antisymm (Rat.not_lt.1 h1) (Rat.not_lt.1 h3)
        rw [h5]; split <;> rfl
  rw [q0Z] at h
  rw [q0Z] at e
  unfold PR
  rw [← e]
  exact h
/-- The greater one of 0 and x - f*y. -/
def exO (x y f : Rat) : Option Rat := (okQ (f * y)).bind fun t => (okQ (x + -t)).map mx0
theorem mx0_ok {q : Rat} (h : QOk q) : QOk (mx0 q) := by
  unfold mx0
  split
  · exact h
  · exact qok_0
theorem exO_ok {x y f d : Rat} (h : exO x y f = some d) : QOk d := by
  unfold exO at h
  cases h1 : okQ (f * y) with
  | none => rw [h1] at h; cases h
  | some t =>
    rw [h1] at h
    cases h2 : okQ (x + -t) with
    | none =>
      have : (okQ (x + -t)).map mx0 = some d := h
      rw [h2] at this; cases this
    | some u =>
      have h3 : (okQ (x + -t)).map mx0 = some d := h
      rw [h2] at h3
      obtain rfl : mx0 u = d := by simpa using h3
      obtain ⟨e, ho⟩ := okQ_some h2
      exact mx0_ok (e ▸ ho)

set_option maxHeartbeats 3200000 in
set_option maxRecDepth 100000 in
theorem excess_any {x y f : Rat} (w : World) (hx : QOk x) (hy : QOk y) (hf : QOk f) (htab : Tab w) (hm : ML w) :
    Calls Tryz.prog 84 #[.string (qstr x), .string (qstr y), .string (qstr f)] w (PR (oQ (exO x y f)) w) := by
  have HM := Lib.hid (Mul_oQ f y hf hy w htab hm)
  have HTM := Lib.hid (fun W (hb : Below w.heap.size w W) => And.intro (htab.below hb) (ml_keep hm (ml_pos hm) hb))
  unfold PR exO
  cases h1 : okQ (f * y) with
  | none =>
    rw [h1] at HM
    replace HM := Lib.hid (show Calls _ _ _ _ (PR (⟨#[]⟩, 5) w) from HM.out)
    generalize qstr x = sx at *
    generalize qstr y = sy at *
    generalize qstr f = sf at *
    clear hx hy hf htab hm HTM h1
    go_enter Tryz.func84, Tryz.ntmps84
    go_wp2_with fail
    refine HM.out.mono ?_
    rintro e w1 ⟨rfl, hb⟩
    have HB := Lib.hid hb
    clear hb HM
    go_wp2_with fail
    go_ret2
    exact ⟨rfl, HB.out⟩
  | some t =>
    obtain ⟨e1, ho⟩ := okQ_some h1
    rw [e1] at ho
    have HS := Lib.hid (fun W (hb : Below w.heap.size w W) => Sub_oQ x t hx ho W (HTM.out W hb).1 (HTM.out W hb).2)
    rw [h1] at HM
    replace HM := Lib.hid (show Calls _ _ _ _ (PR (qstr t, 0) w) from HM.out)
    cases h2 : okQ (x + -t) with
    | none =>
      rw [h2] at HS
      replace HS := Lib.hid (show ∀ W, Below w.heap.size w W → Calls Tryz.prog 93 #[.string (qstr x), .string (qstr t)] W (PR (⟨#[]⟩, 5) W) from HS.out)
      have HE := Lib.hid (show oQ ((some t).bind fun t => (okQ (x + -t)).map mx0) = (⟨#[]⟩, 5) by show oQ ((okQ (x + -t)).map mx0) = _; rw [h2]; rfl)
      rw [HE.out]
      generalize qstr x = sx at *
      generalize qstr y = sy at *
      generalize qstr f = sf at *
      generalize qstr t = st at *
      clear hx hy hf htab hm HTM h1 h2 e1 ho HE
      go_enter Tryz.func84, Tryz.ntmps84
      go_wp2_with fail
      refine HM.out.mono ?_
      rintro e w1 ⟨rfl, hb⟩
      have HB := Lib.hid hb
      clear hb HM
      go_wp2_with fail
      refine (HS.out _ HB.out).mono ?_
      rintro e w2 ⟨rfl, hb⟩
      have HB2 := Lib.hid (HB.out.trans (hb.mono HB.out.size))
      clear hb HS HB
      go_wp2_with fail
      go_ret2
      exact ⟨rfl, HB2.out⟩
    | some d =>
      obtain ⟨e2, ho2⟩ := okQ_some h2
      rw [e2] at ho2
      rw [h2] at HS
      replace HS := Lib.hid (show ∀ W, Below w.heap.size w W → Calls Tryz.prog 93 #[.string (qstr x), .string (qstr t)] W (PR (qstr d, 0) W) from HS.out)
      have HX := Lib.hid (fun W (hb : Below w.heap.size w W) => Max_0 d ho2 W (HTM.out W hb).2)
      have HE := Lib.hid (show oQ ((some t).bind fun t => (okQ (x + -t)).map mx0) = (qstr (mx0 d), 0) by show oQ ((okQ (x + -t)).map mx0) = _; rw [h2]; rfl)
      rw [HE.out]
      generalize qstr (mx0 d) = sm at *
      generalize qstr x = sx at *
      generalize qstr y = sy at *
      generalize qstr f = sf at *
      generalize qstr t = st at *
      generalize qstr d = sd at *
      clear hx hy hf htab hm HTM h1 h2 e1 ho HE e2 ho2
      go_enter Tryz.func84, Tryz.ntmps84
      go_wp2_with fail
      refine HM.out.mono ?_
      rintro e w1 ⟨rfl, hb⟩
      have HB := Lib.hid hb
      clear hb HM
      go_wp2_with fail
      refine (HS.out _ HB.out).mono ?_
      rintro e w2 ⟨rfl, hb⟩
      have HB2 := Lib.hid (HB.out.trans (hb.mono HB.out.size))
      clear hb HS HB
      go_wp2_with fail
      refine (HX.out _ HB2.out).mono ?_
      rintro e w3 ⟨rfl, hb⟩
      have HB3 := Lib.hid (HB2.out.trans (hb.mono HB2.out.size))
      clear hb HX HB2
      go_wp2_with fail
      go_ret2
      exact ⟨rfl, HB3.out⟩

/-- A round of Delta's fold. -/
def dltF (P Q : List MI) (f : Rat) (k : Nat) (s : Rat) : Option Rat := (exO (qZ P k) (vQ Q (kZ (getZ P k))) f).bind fun d => okQ (s + d)
def dltO (P Q : List MI) (f : Rat) : Option Rat := runO (dltF P Q f) 0 P.length
theorem dltF_ok {P Q : List MI} {f s t : Rat} {k : Nat} (h : dltF P Q f k s = some t) : QOk t := by
  unfold dltF at h
  cases h1 : exO (qZ P k) (vQ Q (kZ (getZ P k))) f with
  | none => rw [h1] at h; cases h
  | some d =>
    rw [h1] at h
    obtain ⟨e, ho⟩ := okQ_some (show okQ (s + d) = some t from h)
    rw [← e]; exact ho
theorem runF_ok {g : Nat → Rat → Option Rat} (hg : ∀ k s t, QOk s → g k s = some t → QOk t) : ∀ {k : Nat} {s : Rat}, runO g 0 k = some s → QOk s
  | 0, s, h => by obtain rfl : (0 : Rat) = s := Option.some.inj h; exact qok_0
  | k + 1, s, h => by
    obtain ⟨s0, h0⟩ := runO_some h k (by omega)
    rw [runO_step h0] at h
    exact hg _ _ _ (runF_ok hg h0) h

set_option maxHeartbeats 3200000 in
set_option maxRecDepth 100000 in
theorem Delta1_any {S : List MI} {b n bo bf : Nat} {s p q f : Rat} {key : ByteArray} (w : World) (hmz : MapZ w b n S) (hq : valZ key.data.toList S = qstr q) (hk : key.size ≤ 1000000)
    (ho : w.cell? ⟨bo, 0, none⟩ = some (.map (some b))) (hol : bo < w.heap.size) (hf : w.cell? ⟨bf, 0, none⟩ = some (.string (qstr f))) (hfl : bf < w.heap.size)
    (os : QOk s) (op : QOk p) (oq : QOk q) (of : QOk f) (htab : Tab w) (hm : ML w) :
    Calls Tryz.prog 83 #[.string (qstr s), .agg #[.string key, .string (qstr p)], .pointer (some ⟨bo, 0, none⟩), .pointer (some ⟨bf, 0, none⟩)] w (PR (oQ ((exO p q f).bind fun d => okQ (s + d))) w) := by
  have HOF := Lib.hid (show ∀ W, Below w.heap.size w W → Calls Tryz.prog 85 #[.map (some b), .string key] W fun e w' => e = .returned (.string (qstr q)) ∧ Below W.heap.size W w' from fun W hb => (of_any (k := key) (hmz.below hb) hk).mono (fun e w' ⟨h1, h2⟩ => ⟨by rw [← hq]; exact h1, h2 ▸ Below.refl _ _⟩))
  have HTM := Lib.hid (fun W (hb : Below w.heap.size w W) => And.intro (htab.below hb) (ml_keep hm (ml_pos hm) hb))
  have HEX := Lib.hid (fun W (hb : Below w.heap.size w W) => excess_any W op oq of (HTM.out W hb).1 (HTM.out W hb).2)
  have HCELL := Lib.hid (show ∀ W, Below w.heap.size w W → W.cell? ⟨bo, 0, none⟩ = some (.map (some b)) ∧ W.cell? ⟨bf, 0, none⟩ = some (.string (qstr f)) from fun W hb => ⟨(hb.cell (p := ⟨bo, 0, none⟩) hol).trans ho, (hb.cell (p := ⟨bf, 0, none⟩) hfl).trans hf⟩)
  unfold PR
  obtain ⟨T, hT⟩ : ∃ T, T = oQ ((exO p q f).bind fun d => okQ (s + d)) := ⟨_, rfl⟩
  rw [← hT]
  have HBOX := Lib.hid (show ∀ W, Below (w.alloc (.cells #[.string key, .string (qstr p)] 29)).heap.size (w.alloc (.cells #[.string key, .string (qstr p)] 29)) W → W.cell? ⟨w.heap.size, 0, none⟩ = some (.string key) ∧ W.cell? ⟨w.heap.size, 1, none⟩ = some (.string (qstr p)) from fun W hb =>
    ⟨(hb.cell (p := ⟨w.heap.size, 0, none⟩) (by simp)).trans (by rw [Lib.cell_of_heap (heap_alloc_new w _)]; rfl), (hb.cell (p := ⟨w.heap.size, 1, none⟩) (by simp)).trans (by rw [Lib.cell_of_heap (heap_alloc_new w _)]; rfl)⟩)
  cases hex : exO p q f with
  | none =>
    have HTE := Lib.hid (show T = (⟨#[]⟩, 5) by rw [hT, hex]; rfl)
    obtain rfl := HTE.out
    rw [hex] at HEX
    replace HEX := Lib.hid (show ∀ W, Below w.heap.size w W → Calls Tryz.prog 84 #[.string (qstr p), .string (qstr q), .string (qstr f)] W (PR (⟨#[]⟩, 5) W) from HEX.out)
    generalize qstr s = ss at *
    generalize qstr p = sp at *
    generalize qstr q = sq at *
    generalize qstr f = sf at *
    clear hmz hq hk ho hol hf hfl os op oq of htab hm hT HTE hex HTM
    go_enter Tryz.func83, Tryz.ntmps83
    go_wp2_with fail
    have hbx := (Below.refl w.heap.size w).alloc (Nat.le_refl _) (.cells #[.string key, .string sp] 29)
    generalize w.alloc (.cells #[.string key, .string sp] 29) = wx at *
    have HBX := Lib.hid hbx
    have HW := Lib.hid (fun W (h : Below wx.heap.size wx W) => HBX.out.trans (h.mono HBX.out.size))
    clear hbx
    refine wp_region_held (S := fun W => Below wx.heap.size wx W) (by kernel_rfl) ?_
    change wpAnyH _ _ _ _ _ 13 _ _ wx.drew
    have hD0 := (Below.refl wx.heap.size wx).drew
    generalize wx.drew = W at *
    refine wpHz_take (i := 0) (d := 11) (v := .pointer (some ⟨w.heap.size, 1, none⟩)) rfl rfl (by kernel_rfl) (by kernel_rfl) (by kernel_rfl) (fun _ _ _ h => h) rfl (fun W _ => by go_simp) hD0 ?_
    simp only [Act.put, List.setIfInBounds_toArray, List.set_cons_zero, List.set_cons_succ]
    refine wpHz_take (i := 1) (d := 12) (v := .string sp) rfl rfl (by kernel_rfl) (by kernel_rfl) (by kernel_rfl) (fun _ _ _ h => h) rfl (fun W hW => by have e0 := (HBOX.out W hW).2; go_simp) hD0 ?_
    simp only [Act.put, List.setIfInBounds_toArray, List.set_cons_zero, List.set_cons_succ]
    refine wpHz_take (i := 2) (d := 13) (v := .map (some b)) rfl rfl (by kernel_rfl) (by kernel_rfl) (by kernel_rfl) (fun _ _ _ h => h) rfl (fun W hW => by have e0 := (HCELL.out W (HW.out W hW)).1; go_simp) hD0 ?_
    simp only [Act.put, List.setIfInBounds_toArray, List.set_cons_zero, List.set_cons_succ]
    refine wpHz_take (i := 3) (d := 14) (v := .pointer (some ⟨w.heap.size, 0, none⟩)) rfl rfl (by kernel_rfl) (by kernel_rfl) (by kernel_rfl) (fun _ _ _ h => h) rfl (fun W _ => by go_simp) hD0 ?_
    simp only [Act.put, List.setIfInBounds_toArray, List.set_cons_zero, List.set_cons_succ]
    refine wpHz_take (i := 4) (d := 15) (v := .string key) rfl rfl (by kernel_rfl) (by kernel_rfl) (by kernel_rfl) (fun _ _ _ h => h) rfl (fun W hW => by have e0 := (HBOX.out W hW).1; go_simp) hD0 ?_
    simp only [Act.put, List.setIfInBounds_toArray, List.set_cons_zero, List.set_cons_succ]
    refine wpHz_take (i := 6) (d := 17) (v := .string sf) rfl rfl (by kernel_rfl) (by kernel_rfl) (by kernel_rfl) (fun _ _ _ h => h) rfl (fun W hW => by have e0 := (HCELL.out W (HW.out W hW)).2; go_simp) hD0 ?_
    simp only [Act.put, List.setIfInBounds_toArray, List.set_cons_zero, List.set_cons_succ]
    refine wpHz_one (i := 5) (by kernel_rfl) ?_
    refine wpOz_run rfl rfl (wpz_enter (d := 16) rfl (by go_simp) ((HOF.out _ (HW.out _ hD0)).mono ?_))
    rintro e u1 ⟨rfl, hb⟩
    have hD1 : Below wx.heap.size wx u1 := hD0.trans (hb.mono hD0.size)
    clear hb
    refine ⟨_, rfl, hD1, ?_⟩
    simp only [Act.put, List.setIfInBounds_toArray, List.set_cons_zero, List.set_cons_succ]
    refine wpHz_one (i := 7) (by kernel_rfl) ?_
    refine wpOz_run rfl rfl (wpz_enter (d := 18) rfl (by go_simp) ((HEX.out _ (HW.out _ hD1)).mono ?_))
    rintro e u2 ⟨rfl, hb⟩
    have hD2 : Below wx.heap.size wx u2 := hD1.trans (hb.mono hD1.size)
    clear hb
    refine ⟨_, rfl, hD2, ?_⟩
    simp only [Act.put, List.setIfInBounds_toArray, List.set_cons_zero, List.set_cons_succ]
    refine wpHz_take (i := 8) (d := 10) (v := .tuple #[.string ⟨#[]⟩, .int .i64 5]) rfl rfl (by kernel_rfl) (by kernel_rfl) (by kernel_rfl) (fun _ _ _ h => h) rfl (fun W _ => by go_simp) hD2 ?_
    simp only [Act.put, List.setIfInBounds_toArray, List.set_cons_zero, List.set_cons_succ]
    refine wpHz_take (i := 9) (d := 19) (v := .string ⟨#[]⟩) rfl rfl (by kernel_rfl) (by kernel_rfl) (by kernel_rfl) (fun _ _ _ h => h) rfl (fun W _ => by go_simp) hD2 ?_
    simp only [Act.put, List.setIfInBounds_toArray, List.set_cons_zero, List.set_cons_succ]
    refine wpHz_take (i := 10) (d := 20) (v := .int .i64 5) rfl rfl (by kernel_rfl) (by kernel_rfl) (by kernel_rfl) (fun _ _ _ h => h) rfl (fun W _ => by go_simp) hD2 ?_
    simp only [Act.put, List.setIfInBounds_toArray, List.set_cons_zero, List.set_cons_succ]
    refine wpHz_take (i := 11) (d := 8) (v := .string ⟨#[]⟩) rfl rfl (by kernel_rfl) (by kernel_rfl) (by kernel_rfl) (fun _ _ _ h => h) rfl (fun W _ => by go_simp) hD2 ?_
    simp only [Act.put, List.setIfInBounds_toArray, List.set_cons_zero, List.set_cons_succ]
    refine wpHz_take (i := 12) (d := 9) (v := .int .i64 5) rfl rfl (by kernel_rfl) (by kernel_rfl) (by kernel_rfl) (fun _ _ _ h => h) rfl (fun W _ => by go_simp) hD2 ?_
    simp only [Act.put, List.setIfInBounds_toArray, List.set_cons_zero, List.set_cons_succ]
    refine wpAnyH_done (by kernel_rfl) ?_ _
    have HBF := Lib.hid (HW.out _ hD2)
    clear hD0 hD1 hD2 HBOX HCELL HOF HEX HW HBX
    go_wp2_with fail
    go_ret2
    exact ⟨rfl, HBF.out⟩
  | some d =>
    have od := exO_ok hex
    have HAD := Lib.hid (fun W (hb : Below w.heap.size w W) => Add_oQ s d os od W (HTM.out W hb).1 (HTM.out W hb).2)
    have hTE : oQ (okQ (s + d)) = T := by rw [hT, hex]; rfl
    rw [hTE] at HAD
    rw [hex] at HEX
    replace HEX := Lib.hid (show ∀ W, Below w.heap.size w W → Calls Tryz.prog 84 #[.string (qstr p), .string (qstr q), .string (qstr f)] W (PR (qstr d, 0) W) from HEX.out)
    generalize qstr d = sd at *
    generalize qstr s = ss at *
    generalize qstr p = sp at *
    generalize qstr q = sq at *
    generalize qstr f = sf at *
    clear hmz hq hk ho hol hf hfl os op oq of htab hm hT hTE hex od HTM
    go_enter Tryz.func83, Tryz.ntmps83
    go_wp2_with fail
    have hbx := (Below.refl w.heap.size w).alloc (Nat.le_refl _) (.cells #[.string key, .string sp] 29)
    generalize w.alloc (.cells #[.string key, .string sp] 29) = wx at *
    have HBX := Lib.hid hbx
    have HW := Lib.hid (fun W (h : Below wx.heap.size wx W) => HBX.out.trans (h.mono HBX.out.size))
    clear hbx
    refine wp_region_held (S := fun W => Below wx.heap.size wx W) (by kernel_rfl) ?_
    change wpAnyH _ _ _ _ _ 13 _ _ wx.drew
    have hD0 := (Below.refl wx.heap.size wx).drew
    generalize wx.drew = W at *
    refine wpHz_take (i := 0) (d := 11) (v := .pointer (some ⟨w.heap.size, 1, none⟩)) rfl rfl (by kernel_rfl) (by kernel_rfl) (by kernel_rfl) (fun _ _ _ h => h) rfl (fun W _ => by go_simp) hD0 ?_
    simp only [Act.put, List.setIfInBounds_toArray, List.set_cons_zero, List.set_cons_succ]
    refine wpHz_take (i := 1) (d := 12) (v := .string sp) rfl rfl (by kernel_rfl) (by kernel_rfl) (by kernel_rfl) (fun _ _ _ h => h) rfl (fun W hW => by have e0 := (HBOX.out W hW).2; go_simp) hD0 ?_
    simp only [Act.put, List.setIfInBounds_toArray, List.set_cons_zero, List.set_cons_succ]
    refine wpHz_take (i := 2) (d := 13) (v := .map (some b)) rfl rfl (by kernel_rfl) (by kernel_rfl) (by kernel_rfl) (fun _ _ _ h => h) rfl (fun W hW => by have e0 := (HCELL.out W (HW.out W hW)).1; go_simp) hD0 ?_
    simp only [Act.put, List.setIfInBounds_toArray, List.set_cons_zero, List.set_cons_succ]
    refine wpHz_take (i := 3) (d := 14) (v := .pointer (some ⟨w.heap.size, 0, none⟩)) rfl rfl (by kernel_rfl) (by kernel_rfl) (by kernel_rfl) (fun _ _ _ h => h) rfl (fun W _ => by go_simp) hD0 ?_
    simp only [Act.put, List.setIfInBounds_toArray, List.set_cons_zero, List.set_cons_succ]
    refine wpHz_take (i := 4) (d := 15) (v := .string key) rfl rfl (by kernel_rfl) (by kernel_rfl) (by kernel_rfl) (fun _ _ _ h => h) rfl (fun W hW => by have e0 := (HBOX.out W hW).1; go_simp) hD0 ?_
    simp only [Act.put, List.setIfInBounds_toArray, List.set_cons_zero, List.set_cons_succ]
    refine wpHz_take (i := 6) (d := 17) (v := .string sf) rfl rfl (by kernel_rfl) (by kernel_rfl) (by kernel_rfl) (fun _ _ _ h => h) rfl (fun W hW => by have e0 := (HCELL.out W (HW.out W hW)).2; go_simp) hD0 ?_
    simp only [Act.put, List.setIfInBounds_toArray, List.set_cons_zero, List.set_cons_succ]
    refine wpHz_one (i := 5) (by kernel_rfl) ?_
    refine wpOz_run rfl rfl (wpz_enter (d := 16) rfl (by go_simp) ((HOF.out _ (HW.out _ hD0)).mono ?_))
    rintro e u1 ⟨rfl, hb⟩
    have hD1 : Below wx.heap.size wx u1 := hD0.trans (hb.mono hD0.size)
    clear hb
    refine ⟨_, rfl, hD1, ?_⟩
    simp only [Act.put, List.setIfInBounds_toArray, List.set_cons_zero, List.set_cons_succ]
    refine wpHz_one (i := 7) (by kernel_rfl) ?_
    refine wpOz_run rfl rfl (wpz_enter (d := 18) rfl (by go_simp) ((HEX.out _ (HW.out _ hD1)).mono ?_))
    rintro e u2 ⟨rfl, hb⟩
    have hD2 : Below wx.heap.size wx u2 := hD1.trans (hb.mono hD1.size)
    clear hb
    refine ⟨_, rfl, hD2, ?_⟩
    simp only [Act.put, List.setIfInBounds_toArray, List.set_cons_zero, List.set_cons_succ]
    refine wpHz_take (i := 8) (d := 10) (v := .tuple #[.string sd, .int .i64 0]) rfl rfl (by kernel_rfl) (by kernel_rfl) (by kernel_rfl) (fun _ _ _ h => h) rfl (fun W _ => by go_simp) hD2 ?_
    simp only [Act.put, List.setIfInBounds_toArray, List.set_cons_zero, List.set_cons_succ]
    refine wpHz_take (i := 9) (d := 19) (v := .string sd) rfl rfl (by kernel_rfl) (by kernel_rfl) (by kernel_rfl) (fun _ _ _ h => h) rfl (fun W _ => by go_simp) hD2 ?_
    simp only [Act.put, List.setIfInBounds_toArray, List.set_cons_zero, List.set_cons_succ]
    refine wpHz_take (i := 10) (d := 20) (v := .int .i64 0) rfl rfl (by kernel_rfl) (by kernel_rfl) (by kernel_rfl) (fun _ _ _ h => h) rfl (fun W _ => by go_simp) hD2 ?_
    simp only [Act.put, List.setIfInBounds_toArray, List.set_cons_zero, List.set_cons_succ]
    refine wpHz_take (i := 11) (d := 8) (v := .string sd) rfl rfl (by kernel_rfl) (by kernel_rfl) (by kernel_rfl) (fun _ _ _ h => h) rfl (fun W _ => by go_simp) hD2 ?_
    simp only [Act.put, List.setIfInBounds_toArray, List.set_cons_zero, List.set_cons_succ]
    refine wpHz_take (i := 12) (d := 9) (v := .int .i64 0) rfl rfl (by kernel_rfl) (by kernel_rfl) (by kernel_rfl) (fun _ _ _ h => h) rfl (fun W _ => by go_simp) hD2 ?_
    simp only [Act.put, List.setIfInBounds_toArray, List.set_cons_zero, List.set_cons_succ]
    refine wpAnyH_done (by kernel_rfl) ?_ _
    have HBF := Lib.hid (HW.out _ hD2)
    clear hD0 hD1 hD2 HBOX HCELL HOF HEX HW HBX
    go_wp2_with fail
    refine (HAD.out _ HBF.out).mono ?_
    rintro e u3 ⟨rfl, hb⟩
    have HBG := Lib.hid (HBF.out.trans (hb.mono HBF.out.size))
    clear hb
    go_wp2_with fail
    go_ret2
    exact ⟨rfl, HBG.out⟩

end Go.Proofs.YtofanopnibbaeaaGreatDoor
