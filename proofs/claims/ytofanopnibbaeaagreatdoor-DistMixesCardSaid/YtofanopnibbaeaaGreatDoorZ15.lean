/-
  Package dist: Moment, Factor, Same.
-/
import Derived.Test.YtofanopnibbaeaaGreatDoorZ14
namespace Go.Proofs.YtofanopnibbaeaaGreatDoor
open Go.RowKit NV Go.Maps Go.Sort Go.Shelf
open Go.Lib (decDigits)

theorem Pow_oQ (p : Rat) (k : Nat) (hp : QOk p) (hk : k ≤ 1000000) (w : World) (htab : Tab w) (hm : ML w) :
    Calls Tryz.prog 175 #[.string (qstr p), .int .i64 (k : Int)] w (PR (oQ (okQ (p ^ k))) w) := by
  have h := Pow_pos p hp k (by omega) w htab hm
  unfold RQ at h
  rw [wQ_oQ] at h
  exact h
theorem Div_oQ (p q : Rat) (hp : QOk p) (hq : QOk q) (h0 : q ≠ 0) (w : World) (htab : Tab w) (hm : ML w) :
    Calls Tryz.prog 89 #[.string (qstr p), .string (qstr q)] w (PR (oQ (okQ (p * q⁻¹))) w) := by
  have h := Div_q p q hp hq w htab hm h0 q⁻¹ rfl
  unfold RQ at h
  rw [wQ_oQ] at h
  exact h
/-- The greater one of two numbers. -/
def mxQ (s d : Rat) : Rat := if d < s then s else d
theorem Max_oQ (s d : Rat) (hs : QOk s) (hd : QOk d) (w : World) (hm : ML w) :
    Calls Tryz.prog 90 #[.string (qstr s), .string (qstr d)] w (PR (qstr (mxQ s d), 0) w) := by
  have h := Max_q s d hs hd w hm
  have e : (if 0 < cmpQ s d then qstr s else qstr d) = qstr (mxQ s d) := by
    unfold mxQ
    by_cases h1 : d < s
    · have h2 := cmpQ_gt h1
      rw [if_pos (by omega), if_pos h1]
    · have h2 := cmpQ_le.2 (Rat.not_lt.1 h1)
      rw [if_neg (by omega), if_neg h1]
  unfold PR
  rw [← e]
  exact h
/-- x^n / y^(n-1), n = m+1. -/
def qpO (m : Nat) (x y : Rat) : Option Rat := (okQ (x ^ (m + 1))).bind fun a => (okQ (y ^ m)).bind fun b => okQ (a * b⁻¹)
def momF (m : Nat) (s x y : Rat) : Option Rat := (qpO m x y).bind fun d => okQ (s + d)
def facF (s x y : Rat) : Option Rat := (okQ (x * y⁻¹)).map fun d => mxQ s d
theorem qpO_ok {m : Nat} {x y d : Rat} (h : qpO m x y = some d) : QOk d := by
  unfold qpO at h
  cases h1 : okQ (x ^ (m + 1)) with
  | none => rw [h1] at h; cases h
  | some a =>
    rw [h1] at h
    cases h2 : okQ (y ^ m) with
    | none =>
      have h3 : ((okQ (y ^ m)).bind fun b => okQ (a * b⁻¹)) = some d := h
      rw [h2] at h3; cases h3
    | some b =>
      have h3 : ((okQ (y ^ m)).bind fun b => okQ (a * b⁻¹)) = some d := h
      rw [h2] at h3
      obtain ⟨e, ho⟩ := okQ_some (show okQ (a * b⁻¹) = some d from h3)
      rw [← e]; exact ho
theorem momF_ok {m : Nat} {s x y t : Rat} (h : momF m s x y = some t) : QOk t := by
  unfold momF at h
  cases h1 : qpO m x y with
  | none => rw [h1] at h; cases h
  | some d =>
    rw [h1] at h
    obtain ⟨e, ho⟩ := okQ_some (show okQ (s + d) = some t from h)
    rw [← e]; exact ho
theorem mxQ_ok {s d : Rat} (hs : QOk s) (hd : QOk d) : QOk (mxQ s d) := by
  unfold mxQ
  split
  · exact hs
  · exact hd

theorem powne_any {y : Rat} (h : y ≠ 0) : ∀ {m : Nat}, y ^ m ≠ 0
  | 0 => by rw [Rat.pow_zero]; decide
  | m + 1 => by
    rw [Rat.pow_succ]
    intro e
    rcases Rat.mul_eq_zero.1 e with h1 | h1
    · exact powne_any h h1
    · exact h h1

set_option maxHeartbeats 3200000 in
set_option maxRecDepth 100000 in
theorem qp_any {x y : Rat} {m : Nat} (w : World) (hx : QOk x) (hy : QOk y) (h0 : y ≠ 0) (hmm : m ≤ 100) (htab : Tab w) (hm : ML w) :
    Calls Tryz.prog 98 #[.string (qstr x), .string (qstr y), .int .i64 ((m : Int) + 1)] w (PR (oQ (qpO m x y)) w) := by
  have HTM := Lib.hid (fun W (hb : Below w.heap.size w W) => And.intro (htab.below hb) (ml_keep hm (ml_pos hm) hb))
  have HA := Lib.hid (Pow_oQ x (m + 1) hx (by omega) w htab hm)
  rw [show (((m + 1 : Nat)) : Int) = (m : Int) + 1 from rfl] at HA
  unfold PR
  obtain ⟨T, hT⟩ : ∃ T, T = oQ (qpO m x y) := ⟨_, rfl⟩
  rw [← hT]
  unfold qpO at hT
  cases h1 : okQ (x ^ (m + 1)) with
  | none =>
    rw [h1] at HA hT
    obtain rfl : T = (⟨#[]⟩, 5) := hT
    replace HA := Lib.hid (show Calls _ _ _ _ (PR (⟨#[]⟩, 5) w) from HA.out)
    generalize qstr x = sx at *
    generalize qstr y = sy at *
    clear hx hy htab hm HTM h1 h0
    go_enter Tryz.func98, Tryz.ntmps98
    go_wp2_with fail
    refine HA.out.mono ?_
    rintro e w1 ⟨rfl, hb⟩
    have HB := Lib.hid hb
    clear hb HA
    go_wp2_with fail
    go_ret2
    exact ⟨rfl, HB.out⟩
  | some a =>
    obtain ⟨e1, oa⟩ := okQ_some h1
    rw [e1] at oa
    rw [h1] at HA hT
    replace HA := Lib.hid (show Calls _ _ _ _ (PR (qstr a, 0) w) from HA.out)
    replace hT : T = oQ ((okQ (y ^ m)).bind fun b => okQ (a * b⁻¹)) := hT
    have HBP := Lib.hid (fun W (hb : Below w.heap.size w W) => Pow_oQ y m hy (by omega) W (HTM.out W hb).1 (HTM.out W hb).2)
    have hwr : (m : Int) + 1 - 1 = (m : Int) := by omega
    cases h2 : okQ (y ^ m) with
    | none =>
      rw [h2] at HBP hT
      obtain rfl : T = (⟨#[]⟩, 5) := hT
      replace HBP := Lib.hid (show ∀ W, Below w.heap.size w W → Calls Tryz.prog 175 #[.string (qstr y), .int .i64 (m : Int)] W (PR (⟨#[]⟩, 5) W) from HBP.out)
      generalize qstr x = sx at *
      generalize qstr y = sy at *
      generalize qstr a = sa at *
      clear hx hy htab hm HTM h1 h2 e1 oa h0
      go_enter Tryz.func98, Tryz.ntmps98
      go_wp2_with fail
      refine HA.out.mono ?_
      rintro e w1 ⟨rfl, hb⟩
      have HB := Lib.hid hb
      clear hb HA
      go_wp2_with fail
      refine (HBP.out _ HB.out).mono ?_
      rintro e w2 ⟨rfl, hb⟩
      have HB2 := Lib.hid (HB.out.trans (hb.mono HB.out.size))
      clear hb HBP HB
      go_wp2_with fail
      go_ret2
      exact ⟨rfl, HB2.out⟩
    | some b =>
      obtain ⟨e2, ob⟩ := okQ_some h2
      rw [e2] at ob
      have hb0 : b ≠ 0 := by rw [← e2]; exact powne_any h0
      have HD := Lib.hid (fun W (hb : Below w.heap.size w W) => Div_oQ a b oa ob hb0 W (HTM.out W hb).1 (HTM.out W hb).2)
      rw [h2] at HBP hT
      replace hT : T = oQ (okQ (a * b⁻¹)) := hT
      rw [← hT] at HD
      replace HBP := Lib.hid (show ∀ W, Below w.heap.size w W → Calls Tryz.prog 175 #[.string (qstr y), .int .i64 (m : Int)] W (PR (qstr b, 0) W) from HBP.out)
      generalize qstr x = sx at *
      generalize qstr y = sy at *
      generalize qstr a = sa at *
      generalize qstr b = sb at *
      clear hx hy htab hm HTM h1 h2 e1 oa h0 e2 ob hb0 hT
      go_enter Tryz.func98, Tryz.ntmps98
      go_wp2_with fail
      refine HA.out.mono ?_
      rintro e w1 ⟨rfl, hb⟩
      have HB := Lib.hid hb
      clear hb HA
      go_wp2_with fail
      refine (HBP.out _ HB.out).mono ?_
      rintro e w2 ⟨rfl, hb⟩
      have HB2 := Lib.hid (HB.out.trans (hb.mono HB.out.size))
      clear hb HBP HB
      go_wp2_with fail
      refine (HD.out _ HB2.out).mono ?_
      rintro e w3 ⟨rfl, hb⟩
      have HB3 := Lib.hid (HB2.out.trans (hb.mono HB2.out.size))
      clear hb HD HB2
      go_wp2_with fail
      go_ret2
      exact ⟨rfl, HB3.out⟩

set_option maxHeartbeats 3200000 in
set_option maxRecDepth 100000 in
theorem Moment1_any {s x y : Rat} {m bo : Nat} (w : World) (hs : QOk s) (hx : QOk x) (hy : QOk y) (h0 : y ≠ 0) (hmm : m ≤ 100) (ho : w.cell? ⟨bo, 0, none⟩ = some (.int .i64 ((m : Int) + 1))) (htab : Tab w) (hm : ML w) :
    Calls Tryz.prog 97 #[.string (qstr s), .string (qstr x), .string (qstr y), .pointer (some ⟨bo, 0, none⟩)] w (PR (oQ (momF m s x y)) w) := by
  have HTM := Lib.hid (fun W (hb : Below w.heap.size w W) => And.intro (htab.below hb) (ml_keep hm (ml_pos hm) hb))
  have HQ := Lib.hid (qp_any (m := m) w hx hy h0 hmm htab hm)
  unfold PR
  obtain ⟨T, hT⟩ : ∃ T, T = oQ (momF m s x y) := ⟨_, rfl⟩
  rw [← hT]
  unfold momF at hT
  cases h1 : qpO m x y with
  | none =>
    rw [h1] at HQ hT
    obtain rfl : T = (⟨#[]⟩, 5) := hT
    replace HQ := Lib.hid (show Calls _ _ _ _ (PR (⟨#[]⟩, 5) w) from HQ.out)
    generalize qstr s = ss at *
    generalize qstr x = sx at *
    generalize qstr y = sy at *
    clear hs hx hy htab hm HTM h1 h0
    go_enter Tryz.func97, Tryz.ntmps97
    go_wp2_with fail
    refine HQ.out.mono ?_
    rintro e w1 ⟨rfl, hb⟩
    have HB := Lib.hid hb
    clear hb HQ
    go_wp2_with fail
    go_ret2
    exact ⟨rfl, HB.out⟩
  | some d =>
    have od := qpO_ok h1
    rw [h1] at HQ hT
    replace HQ := Lib.hid (show Calls _ _ _ _ (PR (qstr d, 0) w) from HQ.out)
    replace hT : T = oQ (okQ (s + d)) := hT
    have HA := Lib.hid (fun W (hb : Below w.heap.size w W) => Add_oQ s d hs od W (HTM.out W hb).1 (HTM.out W hb).2)
    rw [← hT] at HA
    generalize qstr s = ss at *
    generalize qstr x = sx at *
    generalize qstr y = sy at *
    generalize qstr d = sd at *
    clear hs hx hy htab hm HTM h1 h0 od hT
    go_enter Tryz.func97, Tryz.ntmps97
    go_wp2_with fail
    refine HQ.out.mono ?_
    rintro e w1 ⟨rfl, hb⟩
    have HB := Lib.hid hb
    clear hb HQ
    go_wp2_with fail
    refine (HA.out _ HB.out).mono ?_
    rintro e w2 ⟨rfl, hb⟩
    have HB2 := Lib.hid (HB.out.trans (hb.mono HB.out.size))
    clear hb HA HB
    go_wp2_with fail
    go_ret2
    exact ⟨rfl, HB2.out⟩

set_option maxHeartbeats 3200000 in
set_option maxRecDepth 100000 in
theorem Factor1_any {s x y : Rat} (w : World) (hs : QOk s) (hx : QOk x) (hy : QOk y) (h0 : y ≠ 0) (htab : Tab w) (hm : ML w) :
    Calls Tryz.prog 88 #[.string (qstr s), .string (qstr x), .string (qstr y)] w (PR (oQ (facF s x y)) w) := by
  have HTM := Lib.hid (fun W (hb : Below w.heap.size w W) => And.intro (htab.below hb) (ml_keep hm (ml_pos hm) hb))
  have HQ := Lib.hid (Div_oQ x y hx hy h0 w htab hm)
  unfold PR
  obtain ⟨T, hT⟩ : ∃ T, T = oQ (facF s x y) := ⟨_, rfl⟩
  rw [← hT]
  unfold facF at hT
  cases h1 : okQ (x * y⁻¹) with
  | none =>
    rw [h1] at HQ hT
    obtain rfl : T = (⟨#[]⟩, 5) := hT
    replace HQ := Lib.hid (show Calls _ _ _ _ (PR (⟨#[]⟩, 5) w) from HQ.out)
    generalize qstr s = ss at *
    generalize qstr x = sx at *
    generalize qstr y = sy at *
    clear hs hx hy htab hm HTM h1 h0
    go_enter Tryz.func88, Tryz.ntmps88
    go_wp2_with fail
    refine HQ.out.mono ?_
    rintro e w1 ⟨rfl, hb⟩
    have HB := Lib.hid hb
    clear hb HQ
    go_wp2_with fail
    go_ret2
    exact ⟨rfl, HB.out⟩
  | some d =>
    obtain ⟨e1, od⟩ := okQ_some h1
    rw [e1] at od
    rw [h1] at HQ hT
    replace HQ := Lib.hid (show Calls _ _ _ _ (PR (qstr d, 0) w) from HQ.out)
    obtain rfl : T = (qstr (mxQ s d), 0) := hT
    have HA := Lib.hid (fun W (hb : Below w.heap.size w W) => Max_oQ s d hs od W (HTM.out W hb).2)
    generalize qstr (mxQ s d) = sm at *
    generalize qstr s = ss at *
    generalize qstr x = sx at *
    generalize qstr y = sy at *
    generalize qstr d = sd at *
    clear hs hx hy htab hm HTM h1 h0 od e1
    go_enter Tryz.func88, Tryz.ntmps88
    go_wp2_with fail
    refine HQ.out.mono ?_
    rintro e w1 ⟨rfl, hb⟩
    have HB := Lib.hid hb
    clear hb HQ
    go_wp2_with fail
    refine (HA.out _ HB.out).mono ?_
    rintro e w2 ⟨rfl, hb⟩
    have HB2 := Lib.hid (HB.out.trans (hb.mono HB.out.size))
    clear hb HA HB
    go_wp2_with fail
    go_ret2
    exact ⟨rfl, HB2.out⟩

end Go.Proofs.YtofanopnibbaeaaGreatDoor
