/-
  Package dist: Moment, Factor; Same.
-/
import Derived.Test.YtofanopnibbaeaaGreatDoorZ15
namespace Go.Proofs.YtofanopnibbaeaaGreatDoor
open Go.RowKit NV Go.Maps Go.Sort Go.Shelf
open Go.Lib (decDigits)

/-- What Moment and Factor return. -/
def facE (P Q : List MI) : ByteArray × Bool × Nat := if bE P Q ≠ 0 then (⟨#[]⟩, false, bE P Q) else cmpR facF P Q
def momE (P Q : List MI) (n : Int) : ByteArray × Bool × Nat := if bE P Q ≠ 0 then (⟨#[]⟩, false, bE P Q) else if n < 1 ∨ 8 < n then (⟨#[]⟩, false, 2) else cmpR (momF (n - 1).toNat) P Q
theorem facF_ok {s x y t : Rat} (hs : QOk s) (h : facF s x y = some t) : QOk t := by
  unfold facF at h
  cases h1 : okQ (x * y⁻¹) with
  | none => rw [h1] at h; cases h
  | some d =>
    rw [h1] at h
    obtain rfl : mxQ s d = t := by simpa using h
    obtain ⟨e, ho⟩ := okQ_some h1
    exact mxQ_ok hs (e ▸ ho)

set_option maxHeartbeats 3200000 in
set_option maxRecDepth 100000 in
theorem Factor_any {P Q : List MI} {N M c1 c2 : Nat} {a1 a2 : Option Addr} {w : World} (hp : MR w a1 N P) (hq : MR w a2 M Q) (hN : N ≤ 1000) (hM : M ≤ 1000) (hlp : ML2 P) (hlq : ML2 Q) (htab : Tab w) (hm : ML w) :
    Calls Tryz.prog 22 #[.slice a1 N c1, .slice a2 M c2] w (TR (facE P Q) w) := by
  have HTM := Lib.hid (fun W (hb : Below w.heap.size w W) => And.intro (htab.below hb) (ml_keep hm (ml_pos hm) hb))
  have HCB := Lib.hid (checkBoth_any (c1 := c1) (c2 := c2) hp hq hN hM hlp hlq htab hm)
  have e1 : ∀ args w, (callFunc 88 args).run Tryz.prog w = .ok (.enter 88 args) w := enters_of Tryz.func88 (by kernel_rfl) rfl
  have HCM := Lib.hid (fun (h : bE P Q = 0) W (hb : Below w.heap.size w W) => compared_any (c1 := c1) (c2 := c2) (lb := #[]) facF e1 (hp.below hb) (hq.below hb) hN hM hlp hlq (bE_zero h).1 (bE_zero h).2 (fun s x y t hs ht => facF_ok hs ht)
    (fun s x y W2 hb2 hs hx hy h0 => Factor1_any W2 hs hx hy (Ne.symm (Rat.ne_of_lt h0)) (HTM.out W2 (hb.trans (hb2.mono hb.size))).1 (HTM.out W2 (hb.trans (hb2.mono hb.size))).2))
  unfold TR
  obtain ⟨T, hT⟩ : ∃ T, T = facE P Q := ⟨_, rfl⟩
  rw [← hT]
  unfold facE at hT
  clear hp hq hlp hlq htab hm HTM e1
  by_cases h0 : bE P Q = 0
  · rw [if_neg (by omega)] at hT
    have HC2 := Lib.hid (HCM.out h0)
    rw [h0] at HCB
    rw [← hT] at HC2
    clear HCM h0 hT
    obtain ⟨t1, t2, t3⟩ := T
    go_enter Tryz.func22, Tryz.ntmps22
    go_wp2_with fail
    refine HCB.out.mono ?_
    rintro e w1 ⟨rfl, hb⟩
    have HB := Lib.hid hb
    clear hb HCB
    go_wp2_with fail
    refine (HC2.out _ HB.out).mono ?_
    rintro e w2 ⟨rfl, hb⟩
    have HB2 := Lib.hid (HB.out.trans (hb.mono HB.out.size))
    clear hb HC2 HB
    go_wp2_with fail
    go_ret3
    exact ⟨rfl, HB2.out⟩
  · rw [if_pos h0] at hT
    have hz := errneZ h0
    obtain rfl := hT
    generalize bE P Q = d at *
    clear HCM h0
    go_enter Tryz.func22, Tryz.ntmps22
    go_wp2_with fail
    refine HCB.out.mono ?_
    rintro e w1 ⟨rfl, hb⟩
    have HB := Lib.hid hb
    clear hb HCB
    go_wp2_with fail
    go_ret3
    exact ⟨rfl, HB.out⟩

set_option maxHeartbeats 3200000 in
set_option maxRecDepth 100000 in
theorem Moment_any {P Q : List MI} {N M c1 c2 : Nat} {n : Int} {a1 a2 : Option Addr} {w : World} (hp : MR w a1 N P) (hq : MR w a2 M Q) (hN : N ≤ 1000) (hM : M ≤ 1000) (hlp : ML2 P) (hlq : ML2 Q) (htab : Tab w) (hm : ML w) :
    Calls Tryz.prog 26 #[.slice a1 N c1, .slice a2 M c2, .int .i64 n] w (TR (momE P Q n) w) := by
  have hmf : ∀ (fn : Fn) (first cap : Array Value) (w : World), (Instr.makeFunc fn first cap).run Tryz.prog w = .ok (.func fn first cap) w := fun _ _ _ _ => rfl
  have hbx := (Below.refl w.heap.size w).alloc (Nat.le_refl _) (.cells #[.int .i64 n] 3)
  have HBX := Lib.hid hbx
  have HF := Lib.hid (show ∀ W, Below (w.alloc (.cells #[.int .i64 n] 3)).heap.size (w.alloc (.cells #[.int .i64 n] 3)) W → W.cell? ⟨w.heap.size, 0, none⟩ = some (.int .i64 n) from fun W hb => (hb.cell (p := ⟨w.heap.size, 0, none⟩) (by simp)).trans (by rw [Lib.cell_of_heap (heap_alloc_new w _)]; rfl))
  obtain ⟨wx, hwx⟩ : ∃ wx, wx = w.alloc (.cells #[.int .i64 n] 3) := ⟨_, rfl⟩
  rw [← hwx] at hbx HBX HF
  have HWX := Lib.hid hwx
  clear hwx
  have HTM := Lib.hid (fun W (hb : Below wx.heap.size wx W) => And.intro (htab.below (hbx.trans (hb.mono hbx.size))) (ml_keep hm (ml_pos hm) (hbx.trans (hb.mono hbx.size))))
  have HMR := Lib.hid (fun W (hb : Below wx.heap.size wx W) => And.intro (hp.below (hbx.trans (hb.mono hbx.size))) (hq.below (hbx.trans (hb.mono hbx.size))))
  have HCB := Lib.hid (checkBoth_any (c1 := c1) (c2 := c2) (HMR.out wx (Below.refl _ _)).1 (HMR.out wx (Below.refl _ _)).2 hN hM hlp hlq (HTM.out wx (Below.refl _ _)).1 (HTM.out wx (Below.refl _ _)).2)
  have e1 : ∀ args w, (callFunc 97 args).run Tryz.prog w = .ok (.enter 97 args) w := enters_of Tryz.func97 (by kernel_rfl) rfl
  have HCM := Lib.hid (fun (h : bE P Q = 0) (m : Nat) (hmn : n = (m : Int) + 1) (hm8 : m ≤ 100) W (hb : Below wx.heap.size wx W) => compared_any (c1 := c1) (c2 := c2) (lb := #[.pointer (some ⟨w.heap.size, 0, none⟩)]) (momF m) e1 (HMR.out W hb).1 (HMR.out W hb).2 hN hM hlp hlq (bE_zero h).1 (bE_zero h).2 (fun s x y t hs ht => momF_ok ht)
    (fun s x y W2 hb2 hs hx hy h0 => Moment1_any W2 hs hx hy (Ne.symm (Rat.ne_of_lt h0)) hm8 (by rw [← hmn]; exact HF.out W2 (hb.trans (hb2.mono hb.size))) (HTM.out W2 (hb.trans (hb2.mono hb.size))).1 (HTM.out W2 (hb.trans (hb2.mono hb.size))).2))
  unfold TR
  obtain ⟨T, hT⟩ : ∃ T, T = momE P Q n := ⟨_, rfl⟩
  rw [← hT]
  unfold momE at hT
  clear hp hq hlp hlq htab hm HTM HMR e1 hbx
  by_cases h0 : bE P Q = 0
  · rw [if_neg (by omega)] at hT
    rw [h0] at HCB
    by_cases h1 : n < 1
    · rw [if_pos (.inl h1)] at hT
      obtain rfl := hT
      clear HCM h0
      go_enter Tryz.func26, Tryz.ntmps26
      go_wp2_with fail
      rw [← HWX.out]
      refine HCB.out.mono ?_
      rintro e w1 ⟨rfl, hb⟩
      have c0 := HF.out w1 hb
      have HB := Lib.hid (HBX.out.trans (hb.mono HBX.out.size))
      clear hb HCB HF
      go_wp2_with fail
      go_ret3
      exact ⟨rfl, HB.out⟩
    · by_cases h2 : 8 < n
      · rw [if_pos (.inr h2)] at hT
        obtain rfl := hT
        clear HCM h0
        go_enter Tryz.func26, Tryz.ntmps26
        go_wp2_with fail
        rw [← HWX.out]
        refine HCB.out.mono ?_
        rintro e w1 ⟨rfl, hb⟩
        have c0 := HF.out w1 hb
        have HB := Lib.hid (HBX.out.trans (hb.mono HBX.out.size))
        clear hb HCB HF
        go_wp2_with fail
        go_ret3
        exact ⟨rfl, HB.out⟩
      · rw [if_neg (by omega)] at hT
        have HC2 := Lib.hid (HCM.out h0 (n - 1).toNat (by omega) (by omega))
        rw [← hT] at HC2
        clear HCM h0 hT
        obtain ⟨t1, t2, t3⟩ := T
        go_enter Tryz.func26, Tryz.ntmps26
        go_wp2_with fail
        rw [← HWX.out]
        refine HCB.out.mono ?_
        rintro e w1 ⟨rfl, hb⟩
        have c0 := HF.out w1 hb
        have HB := Lib.hid hb
        clear hb HCB HF
        go_wp2_with fail
        refine (HC2.out _ HB.out).mono ?_
        rintro e w2 ⟨rfl, hb⟩
        have HB2 := Lib.hid (HBX.out.trans ((HB.out.trans (hb.mono HB.out.size)).mono HBX.out.size))
        clear hb HC2 HB
        go_wp2_with fail
        go_ret3
        exact ⟨rfl, HB2.out⟩
  · rw [if_pos h0] at hT
    have hz := errneZ h0
    obtain rfl := hT
    generalize bE P Q = d at *
    clear HCM h0
    go_enter Tryz.func26, Tryz.ntmps26
    go_wp2_with fail
    rw [← HWX.out]
    refine HCB.out.mono ?_
    rintro e w1 ⟨rfl, hb⟩
    have HB := Lib.hid (HBX.out.trans (hb.mono HBX.out.size))
    clear hb HCB HF
    go_wp2_with fail
    go_ret3
    exact ⟨rfl, HB.out⟩

theorem held_massZ : Tryz.prog.stoodInHeld 29 = false := by kernel_rfl
theorem struct_massZ : Tryz.prog.underlying 29 = some (.struct (Tryz.prog.fieldsOf 29)) := by kernel_rfl
def fieldsMZ : List (String × Nat × Nat) := [("Key", 9, 0), ("P", 27, 1)]
theorem fields_massZ : (Tryz.prog.fieldsOf 29).toList.map (fun f => (f.name, f.type, f.offset)) = fieldsMZ := by kernel_rfl
theorem part_strZ (cs : Array Value) (off : Nat) (v : Value) (h : cs[off]? = some v) (W : World) : (part 9 cs off).run Tryz.prog W = .ok v W := by
  simp [part, isAgg, run_underlying Tryz.underlying9, h]
theorem part_numZ (cs : Array Value) (off : Nat) (v : Value) (h : cs[off]? = some v) (W : World) : (part 27 cs off).run Tryz.prog W = .ok v W := by
  simp [part, isAgg, run_underlying Tryz.underlying27, h]
theorem list_twoZ {α : Type} {l : List α} (h : l.length = 2) : ∃ a b, l = [a, b] := by
  match l, h with
  | [a, b], _ => exact ⟨a, b, rfl⟩
def eqMZ (x y : MI) : Bool := (x.1.toList == y.1.toList) && (x.2.toList == y.2.toList)
theorem eqIn_massZ (x y : MI) (W : World) : (Op.equalIn 10000 29 (.agg #[.string x.1, .string x.2]) (.agg #[.string y.1, .string y.2])).run Tryz.prog W = .ok (eqMZ x y) W := by
  rw [run_equalIn_agg W 9999 _ _ _ struct_massZ held_massZ]
  have hf := fields_massZ
  generalize (Tryz.prog.fieldsOf 29).toList = l at hf ⊢
  unfold fieldsMZ at hf
  obtain ⟨f0, f1, rfl⟩ := list_twoZ (show l.length = 2 by have := congrArg List.length hf; simpa using this)
  simp only [List.map_cons, List.map_nil, List.cons.injEq, Prod.mk.injEq, and_true] at hf
  obtain ⟨⟨n0, t0, o0⟩, ⟨n1, t1, o1⟩⟩ := hf
  unfold eqMZ
  simp only [Op.eqFields, n0, t0, o0, n1, t1, o1]
  cases h1 : (x.1.toList == y.1.toList) <;> cases h2 : (x.2.toList == y.2.toList) <;>
  simp [Sem.run_bind, part_strZ #[.string x.1, .string x.2] 0 (.string x.1) rfl, part_numZ #[.string x.1, .string x.2] 1 (.string x.2) rfl, part_strZ #[.string y.1, .string y.2] 0 (.string y.1) rfl, part_numZ #[.string y.1, .string y.2] 1 (.string y.2) rfl,
    run_equalIn_string _ _ _ _ _ Tryz.underlying9, run_equalIn_string _ _ _ _ _ Tryz.underlying27, h1, h2]
theorem neq_massZ (x y : MI) (W : World) : (binOp .neq 29 (.agg #[.string x.1, .string x.2]) (.agg #[.string y.1, .string y.2])).run Tryz.prog W = .ok (.bool (!eqMZ x y)) W := by
  rw [run_neq_struct, eqIn_massZ]; rfl
theorem eqMZ_iff {x y : MI} : eqMZ x y = true ↔ x = y := by
  unfold eqMZ
  rw [Bool.and_eq_true, eq_b, eq_b, decide_eq_true_iff, decide_eq_true_iff]
  constructor
  · rintro ⟨h1, h2⟩
    exact Prod.ext (ba_extZ h1) (ba_extZ h2)
  · rintro rfl
    exact ⟨rfl, rfl⟩

set_option maxHeartbeats 3200000 in
set_option maxRecDepth 100000 in
theorem Equal_any {P Q : List MI} {N M c1 c2 : Nat} {a1 a2 : Option Addr} {w : World} (hp : MR w a1 N P) (hq : MR w a2 M Q) (hN : N ≤ 1000000) :
    Calls Tryz.prog 100 #[.slice a1 N c1, .slice a2 M c2] w fun e w' => e = .returned (.bool (decide (P = Q))) ∧ Below w.heap.size w w' := by
  by_cases hNM : N = M
  · subst hNM
    have HP := Lib.hid hp
    have HQ := Lib.hid hq
    obtain ⟨r, hr⟩ : ∃ r, r = decide (P = Q) := ⟨_, rfl⟩
    rw [← hr]
    have HNO := Lib.hid (show ∀ (k : Nat) (x y : MI), P[k]? = some x → Q[k]? = some y → x ≠ y → r = false from fun k x y hx hy h => by rw [hr]; exact decide_eq_false fun e => h (by rw [e, hy] at hx; exact (Option.some.inj hx).symm))
    have HYES := Lib.hid (show (∀ k, k < N → P[k]? = Q[k]?) → r = true from fun h => by
      rw [hr]
      exact decide_eq_true (List.ext_getElem? fun k => by
        rcases Nat.lt_or_ge k N with h1 | h1
        · exact h k h1
        · rw [List.getElem?_eq_none (by rw [hp.len]; exact h1), List.getElem?_eq_none (by rw [hq.len]; exact h1)]))
    clear hp hq hr
    go_enter Tryz.func100, Tryz.ntmps100
    go_wp2_with fail
    go_loopw [13] (fun iv wr => ∃ k : Nat, k ≤ N ∧ iv = .int .i64 (k : Int) ∧ Hid (∀ j, j < k → P[j]? = Q[j]?) ∧ Below w.heap.size w wr) (fun iv _ => N - (intOf iv).toNat)
    case atStart => exact ⟨0, Nat.zero_le _, rfl, Lib.hid (fun j hj => absurd hj (Nat.not_lt_zero _)), Below.refl _ _⟩
    case round =>
      obtain ⟨k, hk, rfl, HALL, hb⟩ := hrel
      by_cases hlt : k < N
      · obtain ⟨a, x, rfl, hx, _, c0, c1⟩ := (HP.out.below hb).at hlt
        obtain ⟨a', y, rfl, hy, _, d0, d1⟩ := (HQ.out.below hb).at hlt
        have HX := Lib.hid (And.intro hx hy)
        have HB := Lib.hid hb
        have HNK := Lib.hid (HNO.out k x y hx hy)
        have hne := neq_massZ x y
        by_cases hxy : x = y
        · have heq : eqMZ x y = true := eqMZ_iff.2 hxy
          rw [heq] at hne
          have HXY := Lib.hid hxy
          obtain ⟨x1, x2⟩ := x
          obtain ⟨y1, y2⟩ := y
          clear hb hx hy hxy heq HNK
          go_wp2_with fail
          go_quiet (fail)
          go_wp2_with fail
          go_roundw
          case rel => exact ⟨k + 1, by omega, by go_num, Lib.hid (fun j hj => by
            rcases Nat.lt_or_ge j k with h | h
            · exact HALL.out j h
            · obtain rfl : k = j := by omega
              rw [HX.out.1, HX.out.2, HXY.out]), below_drewZ HB.out _⟩
          case measure => simp [intOf]; omega
        · have heq : eqMZ x y = false := by
            cases h : eqMZ x y with
            | false => rfl
            | true => exact absurd (eqMZ_iff.1 h) hxy
          rw [heq] at hne
          have HF := Lib.hid (HNK.out hxy)
          obtain ⟨x1, x2⟩ := x
          obtain ⟨y1, y2⟩ := y
          clear hb hx hy hxy heq HNK HX HALL HNO HYES HP HQ
          go_wp2_with fail
          go_quiet (fail)
          go_wp2_with fail
          go_ret
          exact ⟨by rw [HF.out]; rfl, below_drewZ HB.out _⟩
      · obtain rfl : k = N := by omega
        have HF := Lib.hid (HYES.out HALL.out)
        have HB := Lib.hid hb
        clear hb HALL HNO HYES HP HQ
        go_wp2_with fail
        go_ret
        exact ⟨by rw [HF.out]; rfl, HB.out⟩
  · have hF : decide (P = Q) = false := decide_eq_false fun e => hNM (by rw [← hp.len, ← hq.len, e])
    rw [hF]
    have hne : ((N : Int) == (M : Int)) = false := by rw [beq_eq_false_iff_ne]; omega
    have hne2 : (N == M) = false := by rw [beq_eq_false_iff_ne]; exact hNM
    clear hp hq hF
    go_enter Tryz.func100, Tryz.ntmps100
    go_wp2_with fail
    go_ret
    exact ⟨rfl, Below.refl _ _⟩

set_option maxHeartbeats 1600000 in
theorem Same_any {P Q : List MI} {N M c1 c2 : Nat} {a1 a2 : Option Addr} {w : World} (hp : MR w a1 N P) (hq : MR w a2 M Q) (hN : N ≤ 1000000) :
    Calls Tryz.prog 28 #[.slice a1 N c1, .slice a2 M c2] w fun e w' => e = .returned (.bool (decide (P = Q))) ∧ Below w.heap.size w w' := by
  have HE := Lib.hid (Equal_any (c1 := c1) (c2 := c2) hp hq hN)
  generalize decide (P = Q) = r at *
  clear hp hq
  go_enter Tryz.func28, Tryz.ntmps28
  go_wp2_with fail
  refine HE.out.mono ?_
  rintro e w1 ⟨rfl, hb⟩
  have HB := Lib.hid hb
  clear hb HE
  go_wp2_with fail
  go_ret
  exact ⟨rfl, HB.out⟩

end Go.Proofs.YtofanopnibbaeaaGreatDoor
