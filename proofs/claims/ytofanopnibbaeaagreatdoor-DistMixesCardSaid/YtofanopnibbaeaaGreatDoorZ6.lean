/-
  Package dist: checkSum, Check, collect, Make.
-/
import Derived.Test.YtofanopnibbaeaaGreatDoorZ5
import Derived.Test.YtofanopnibbaeaaGreatDoorHI
namespace Go.Proofs.YtofanopnibbaeaaGreatDoor
open Go.RowKit NV Go.Maps Go.Sort Go.Shelf
open Go.Lib (decDigits)

theorem one_strZ : qstr 1 = ⟨#[49]⟩ := by
  have h : qstr 1 = dstr 1 := by
    show rstr false 1 1 = _
    rw [rstr_eq, if_pos rfl]; rfl
  rw [h, digit_str (by omega)]; rfl
theorem Add_oQ (p q : Rat) (hp : QOk p) (hq : QOk q) (w : World) (htab : Tab w) (hm : ML w) :
    Calls Tryz.prog 86 #[.string (qstr p), .string (qstr q)] w (PR (oQ (okQ (p + q))) w) := by
  have h := Add_q p q hp hq w htab hm
  unfold RQ at h
  rw [wQ_oQ] at h
  exact h
theorem run_ok {g : Nat → Rat} : ∀ {k : Nat} {s : Rat}, runO (addS g) 0 k = some s → QOk s
  | 0, s, h => by obtain rfl : (0 : Rat) = s := Option.some.inj h; exact qok_0
  | k + 1, s, h => by
    obtain ⟨s0, h0⟩ := runO_some h k (by omega)
    rw [runO_step h0] at h
    obtain ⟨e, ho⟩ := okQ_some h
    rw [← e]; exact ho
/-- Numbers that are right. -/
def OKM (L : List MI) : Prop := ∀ x, x ∈ L → rchk x.2 = 0
theorem OKM.at {L : List MI} (h : OKM L) {k : Nat} {x : MI} (hx : L[k]? = some x) : x.2 = qstr (qZ L k) ∧ QOk (qZ L k) := by
  have h1 := ratS_ok (h x (List.mem_of_getElem? hx))
  unfold qZ
  rw [getZ_of hx]; exact h1

set_option maxHeartbeats 1600000 in
set_option maxRecDepth 100000 in
theorem checkSum1 {s q : Rat} {k : ByteArray} (w : World) (hs : QOk s) (hq : QOk q) (htab : Tab w) (hm : ML w) :
    Calls Tryz.prog 155 #[.string (qstr s), .agg #[.string k, .string (qstr q)]] w (PR (oQ (okQ (s + q))) w) := by
  unfold PR
  have hb := (Below.refl w.heap.size w).alloc (Nat.le_refl _) (.cells #[.string k, .string (qstr q)] 29)
  have HB := Lib.hid hb
  have HA := Lib.hid (Add_oQ s q hs hq _ (htab.below hb) (ml_keep hm (ml_pos hm) hb))
  generalize oQ (okQ (s + q)) = T at *
  generalize qstr s = ss at *
  generalize qstr q = sq at *
  clear hs hq htab hm hb
  go_enter Tryz.func155, Tryz.ntmps155
  go_wp2_with fail
  refine HA.out.mono ?_
  rintro e w1 ⟨rfl, hb⟩
  replace HB := Lib.hid (HB.out.trans (hb.mono HB.out.size))
  clear hb HA
  go_wp2_with fail
  go_ret2
  exact ⟨rfl, HB.out⟩

set_option maxHeartbeats 1600000 in
set_option maxRecDepth 100000 in
theorem checkSum_any {L : List MI} {N cap : Nat} {ao : Option Addr} {w : World} (hr : MR w ao N L) (hN : N ≤ 1000000) (hok : OKM L) (htab : Tab w) (hm : ML w) :
    Calls Tryz.prog 78 #[.slice ao N cap] w fun e w' => e = .returned (.int .i64 ((sumE (qZ L) N : Nat) : Int)) ∧ Below w.heap.size w w' := by
  have e1 : ∀ args w, (callFunc 155 args).run Tryz.prog w = .ok (.enter 155 args) w := enters_of Tryz.func155 (by kernel_rfl) rfl
  have HF := Lib.hid (foldN_any (g := 155) (lb := #[]) (f := addS (qZ L)) (s0 := 0) (cap := cap) e1 hr hN (fun k s x W hk hx hrun hb => by
    obtain ⟨h1, h2⟩ := hok.at hx
    have h := checkSum1 (k := x.1) W (run_ok hrun) h2 (htab.below hb) (ml_keep hm (ml_pos hm) hb)
    rw [← h1] at h
    exact h))
  obtain ⟨c, hc⟩ : ∃ c, c = sumE (qZ L) N := ⟨_, rfl⟩
  rw [← hc]
  unfold sumE at hc
  rw [q0Z] at HF
  clear hr hok htab hm e1
  cases hrun : runO (addS (qZ L)) 0 N with
  | none =>
    rw [hrun] at HF hc
    obtain rfl : c = 5 := hc
    replace HF := Lib.hid (show Calls _ _ _ _ (PR (⟨#[]⟩, 5) w) from HF.out)
    clear hrun
    go_enter Tryz.func78, Tryz.ntmps78
    go_wp2_with fail
    refine HF.out.mono ?_
    rintro e w1 ⟨rfl, hb⟩
    have HB := Lib.hid hb
    clear hb HF
    go_wp2_with fail
    go_ret
    exact ⟨rfl, HB.out⟩
  | some s =>
    rw [hrun] at HF hc
    replace HF := Lib.hid (show Calls _ _ _ _ (PR (qstr s, 0) w) from HF.out)
    replace hc : c = if s = 1 then 0 else 15 := hc
    by_cases h1 : s = 1
    · have hq2 : ((qstr s).toList == ([49] : List UInt8)) = true := by rw [h1, one_strZ]; exact lit_eq _ _ rfl
      rw [if_pos h1] at hc
      obtain rfl := hc
      generalize qstr s = sq at *
      clear hrun h1
      go_enter Tryz.func78, Tryz.ntmps78
      go_wp2_with fail
      refine HF.out.mono ?_
      rintro e w1 ⟨rfl, hb⟩
      have HB := Lib.hid hb
      clear hb HF
      go_wp2_with fail
      go_ret
      exact ⟨rfl, HB.out⟩
    · have hq2 : ((qstr s).toList == ([49] : List UInt8)) = false := by
        refine beq_false_of_ne fun he => h1 (qstr_inj ?_)
        rw [one_strZ]
        exact ba_extZ (by rw [← Lib.toList_data]; exact he)
      rw [if_neg h1] at hc
      obtain rfl := hc
      generalize qstr s = sq at *
      clear hrun h1
      go_enter Tryz.func78, Tryz.ntmps78
      go_wp2_with fail
      refine HF.out.mono ?_
      rintro e w1 ⟨rfl, hb⟩
      have HB := Lib.hid hb
      clear hb HF
      go_wp2_with fail
      go_ret
      exact ⟨rfl, HB.out⟩

theorem below_drewZ {B : Nat} {a w : World} (h : Below B a w) (n : Nat) : Below B a (w.drewN n) := h.trans ⟨rfl, rfl, rfl, Nat.le_refl _, fun _ _ => rfl⟩
theorem lt_b (x y : ByteArray) : Op.bytesLess x.toList y.toList = decide (x.data.toList < y.data.toList) := by rw [bytesLess_eq, Lib.toList_data, Lib.toList_data]
theorem eq_b (x y : ByteArray) : (x.toList == y.toList) = decide (x.data.toList = y.data.toList) := by
  rw [Lib.toList_data, Lib.toList_data]
  by_cases h : x.data.toList = y.data.toList
  · rw [h, decide_eq_true rfl, beq_self_eq_true]
  · rw [decide_eq_false h]; exact beq_false_of_ne h
/-- What is said of an element, by cases. -/
theorem eC_cases {L : List MI} {k : Nat} {x : MI} (hx : L[k]? = some x) :
    (rchk x.2 ≠ 0 ∧ eC L k = rchk x.2) ∨ (rchk x.2 = 0 ∧ sE x.2 ≤ 0 ∧ eC L k = 2) ∨
    (rchk x.2 = 0 ∧ ¬ sE x.2 ≤ 0 ∧ k ≠ 0 ∧ kZ x ≤ kZ (getZ L (k - 1)) ∧ eC L k = 9) ∨ (rchk x.2 = 0 ∧ ¬ sE x.2 ≤ 0 ∧ (k = 0 ∨ kZ (getZ L (k - 1)) < kZ x) ∧ eC L k = 0) := by
  unfold eC qZ sE
  rw [getZ_of hx]
  by_cases h0 : rchk x.2 = 0
  · rw [if_neg (by omega), if_pos h0]
    by_cases h1 : sgnQ (ratS x.2) ≤ 0
    · rw [if_pos h1]; exact .inr (.inl ⟨h0, h1, rfl⟩)
    · rw [if_neg h1]
      by_cases h2 : k ≠ 0 ∧ kZ x ≤ kZ (getZ L (k - 1))
      · rw [if_pos h2]; exact .inr (.inr (.inl ⟨h0, h1, h2.1, h2.2, rfl⟩))
      · rw [if_neg h2]
        refine .inr (.inr (.inr ⟨h0, h1, ?_, rfl⟩))
        by_cases hk : k = 0
        · exact .inl hk
        · exact .inr (List.not_le.1 fun h => h2 ⟨hk, h⟩)
  · rw [if_pos h0, if_neg h0]; exact .inl ⟨h0, rfl⟩
theorem okm_of {L : List MI} (h0 : fstE (eC L) L.length = 0) : OKM L := fun x hx => by
  obtain ⟨k, hk, rfl⟩ := List.mem_iff_getElem.1 hx
  have h1 := fstE_all h0 k hk
  rcases eC_cases (List.getElem?_eq_getElem hk) with ⟨h2, h3⟩ | ⟨h2, _⟩ | ⟨h2, _⟩ | ⟨h2, _⟩
  · omega
  · exact h2
  · exact h2
  · exact h2

set_option maxHeartbeats 6400000 in
set_option maxRecDepth 100000 in
theorem Check_any {L : List MI} {N cap : Nat} {ao : Option Addr} {w : World} (hr : MR w ao N L) (hN : N ≤ 1000000) (hl : ML2 L) (htab : Tab w) (hm : ML w) :
    Calls Tryz.prog 19 #[.slice ao N cap] w fun e w' => e = .returned (.int .i64 ((chkZ L : Nat) : Int)) ∧ Below w.heap.size w w' := by
  have HR := Lib.hid hr
  have hlen := hr.len
  have HBAD := Lib.hid (show ∀ k, k < N → fstE (eC L) k = 0 → eC L k ≠ 0 → chkZ L = eC L k from fun k hk h0 h1 => by
    have h := fstE_at h0 h1 hk
    unfold chkZ
    rw [hlen, h, if_pos h1])
  have HEND := Lib.hid (show fstE (eC L) N = 0 → ∀ W, Below w.heap.size w W → Calls Tryz.prog 78 #[.slice ao N cap] W fun e w' => e = .returned (.int .i64 ((chkZ L : Nat) : Int)) ∧ Below W.heap.size W w' from fun h0 W hb => by
    have h := checkSum_any (cap := cap) (hr.below hb) hN (okm_of (by rw [hlen]; exact h0)) (htab.below hb) (ml_keep hm (ml_pos hm) hb)
    unfold chkZ
    rw [hlen, h0, if_neg (by omega)]
    exact h)
  have HSG := Lib.hid (fun s (hs : s.size ≤ 1000000) W (hb : Below w.heap.size w W) => Sign_any s hs W (ml_keep hm (ml_pos hm) hb))
  have HL := Lib.hid hl
  generalize chkZ L = c at *
  clear hr htab hm hl
  go_enter Tryz.func19, Tryz.ntmps19
  go_wp2_with fail
  go_loopw [9] (fun iv wr => ∃ k : Nat, k ≤ N ∧ iv = .int .i64 (k : Int) ∧ Hid (fstE (eC L) k = 0) ∧ Below w.heap.size w wr) (fun iv _ => N - (intOf iv).toNat)
  case atStart => exact ⟨0, Nat.zero_le _, rfl, Lib.hid rfl, Below.refl _ _⟩
  case round =>
    obtain ⟨k, hk, rfl, H0, hb⟩ := hrel
    by_cases hlt : k < N
    · have hmr := HR.out.below hb
      obtain ⟨a, x, rfl, hx, _, c0, c1⟩ := hmr.at hlt
      obtain ⟨a', ha', hal, hcell⟩ := hmr.form (by omega)
      obtain rfl : a = a' := Option.some.inj ha'
      have HC := Lib.hid (show ∀ W, Below wr.heap.size wr W → ∀ j x, L[j]? = some x → W.cell? (a.add (j * 2)) = some (.string x.1) from fun W hw j x hx => (hw.cell (p := a.add (j * 2)) (by rw [addZ_block]; exact hal)).trans (hcell j x hx).1)
      have HX := Lib.hid (And.intro (HL.out x (List.mem_of_getElem? hx)) (And.intro (eC_cases hx) hx))
      have HB0 := Lib.hid ((Below.refl wr.heap.size wr).alloc (Nat.le_refl _) (.cells #[.string x.1, .string x.2] 29))
      have HB := Lib.hid (hb.alloc hb.size (.cells #[.string x.1, .string x.2] 29))
      have HS := Lib.hid (HSG.out x.2 HX.out.1.2 _ HB.out)
      have HBK := Lib.hid (HBAD.out k hlt H0.out)
      have HG := Lib.hid (show k ≠ 0 → L[k - 1]? = some (getZ L (k - 1)) from fun h => by
        have h1 : k - 1 < L.length := by omega
        rw [List.getElem?_eq_getElem h1, getZ_of (List.getElem?_eq_getElem h1)])
      have HNX := Lib.hid (fstE_step H0.out)
      clear hb hx hmr HBAD HEND HSG HL ha' hcell HR hal
      obtain ⟨x1, x2⟩ := x
      rcases HX.out.2.1 with ⟨h1, h2⟩ | ⟨h1, h2, h3⟩ | ⟨h1, h2, h3, h4, h5⟩ | ⟨h1, h2, h3, h4⟩
      · have hz := errneZ h1
        have HE := Lib.hid (show c = rchk x2 from (HBK.out (by rw [h2]; exact h1)).trans h2)
        generalize sE x2 = sg at *
        generalize rchk x2 = d at *
        clear h1 h2 HX HBK HNX HG HC
        go_wp2_with fail
        refine HS.out.mono ?_
        rintro e w1 ⟨rfl, hb1⟩
        have HB2 := Lib.hid (HB.out.trans (hb1.mono HB.out.size))
        clear hb1 HS HB
        go_wp2_with fail
        go_ret
        exact ⟨by rw [HE.out]; rfl, HB2.out⟩
      · have HE := Lib.hid (show c = 2 from (HBK.out (by rw [h3]; omega)).trans h3)
        rw [h1] at HS
        generalize sE x2 = sg at *
        clear h1 h3 HX HBK HNX HG HC
        go_wp2_with fail
        refine HS.out.mono ?_
        rintro e w1 ⟨rfl, hb1⟩
        have HB2 := Lib.hid (HB.out.trans (hb1.mono HB.out.size))
        clear hb1 HS HB
        go_wp2_with fail
        go_ret
        exact ⟨by rw [HE.out]; rfl, HB2.out⟩
      · have HE := Lib.hid (show c = 9 from (HBK.out (by rw [h5]; omega)).trans h5)
        rw [h1] at HS
        obtain ⟨j, rfl⟩ : ∃ j, k = j + 1 := ⟨k - 1, by omega⟩
        have hg := HG.out h3
        rw [Nat.add_sub_cancel] at hg h4
        generalize getZ L j = y at *
        obtain ⟨y1, y2⟩ := y
        have HCY := Lib.hid (fun W hw => HC.out W hw j _ hg)
        have HCX := Lib.hid (fun W hw => HC.out W hw (j + 1) _ HX.out.2.2)
        have hk0 : decide (0 < (((j + 1 : Nat)) : Int)) = true := decide_eq_true (by omega)
        have hj : (((j + 1 : Nat)) : Int) - 1 = (j : Int) := by omega
        generalize sE x2 = sg at *
        clear h1 h3 h5 HX HBK HNX HG HC hg HCX
        rcases List.le_iff_lt_or_eq.1 h4 with h6 | h6
        · have hl1 : Op.bytesLess x1.toList y1.toList = true := (lt_b x1 y1).trans (decide_eq_true h6)
          clear h4 h6
          go_wp2_with fail
          refine HS.out.mono ?_
          rintro e w1 ⟨rfl, hb1⟩
          have e0 : w1.cell? ⟨wr.heap.size, 0, none⟩ = some (.string x1) := (hb1.cell (p := ⟨wr.heap.size, 0, none⟩) (by simp)).trans (by rw [Lib.cell_of_heap (heap_alloc_new wr _)]; rfl)
          have d0 := HCY.out w1 (HB0.out.trans (hb1.mono HB0.out.size))
          have HB2 := Lib.hid (HB.out.trans (hb1.mono HB.out.size))
          clear hb1 HS HB HCY
          go_wp2_with fail
          go_quiet (fail)
          go_wp2_with fail
          go_ret
          exact ⟨by rw [HE.out]; rfl, below_drewZ HB2.out _⟩
        · have hl2 : (x1.toList == y1.toList) = true := (eq_b x1 y1).trans (decide_eq_true h6)
          clear h4 h6
          go_wp2_with fail
          refine HS.out.mono ?_
          rintro e w1 ⟨rfl, hb1⟩
          have e0 : w1.cell? ⟨wr.heap.size, 0, none⟩ = some (.string x1) := (hb1.cell (p := ⟨wr.heap.size, 0, none⟩) (by simp)).trans (by rw [Lib.cell_of_heap (heap_alloc_new wr _)]; rfl)
          have d0 := HCY.out w1 (HB0.out.trans (hb1.mono HB0.out.size))
          have HB2 := Lib.hid (HB.out.trans (hb1.mono HB.out.size))
          clear hb1 HS HB HCY
          go_wp2_with fail
          go_quiet (fail)
          go_wp2_with fail
          go_ret
          exact ⟨by rw [HE.out]; rfl, below_drewZ HB2.out _⟩
      · rw [h1] at HS
        rw [h4] at HNX
        generalize sE x2 = sg at *
        by_cases hk1 : k = 0
        · have hk0 : decide (0 < k) = false := decide_eq_false (by omega)
          clear h1 h3 h4 HX HBK HG HC hk1
          go_wp2_with fail
          refine HS.out.mono ?_
          rintro e w1 ⟨rfl, hb1⟩
          have e0 : w1.cell? ⟨wr.heap.size, 0, none⟩ = some (.string x1) := (hb1.cell (p := ⟨wr.heap.size, 0, none⟩) (by simp)).trans (by rw [Lib.cell_of_heap (heap_alloc_new wr _)]; rfl)
          have HB2 := Lib.hid (HB.out.trans (hb1.mono HB.out.size))
          clear hb1 HS HB
          go_wp2_with fail
          go_quiet (fail)
          go_wp2_with fail
          go_roundw
          case rel => exact ⟨k + 1, by omega, by go_num, HNX, below_drewZ HB2.out _⟩
          case measure => simp [intOf]; omega
        · obtain ⟨j, rfl⟩ : ∃ j, k = j + 1 := ⟨k - 1, by omega⟩
          have h6 := h3.resolve_left hk1
          have hg := HG.out hk1
          rw [Nat.add_sub_cancel] at hg h6
          generalize getZ L j = y at *
          obtain ⟨y1, y2⟩ := y
          have HCY := Lib.hid (fun W hw => HC.out W hw j _ hg)
          have HCX := Lib.hid (fun W hw => HC.out W hw (j + 1) _ HX.out.2.2)
          have hk0 : decide (0 < (((j + 1 : Nat)) : Int)) = true := decide_eq_true (by omega)
          have hl1 : Op.bytesLess x1.toList y1.toList = false := (lt_b x1 y1).trans (decide_eq_false fun h => List.lt_irrefl _ (List.lt_trans h h6))
          have hl2 : (x1.toList == y1.toList) = false := (eq_b x1 y1).trans (decide_eq_false fun h => List.lt_irrefl _ (by rw [show kZ (y1, y2) = y1.data.toList from rfl, show kZ (x1, x2) = x1.data.toList from rfl, h] at h6; exact h6))
          have hj : (((j + 1 : Nat)) : Int) - 1 = (j : Int) := by omega
          clear h1 h3 h4 h6 HX HBK HG HC hg HCX
          go_wp2_with fail
          refine HS.out.mono ?_
          rintro e w1 ⟨rfl, hb1⟩
          have e0 : w1.cell? ⟨wr.heap.size, 0, none⟩ = some (.string x1) := (hb1.cell (p := ⟨wr.heap.size, 0, none⟩) (by simp)).trans (by rw [Lib.cell_of_heap (heap_alloc_new wr _)]; rfl)
          have d0 := HCY.out w1 (HB0.out.trans (hb1.mono HB0.out.size))
          have HB2 := Lib.hid (HB.out.trans (hb1.mono HB.out.size))
          clear hb1 HS HB HCY
          go_wp2_with fail
          go_quiet (fail)
          go_wp2_with fail
          go_roundw
          case rel => exact ⟨j + 1 + 1, by omega, by go_num, HNX, below_drewZ HB2.out _⟩
          case measure => simp [intOf]; omega
    · obtain rfl : k = N := by omega
      have HE := Lib.hid (HEND.out H0.out wr hb)
      have HB := Lib.hid hb
      clear hb HR HBAD HEND HSG HL
      go_wp2_with fail
      refine HE.out.mono ?_
      rintro e w1 ⟨rfl, hb1⟩
      have HB2 := Lib.hid (HB.out.trans (hb1.mono HB.out.size))
      clear hb1 HE HB
      go_wp2_with fail
      go_ret
      exact ⟨rfl, HB2.out⟩

end Go.Proofs.YtofanopnibbaeaaGreatDoor
