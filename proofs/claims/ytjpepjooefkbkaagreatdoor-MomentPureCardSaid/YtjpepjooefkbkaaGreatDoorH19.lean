/-
  MomentPure is walked.
-/
import Derived.Test.YtjpepjooefkbkaaGreatDoorH18
namespace Go.Proofs.YtjpepjooefkbkaaGreatDoor
open Go.RowKit NV Go.Maps Go.Sort Go.Shelf Op
open Go.Lib (decDigits)
theorem cutC (H : World → Nat → (Nat → ByteArray) → Bool → Prop) {G : World → Nat → (Nat → ByteArray) → Bool → Prop} {K : Prop} (h2 : (∀ u x y z, H u x y z → G u x y z) → K) (h1 : ∀ u x y z, H u x y z → G u x y z) : K := h2 h1
theorem two_mr (a b : Rat) (W : World) (ty : TypeId) : MR (W.alloc (.cells #[.string ⟨#[120]⟩, .string (qstr a), .string ⟨#[121]⟩, .string (qstr b)] ty)) (some ⟨W.heap.size, 0, none⟩) 2 (twoL a b) := by
 refine ⟨rfl, .inr ⟨_, rfl, by simp, fun j x hx => ?_⟩⟩
 have hj : j < 2 := (List.getElem?_eq_some_iff.1 hx).1
 rcases (show j = 0 ∨ j = 1 by omega) with rfl | rfl
 ·obtain rfl : (kX, qstr a) = x := Option.some.inj hx
  refine ⟨?_, ?_⟩
  ·show (W.alloc _).cell? ⟨W.heap.size, 0, none⟩ = _
   rw [Lib.cell_of_heap (heap_alloc_new W _)]; rfl
  ·show (W.alloc _).cell? ⟨W.heap.size, 1, none⟩ = _
   rw [Lib.cell_of_heap (heap_alloc_new W _)]; rfl
 ·obtain rfl : (kY, qstr b) = x := Option.some.inj hx
  refine ⟨?_, ?_⟩
  ·show (W.alloc _).cell? ⟨W.heap.size, 2, none⟩ = _
   rw [Lib.cell_of_heap (heap_alloc_new W _)]; rfl
  ·show (W.alloc _).cell? ⟨W.heap.size, 3, none⟩ = _
   rw [Lib.cell_of_heap (heap_alloc_new W _)]; rfl
theorem fits_c {c d : Nat → ByteArray} (ec : ∀ j, j < 8 → c j = d j) {fn : FuncId} {B : Value} {w : World} {Q : Ending → World → Prop} (h : Calls Tryz.prog fn #[.agg #[.string (d 0), .string (d 1), .string (d 2), .string (d 3), .string (d 4), .string (d 5), .string (d 6), .string (d 7)], B] w Q) : Calls Tryz.prog fn #[.agg #[.string (c 0), .string (c 1), .string (c 2), .string (c 3), .string (c 4), .string (c 5), .string (c 6), .string (c 7)], B] w Q := by
 rw [ec 0 (by omega), ec 1 (by omega), ec 2 (by omega), ec 3 (by omega), ec 4 (by omega), ec 5 (by omega), ec 6 (by omega), ec 7 (by omega)]
 exact h
def GoodC9 (P Q : List MI) (c : Nat → ByteArray) : Prop := c 7 = ⟨#[48]⟩ ∧ (∀ j, j < 7 → c j = qstr (curM P Q j)) ∧ allZ P Q = true ∧ allZ Q P = true
theorem und_arr : Tryz.prog.underlying 33 = some (.array 7 23) := by kernel_rfl
theorem eqIn_arr (d : Nat) (b : Nat → ByteArray) (W : World) : (Op.equalIn (d + 2) 33 (.agg #[.string (b 0), .string (b 1), .string (b 2), .string (b 3), .string (b 4), .string (b 5), .string (b 6)]) (.agg #[.string (b 0), .string (b 1), .string (b 2), .string (b 3), .string (b 4), .string (b 5), .string (b 6)])).run Tryz.prog W = .ok true W := by
 have h0 : ∀ W, (part 23 #[.string (b 0), .string (b 1), .string (b 2), .string (b 3), .string (b 4), .string (b 5), .string (b 6)] 0).run Tryz.prog W = .ok (.string (b 0)) W := fun W => part_nm _ 0 _ rfl W
 have h1 : ∀ W, (part 23 #[.string (b 0), .string (b 1), .string (b 2), .string (b 3), .string (b 4), .string (b 5), .string (b 6)] 1).run Tryz.prog W = .ok (.string (b 1)) W := fun W => part_nm _ 1 _ rfl W
 have h2 : ∀ W, (part 23 #[.string (b 0), .string (b 1), .string (b 2), .string (b 3), .string (b 4), .string (b 5), .string (b 6)] 2).run Tryz.prog W = .ok (.string (b 2)) W := fun W => part_nm _ 2 _ rfl W
 have h3 : ∀ W, (part 23 #[.string (b 0), .string (b 1), .string (b 2), .string (b 3), .string (b 4), .string (b 5), .string (b 6)] 3).run Tryz.prog W = .ok (.string (b 3)) W := fun W => part_nm _ 3 _ rfl W
 have h4 : ∀ W, (part 23 #[.string (b 0), .string (b 1), .string (b 2), .string (b 3), .string (b 4), .string (b 5), .string (b 6)] 4).run Tryz.prog W = .ok (.string (b 4)) W := fun W => part_nm _ 4 _ rfl W
 have h5 : ∀ W, (part 23 #[.string (b 0), .string (b 1), .string (b 2), .string (b 3), .string (b 4), .string (b 5), .string (b 6)] 5).run Tryz.prog W = .ok (.string (b 5)) W := fun W => part_nm _ 5 _ rfl W
 have h6 : ∀ W, (part 23 #[.string (b 0), .string (b 1), .string (b 2), .string (b 3), .string (b 4), .string (b 5), .string (b 6)] 6).run Tryz.prog W = .ok (.string (b 6)) W := fun W => part_nm _ 6 _ rfl W
 unfold Op.equalIn
 simp only [Sem.run_bind, run_underlying und_arr, Result.andThen_ok, size_num, Std.Legacy.Range.forIn_eq_forIn_range', Std.Legacy.Range.size, Nat.sub_zero, Nat.add_sub_cancel, Nat.div_one, List.range'_succ, List.range'_zero, List.forIn_cons, List.forIn_nil, Nat.zero_add, Nat.reduceAdd]
 simp only [Sem.run_bind, Nat.mul_one, h0, h1, h2, h3, h4, h5, h6, Result.andThen_ok, eq_same, Bool.not_true, Bool.false_eq_true, if_false, Sem.run_pure]
theorem part_arr (b : Nat → ByteArray) (W : World) : (part 33 #[.string (b 0), .string (b 1), .string (b 2), .string (b 3), .string (b 4), .string (b 5), .string (b 6), .string (b 7)] 0).run Tryz.prog W = .ok (.agg #[.string (b 0), .string (b 1), .string (b 2), .string (b 3), .string (b 4), .string (b 5), .string (b 6)]) W := by kernel_rfl
theorem held_cv : Tryz.prog.stoodInHeld 35 = false := by kernel_rfl
theorem struct_cv : Tryz.prog.underlying 35 = some (.struct (Tryz.prog.fieldsOf 35)) := by kernel_rfl
def fieldsCV : List (String × Nat × Nat) := [("M", 33, 0), ("Late", 23, 7)]
theorem fields_cv : (Tryz.prog.fieldsOf 35).toList.map (fun f => (f.name, f.type, f.offset)) = fieldsCV := by kernel_rfl
theorem neq_cv (b : Nat → ByteArray) (W : World) : (binOp .neq 35 (.agg #[.string (b 0), .string (b 1), .string (b 2), .string (b 3), .string (b 4), .string (b 5), .string (b 6), .string (b 7)]) (.agg #[.string (b 0), .string (b 1), .string (b 2), .string (b 3), .string (b 4), .string (b 5), .string (b 6), .string (b 7)])).run Tryz.prog W = .ok (.bool false) W := by
 rw [run_neq_struct, run_equalIn_agg W 9999 _ _ _ struct_cv held_cv]
 have hf := fields_cv
 generalize (Tryz.prog.fieldsOf 35).toList = l at hf ⊢
 unfold fieldsCV at hf
 obtain ⟨f0, f1, rfl⟩ := list_twoZ (show l.length = 2 by have := congrArg List.length hf; simpa using this)
 simp only [List.map_cons, List.map_nil, List.cons.injEq, Prod.mk.injEq, and_true] at hf
 obtain ⟨⟨n0, t0, o0⟩, ⟨n1, t1, o1⟩⟩ := hf
 have h7 : ∀ W, (part 23 #[.string (b 0), .string (b 1), .string (b 2), .string (b 3), .string (b 4), .string (b 5), .string (b 6), .string (b 7)] 7).run Tryz.prog W = .ok (.string (b 7)) W := fun W => part_nm _ 7 _ rfl W
 have hE := fun W => eqIn_arr 9997 b W
 have hP := part_arr b
 simp only [Op.eqFields, n0, t0, o0, n1, t1, o1]
 simp [Sem.run_bind, h7, hP, hE, eq_same]
section
variable {P : Program} {ops : Array Oper} {Q : Exit → Act → World → Prop} {md : Region.Mode} {S : World → Prop}
end
set_option maxHeartbeats 25600000 in
set_option maxRecDepth 100000 in
theorem pure_any {A0 : Option Addr} {n0 c0 : Nat} {L0 : List MI} {A1 : Option Addr} {n1 c1 : Nat} {L1 : List MI} {s : ByteArray} {w : World} (h0 : MR w A0 n0 L0 ∧ n0 ≤ 9223372036854775807 ∧ MX L0) (h1 : MR w A1 n1 L1 ∧ n1 ≤ 9223372036854775807 ∧ MX L1) (hs : s.size ≤ 140737488351232) (htab : Tab w) (hm : ML w) :
  Calls Tryz.prog 3 #[.slice A0 n0 c0, .slice A1 n1 c1, .string s] w fun e w' => e = .returned (.bool true) ∧ Below w.heap.size w w' := by
 have HL := Lib.hid (lives10_any w htab hm)
 have HTM := Lib.hid (fun W (hb : Below w.heap.size w W) => And.intro (htab.below hb) (ml_keep hm (ml_pos hm) hb))
 have HMD := Lib.hid (fun W (hb : Below w.heap.size w W) => made102_any (c0 := c0) (c1 := c1) (w := W) ⟨h0.1.below hb, h0.2⟩ ⟨h1.1.below hb, h1.2⟩)
 have HFC := Lib.hid (fun W => fac10_any s hs W)
 clear h0 h1 hs htab hm
 cases hf : facB s with
 | false =>
  rw [hf] at HFC
  clear hf HTM
  go_enter Tryz.func3, Tryz.ntmps3
  go_wp2_with fail
  refine HL.out.mono ?_
  rintro e w1 ⟨rfl, hb⟩
  have HB := Lib.hid hb
  clear hb HL
  go_wp2_with fail
  refine (HMD.out _ HB.out).mono ?_
  rintro e w2 ⟨v, r, rfl, hr, hb⟩
  have HB2 := Lib.hid (HB.out.trans (hb.mono HB.out.size))
  clear hb HMD HB
  cases r with
  | false =>
   clear hr HFC
   go_wp2_with fail
   go_ret
   exact ⟨rfl, HB2.out⟩
  | true =>
   clear hr
   go_wp2_with fail
   refine (HFC.out _).mono ?_
   rintro e w3 ⟨rfl, hb⟩
   have HE := Lib.hid (HB2.out.trans (hb.mono HB2.out.size))
   clear hb HFC HB2
   go_wp2_with fail
   go_ret
   exact ⟨rfl, HE.out⟩
 | true =>
  rw [hf] at HFC
  obtain ⟨f, hsf, hfo, hf1, hsz⟩ := facB_yes hf
  have HFF := Lib.hid (And.intro hsf (And.intro hsz (And.intro hf1 hfo)))
  clear hf hsf hfo hf1 hsz
  go_enter Tryz.func3, Tryz.ntmps3
  go_wp2_with fail
  refine HL.out.mono ?_
  rintro e w1 ⟨rfl, hb⟩
  have HB := Lib.hid hb
  clear hb HL
  go_wp2_with fail
  refine (HMD.out _ HB.out).mono ?_
  rintro e w2 ⟨v, r, rfl, hr, hb⟩
  have HB2 := Lib.hid (HB.out.trans (hb.mono HB.out.size))
  clear hb HMD HB
  cases r with
  | false =>
   clear hr HFC
   go_wp2_with fail
   go_ret
   exact ⟨rfl, HB2.out⟩
  | true =>
   obtain ⟨g, cl, u0, u1, D0, D1, rfl, hg, hc0, hc1, d0, d1⟩ := hr rfl
   have hx0 := d0.2
   obtain ⟨hk0, hl0⟩ := chk_df d0.1
   obtain ⟨a0, q0, rfl, m0, _⟩ := d0.1
   obtain ⟨P, hP⟩ : ∃ P, P = tZ D0 := ⟨_, rfl⟩
   have hlen0 : P.length = D0.length := by rw [hP, tZ_len]
   rw [← hP] at m0 hl0 hk0 hx0
   obtain ⟨N0, hN0⟩ : ∃ N0, D0.length = N0 := ⟨_, rfl⟩
   rw [hN0] at m0 hlen0 hc0
   have hs0 := (fewB_yes hl0).1
   rw [hlen0] at hs0
   have mz0 := litB_ml (few_lit hl0)
   have hx1 := d1.2
   obtain ⟨hk1, hl1⟩ := chk_df d1.1
   obtain ⟨a1, q1, rfl, m1, _⟩ := d1.1
   obtain ⟨Q, hQ⟩ : ∃ Q, Q = tZ D1 := ⟨_, rfl⟩
   have hlen1 : Q.length = D1.length := by rw [hQ, tZ_len]
   rw [← hQ] at m1 hl1 hk1 hx1
   obtain ⟨N1, hN1⟩ : ∃ N1, D1.length = N1 := ⟨_, rfl⟩
   rw [hN1] at m1 hlen1 hc1
   have hs1 := (fewB_yes hl1).1
   rw [hlen1] at hs1
   have mz1 := litB_ml (few_lit hl1)
   obtain ⟨hsf, hf12, hf1, ofo⟩ := HFF.out
   have HTW := Lib.hid (fun W (hb : Below w2.heap.size w2 W) => HTM.out W (HB2.out.trans (hb.mono HB2.out.size)))
   have HLC := Lib.hid (show ∀ W, Below w2.heap.size w2 W → W.cell? ⟨g, 0, none⟩ = some (.slice a0 N0 q0) ∧ W.cell? ⟨g, 1, none⟩ = some (.slice a1 N1 q1) from fun W hb => ⟨(hb.cell (p := ⟨g, 0, none⟩) hg).trans hc0, (hb.cell (p := ⟨g, 1, none⟩) hg).trans hc1⟩)
   have HCV := Lib.hid (show ∀ W, Below w2.heap.size w2 W → Calls Tryz.prog 11 #[.slice a0 N0 q0, .slice a1 N1 q1] W (fun e w' => ∃ (c : Nat → ByteArray) (r : Bool), e = .returned (.tuple #[.agg #[.string (c 0), .string (c 1), .string (c 2), .string (c 3), .string (c 4), .string (c 5), .string (c 6), .string (c 7)], .bool r]) ∧ (r = true → GoodC9 P Q c) ∧ Below W.heap.size W w') from fun W hb => curve_any (m0.below hb) (m1.below hb) (by omega) (by omega) mz0 mz1)
   have HF1 := Lib.hid (fun W (hb : Below w2.heap.size w2 W) => rFactor_any (c1 := q0) (c2 := q1) (m0.below hb) (m1.below hb) (by omega) (by omega) mz0 mz1)
   have HF2 := Lib.hid (fun W (hb : Below w2.heap.size w2 W) => rFactor_any (c1 := q1) (c2 := q0) (m1.below hb) (m0.below hb) (by omega) (by omega) mz1 mz0)
   have HPN := Lib.hid (show ∀ c, GoodC9 P Q c → _ from fun c hc => pure_num hk0 hk1 hx0 hx1 hc.2.2.1 hc.2.2.2)
   have HCQ := Lib.hid (show ∀ c, GoodC9 P Q c → CQ (curM P Q) 0 from fun c hc => cur_cq (DiL.of hk0) (DiL.of hk1) hx0 hx1 hc.2.2.1 hc.2.2.2)
   obtain ⟨sm', hsm⟩ : ∃ s', s' = (f + 1)⁻¹ := ⟨_, rfl⟩
   obtain ⟨lm, hlm⟩ : ∃ l', l' = 1 - sm' := ⟨_, rfl⟩
   obtain ⟨zs, zl, ps, pl, hone⟩ := two_nums hf1 hf12 hsm hlm
   have os := zs.qok (by omega) (by omega)
   have ol := zl.qok (by omega) (by omega)
   have c1k := two_chk ol os pl ps hone
   have c2k := two_chk os ol ps pl (by rw [Rat.add_comm]; exact hone)
   have HAD := Lib.hid (show ∀ W, Calls Tryz.prog 7 #[.string s, .string ⟨#[49]⟩] W (PR (qstr (f + 1), 0) W) from fun W => by
    have h := rAdd_oQ f 1 ofo o1Q W
    rw [okQ_yes ((Sz.add hf12 (j := 1) ⟨by decide, by decide⟩).qok (by omega) (by omega)), ← hsf, q1L] at h
    exact h)
   have HIN := Lib.hid (show ∀ W, Calls Tryz.prog 8 #[.string (qstr (f + 1))] W (PR (qstr sm', 0) W) from fun W => by
    have h := rInv_q W ((Sz.add hf12 (j := 1) ⟨by decide, by decide⟩).qok (by omega) (by omega)) (show f + 1 ≠ 0 by grind) hsm
    unfold RQ at h
    rw [wQ_oQ, okQ_yes os] at h
    exact h)
   have HSU := Lib.hid (show ∀ W, Calls Tryz.prog 9 #[.string ⟨#[49]⟩, .string (qstr sm')] W (PR (qstr lm, 0) W) from fun W => by
    have h := rSub_oQ 1 sm' o1Q os W
    rw [show (1 : Rat) + -sm' = lm by rw [hlm]; grind, okQ_yes ol, q1L] at h
    exact h)
   have HOF := Lib.hid (show ∀ W, Below w2.heap.size w2 W → Calls Tryz.prog 10 #[.string s, .string ⟨#[48]⟩] W (Cv (cvQ (ofM f) 0) W) from fun W hb => by
    have h := mOf_q (w := W) (of_ok hf1 (hf12.mono (by omega))).1 o0Q Rat.le_refl (by decide) (fun W2 hb2 => HTW.out W2 (hb.trans (hb2.mono hb.size)))
    rw [← hsf, q0Z] at h
    exact h)
   have HC1 := Lib.hid (show ∀ W a b, MR W (some a) 2 (twoL lm sm') → MR W (some b) 2 (twoL sm' lm) → Calls Tryz.prog 11 #[.slice (some a) 2 2, .slice (some b) 2 2] W (fun e w' => e = .returned (.tuple #[.agg #[.string (cvQ (ofM f) 0 0), .string (cvQ (ofM f) 0 1), .string (cvQ (ofM f) 0 2), .string (cvQ (ofM f) 0 3), .string (cvQ (ofM f) 0 4), .string (cvQ (ofM f) 0 5), .string (cvQ (ofM f) 0 6), .string (cvQ (ofM f) 0 7)], .bool true]) ∧ Below W.heap.size W w') from fun W a b ha hb => by
    have hml : ∀ x y, QOk x → QOk y → ML2 (twoL x y) := fun x y hx hy z hz => by
     simp only [twoL, tZ, List.map_cons, List.map_nil, List.mem_cons, List.not_mem_nil, or_false] at hz
     rcases hz with rfl | rfl
     ·exact ⟨by show kX.size ≤ _; decide, Nat.le_trans (sz_q hx) (by omega)⟩
     ·exact ⟨by show kY.size ≤ _; decide, Nat.le_trans (sz_q hy) (by omega)⟩
    refine (curve_yes ha hb (by omega) (by omega) (hml _ _ ol os) (hml _ _ os ol) (two_all _ _ _ _) (two_all _ _ _ _) (fun k hk => two_mom1 c1k c2k zl zs zs zl hk) (fun k hk => two_mom1 c2k c1k zs zl zl zs hk)).mono ?_
    rintro e w' ⟨c, rfl, h7, hj, hb⟩
    have ec : ∀ j, j < 8 → c j = cvQ (ofM f) 0 j := fun j h8 => by
     unfold cvQ
     by_cases hj7 : j < 7
     ·rw [if_pos hj7, hj j hj7, two_curve hf1 hsm hlm (DiL.of c1k) (DiL.of c2k)]
     ·obtain rfl : j = 7 := by omega
      rw [if_neg hj7, h7, q0Z]
    rw [ec 0 (by omega), ec 1 (by omega), ec 2 (by omega), ec 3 (by omega), ec 4 (by omega), ec 5 (by omega), ec 6 (by omega), ec 7 (by omega)]
    exact ⟨rfl, hb⟩)
   have hN0' : N0 ≤ 12 := by omega
   clear HTM hr hc0 hc1 d0 d1 m0 m1 hk0 hk1 hl0 hl1 mz0 mz1 hx0 hx1 hs0 hs1 hlen0 hlen1 hP hQ hN0 hN1 hsf hf12 hf1 ofo HFF hsm hlm zs zl ps pl hone os ol c1k c2k hN0'
   go_wp2_with fail
   refine (HFC.out _).mono ?_
   rintro e w3 ⟨rfl, hb⟩
   have HB3 := Lib.hid hb
   clear hb HFC
   go_wp2_with fail
   refine (HAD.out _).mono ?_
   rintro e w4 ⟨rfl, hb⟩
   have HB4 := Lib.hid (HB3.out.trans (hb.mono HB3.out.size))
   clear hb HAD HB3
   go_wp2_with fail
   refine (HIN.out _).mono ?_
   rintro e w5 ⟨rfl, hb⟩
   have HB5 := Lib.hid (HB4.out.trans (hb.mono HB4.out.size))
   clear hb HIN HB4
   go_wp2_with fail
   refine (HSU.out _).mono ?_
   rintro e w6 ⟨rfl, hb⟩
   have HB6 := Lib.hid (HB5.out.trans (hb.mono HB5.out.size))
   clear hb HSU HB5
   go_wp2_with fail
   refine (HOF.out _ HB6.out).mono ?_
   rintro e w7 ⟨rfl, hb⟩
   have HB7 := Lib.hid (HB6.out.trans (hb.mono HB6.out.size))
   have HX7 := Lib.hid (show ARR (w7.alloc (.cells #[.string (cvQ (ofM f) 0 0), .string (cvQ (ofM f) 0 1), .string (cvQ (ofM f) 0 2), .string (cvQ (ofM f) 0 3), .string (cvQ (ofM f) 0 4), .string (cvQ (ofM f) 0 5), .string (cvQ (ofM f) 0 6), .string (cvQ (ofM f) 0 7)] 35)) w7.heap.size 8 35 (cvQ (ofM f) 0) from ARR.new8)
   clear hb HOF HB6
   go_wp2_with fail
   have b1 := ((Below.refl w7.heap.size w7).alloc (Nat.le_refl _) (.cells #[.string (cvQ (ofM f) 0 0), .string (cvQ (ofM f) 0 1), .string (cvQ (ofM f) 0 2), .string (cvQ (ofM f) 0 3), .string (cvQ (ofM f) 0 4), .string (cvQ (ofM f) 0 5), .string (cvQ (ofM f) 0 6), .string (cvQ (ofM f) 0 7)] 35))
   have b2 := ((Below.refl (w7.alloc (.cells #[.string (cvQ (ofM f) 0 0), .string (cvQ (ofM f) 0 1), .string (cvQ (ofM f) 0 2), .string (cvQ (ofM f) 0 3), .string (cvQ (ofM f) 0 4), .string (cvQ (ofM f) 0 5), .string (cvQ (ofM f) 0 6), .string (cvQ (ofM f) 0 7)] 35)).heap.size (w7.alloc (.cells #[.string (cvQ (ofM f) 0 0), .string (cvQ (ofM f) 0 1), .string (cvQ (ofM f) 0 2), .string (cvQ (ofM f) 0 3), .string (cvQ (ofM f) 0 4), .string (cvQ (ofM f) 0 5), .string (cvQ (ofM f) 0 6), .string (cvQ (ofM f) 0 7)] 35))).alloc (Nat.le_refl _) (.cells #[.string ⟨#[120]⟩, .string (qstr lm), .string ⟨#[121]⟩, .string (qstr sm')] 41))
   have b3 := ((Below.refl ((w7.alloc (.cells #[.string (cvQ (ofM f) 0 0), .string (cvQ (ofM f) 0 1), .string (cvQ (ofM f) 0 2), .string (cvQ (ofM f) 0 3), .string (cvQ (ofM f) 0 4), .string (cvQ (ofM f) 0 5), .string (cvQ (ofM f) 0 6), .string (cvQ (ofM f) 0 7)] 35)).alloc (.cells #[.string ⟨#[120]⟩, .string (qstr lm), .string ⟨#[121]⟩, .string (qstr sm')] 41)).heap.size ((w7.alloc (.cells #[.string (cvQ (ofM f) 0 0), .string (cvQ (ofM f) 0 1), .string (cvQ (ofM f) 0 2), .string (cvQ (ofM f) 0 3), .string (cvQ (ofM f) 0 4), .string (cvQ (ofM f) 0 5), .string (cvQ (ofM f) 0 6), .string (cvQ (ofM f) 0 7)] 35)).alloc (.cells #[.string ⟨#[120]⟩, .string (qstr lm), .string ⟨#[121]⟩, .string (qstr sm')] 41))).alloc (Nat.le_refl _) (.cells #[.string ⟨#[120]⟩, .string (qstr sm'), .string ⟨#[121]⟩, .string (qstr lm)] 41))
   have HB9 := Lib.hid (HB7.out.trans ((b1.trans ((b2.trans (b3.mono b2.size)).mono b1.size)).mono HB7.out.size))
   have hm1 := two_mr lm sm' (w7.alloc (.cells #[.string (cvQ (ofM f) 0 0), .string (cvQ (ofM f) 0 1), .string (cvQ (ofM f) 0 2), .string (cvQ (ofM f) 0 3), .string (cvQ (ofM f) 0 4), .string (cvQ (ofM f) 0 5), .string (cvQ (ofM f) 0 6), .string (cvQ (ofM f) 0 7)] 35)) 41
   rw [World.size_alloc] at hm1
   have hm1' := hm1.below b3
   have hm2 := two_mr sm' lm ((w7.alloc (.cells #[.string (cvQ (ofM f) 0 0), .string (cvQ (ofM f) 0 1), .string (cvQ (ofM f) 0 2), .string (cvQ (ofM f) 0 3), .string (cvQ (ofM f) 0 4), .string (cvQ (ofM f) 0 5), .string (cvQ (ofM f) 0 6), .string (cvQ (ofM f) 0 7)] 35)).alloc (.cells #[.string ⟨#[120]⟩, .string (qstr lm), .string ⟨#[121]⟩, .string (qstr sm')] 41)) 41
   rw [World.size_alloc, World.size_alloc] at hm2
   have HX9 := Lib.hid ((HX7.out.below b2).below b3)
   refine (HC1.out _ _ _ hm1' hm2).mono ?_
   rintro e w10 ⟨rfl, hb⟩
   have hx := (HX9.out.below hb).below ((Below.refl w10.heap.size w10).alloc (Nat.le_refl _) (.cells #[.string (cvQ (ofM f) 0 0), .string (cvQ (ofM f) 0 1), .string (cvQ (ofM f) 0 2), .string (cvQ (ofM f) 0 3), .string (cvQ (ofM f) 0 4), .string (cvQ (ofM f) 0 5), .string (cvQ (ofM f) 0 6), .string (cvQ (ofM f) 0 7)] 35))
   have HB10 := Lib.hid ((HB9.out.trans (hb.mono HB9.out.size)).alloc (HB9.out.trans (hb.mono HB9.out.size)).size (.cells #[.string (cvQ (ofM f) 0 0), .string (cvQ (ofM f) 0 1), .string (cvQ (ofM f) 0 2), .string (cvQ (ofM f) 0 3), .string (cvQ (ofM f) 0 4), .string (cvQ (ofM f) 0 5), .string (cvQ (ofM f) 0 6), .string (cvQ (ofM f) 0 7)] 35))
   have hy : ARR (w10.alloc (.cells #[.string (cvQ (ofM f) 0 0), .string (cvQ (ofM f) 0 1), .string (cvQ (ofM f) 0 2), .string (cvQ (ofM f) 0 3), .string (cvQ (ofM f) 0 4), .string (cvQ (ofM f) 0 5), .string (cvQ (ofM f) 0 6), .string (cvQ (ofM f) 0 7)] 35)) w10.heap.size 8 35 (cvQ (ofM f) 0) := ARR.new8
   have heq := neq_cv (cvQ (ofM f) 0)
   have p0 := hx.cell (j := 0) (by omega)
   have p1 := hx.cell (j := 1) (by omega)
   have p2 := hx.cell (j := 2) (by omega)
   have p3 := hx.cell (j := 3) (by omega)
   have p4 := hx.cell (j := 4) (by omega)
   have p5 := hx.cell (j := 5) (by omega)
   have p6 := hx.cell (j := 6) (by omega)
   have p7 := hx.cell (j := 7) (by omega)
   have q0 := hy.cell (j := 0) (by omega)
   have q1 := hy.cell (j := 1) (by omega)
   have q2 := hy.cell (j := 2) (by omega)
   have q3 := hy.cell (j := 3) (by omega)
   have q4 := hy.cell (j := 4) (by omega)
   have q5 := hy.cell (j := 5) (by omega)
   have q6 := hy.cell (j := 6) (by omega)
   have q7 := hy.cell (j := 7) (by omega)
   have hc0 := (HLC.out _ HB10.out).1
   have hc1 := (HLC.out _ HB10.out).2
   clear b1 b2 b3 hm1 hm1' hm2 hb hx hy HC1 HB7 HB9 HX7 HX9
   go_wp2_with fail
   clear heq hc0 hc1 p0 q0 p1 q1 p2 q2 p3 q3 p4 q4 p5 q5 p6 q6 p7 q7
   refine wp_world (Below.refl (w10.alloc (.cells #[.string (cvQ (ofM f) 0 0), .string (cvQ (ofM f) 0 1), .string (cvQ (ofM f) 0 2), .string (cvQ (ofM f) 0 3), .string (cvQ (ofM f) 0 4), .string (cvQ (ofM f) 0 5), .string (cvQ (ofM f) 0 6), .string (cvQ (ofM f) 0 7)] 35)).heap.size (w10.alloc (.cells #[.string (cvQ (ofM f) 0 0), .string (cvQ (ofM f) 0 1), .string (cvQ (ofM f) 0 2), .string (cvQ (ofM f) 0 3), .string (cvQ (ofM f) 0 4), .string (cvQ (ofM f) 0 5), .string (cvQ (ofM f) 0 6), .string (cvQ (ofM f) 0 7)] 35))) (fun wx hbx => ?_)
   have HB13 := Lib.hid (HB10.out.trans (hbx.mono HB10.out.size))
   clear hbx HB10 
   refine wp_region_held (S := fun W => Below wx.heap.size wx W) (by kernel_rfl) ?_
   change wpAnyH _ _ _ _ _ 13 _ _ wx.drew
   have hD0 := (Below.refl wx.heap.size wx).drew
   generalize wx.drew = W3 at *
   refine wpHz_take (i := 0) (d := 94) (v := .slice (some ⟨g, 0, none⟩) 2 cl) rfl rfl (by kernel_rfl) (by kernel_rfl) (by kernel_rfl) (fun _ _ _ h => h) rfl (fun W _ => by go_simp) hD0 ?_
   simp only [Act.put, sA, sB, sC]
   refine wpHz_take (i := 1) (d := 95) (v := .pointer (some ⟨g, 0, none⟩)) rfl rfl (by kernel_rfl) (by kernel_rfl) (by kernel_rfl) (fun _ _ _ h => h) rfl (fun W _ => by go_simp) hD0 ?_
   simp only [Act.put, sA, sB, sC]
   refine wpHz_take (i := 2) (d := 96) (v := .slice a0 N0 q0) rfl rfl (by kernel_rfl) (by kernel_rfl) (by kernel_rfl) (fun _ _ _ h => h) rfl (fun W hW => by have e0 := (HLC.out W (HB13.out.trans (hW.mono HB13.out.size))).1; go_simp) hD0 ?_
   simp only [Act.put, sA, sB, sC]
   refine wpHz_take (i := 3) (d := 97) (v := .slice (some ⟨g, 0, none⟩) 2 cl) rfl rfl (by kernel_rfl) (by kernel_rfl) (by kernel_rfl) (fun _ _ _ h => h) rfl (fun W _ => by go_simp) hD0 ?_
   simp only [Act.put, sA, sB, sC]
   refine wpHz_take (i := 4) (d := 98) (v := .pointer (some ⟨g, 1, none⟩)) rfl rfl (by kernel_rfl) (by kernel_rfl) (by kernel_rfl) (fun _ _ _ h => h) rfl (fun W _ => by go_simp) hD0 ?_
   simp only [Act.put, sA, sB, sC]
   refine wpHz_take (i := 5) (d := 99) (v := .slice a1 N1 q1) rfl rfl (by kernel_rfl) (by kernel_rfl) (by kernel_rfl) (fun _ _ _ h => h) rfl (fun W hW => by have e0 := (HLC.out W (HB13.out.trans (hW.mono HB13.out.size))).2; go_simp) hD0 ?_
   simp only [Act.put, sA, sB, sC]
   apply cutC (fun u x c rb => ARR u x 8 35 (fun _ => ⟨#[]⟩) ∧ wx.heap.size ≤ x ∧ Below wx.heap.size wx u ∧ (rb = true → GoodC9 P Q c))
   intro KEY
   refine wpHz_two (i := 6) (j := 10) (by kernel_rfl) ?ba ?bb
   case ba =>
    refine wpOz_run rfl rfl (wpz_enter (d := 100) rfl (by go_simp) ((HCV.out _ (HB13.out.trans (hD0.mono HB13.out.size))).mono ?_))
    rintro e u1 ⟨c, rb, rfl, hgc, hb⟩
    have hD1 : Below wx.heap.size wx u1 := hD0.trans (hb.mono hD0.size)
    clear hb
    refine ⟨_, rfl, hD1, ?_⟩
    simp only [Act.put, sA, sB, sC]
    refine wpHz_take (i := 7) (d := 93) (v := .tuple #[.agg #[.string (c 0), .string (c 1), .string (c 2), .string (c 3), .string (c 4), .string (c 5), .string (c 6), .string (c 7)], .bool rb]) rfl rfl (by kernel_rfl) (by kernel_rfl) (by kernel_rfl) (fun _ _ _ h => h) rfl (fun W _ => by go_simp) hD1 ?_
    simp only [Act.put, sA, sB, sC]
    refine wpHz_take (i := 8) (d := 101) (v := .agg #[.string (c 0), .string (c 1), .string (c 2), .string (c 3), .string (c 4), .string (c 5), .string (c 6), .string (c 7)]) rfl rfl (by kernel_rfl) (by kernel_rfl) (by kernel_rfl) (fun _ _ _ h => h) rfl (fun W _ => by go_simp) hD1 ?_
    simp only [Act.put, sA, sB, sC]
    refine wpHz_take (i := 9) (d := 102) (v := .bool rb) rfl rfl (by kernel_rfl) (by kernel_rfl) (by kernel_rfl) (fun _ _ _ h => h) rfl (fun W _ => by go_simp) hD1 ?_
    simp only [Act.put, sA, sB, sC]
    refine wpHz_one (i := 10) (by kernel_rfl) ?_
    have hD2 := hD1.alloc hD1.size (.cells #[.string ⟨#[]⟩, .string ⟨#[]⟩, .string ⟨#[]⟩, .string ⟨#[]⟩, .string ⟨#[]⟩, .string ⟨#[]⟩, .string ⟨#[]⟩, .string ⟨#[]⟩] 35)
    have hgz : wx.heap.size ≤ u1.heap.size := hD1.size
    have hz0 : ARR (u1.alloc (.cells #[.string ⟨#[]⟩, .string ⟨#[]⟩, .string ⟨#[]⟩, .string ⟨#[]⟩, .string ⟨#[]⟩, .string ⟨#[]⟩, .string ⟨#[]⟩, .string ⟨#[]⟩] 35)) u1.heap.size 8 35 (fun _ => ⟨#[]⟩) := ARR.new8 (c := fun _ => ⟨#[]⟩)
    refine wpOz_run rfl rfl (wpz_value (v := .pointer (some ⟨u1.heap.size, 0, none⟩)) (w' := u1.alloc (.cells #[.string ⟨#[]⟩, .string ⟨#[]⟩, .string ⟨#[]⟩, .string ⟨#[]⟩, .string ⟨#[]⟩, .string ⟨#[]⟩, .string ⟨#[]⟩, .string ⟨#[]⟩] 35)) (d := 19) rfl (by go_simp) ⟨hD2, ?_⟩)
    simp only [Act.put, sA, sB, sC]
    generalize u1.heap.size = gz at hz0 hgz ⊢
    generalize u1.alloc (.cells #[.string ⟨#[]⟩, .string ⟨#[]⟩, .string ⟨#[]⟩, .string ⟨#[]⟩, .string ⟨#[]⟩, .string ⟨#[]⟩, .string ⟨#[]⟩, .string ⟨#[]⟩] 35) = u2 at hz0 hD2 ⊢
    exact KEY _ _ c rb ⟨hz0, hgz, hD2, hgc⟩
   case bb =>
    have hD1 := hD0.alloc hD0.size (.cells #[.string ⟨#[]⟩, .string ⟨#[]⟩, .string ⟨#[]⟩, .string ⟨#[]⟩, .string ⟨#[]⟩, .string ⟨#[]⟩, .string ⟨#[]⟩, .string ⟨#[]⟩] 35)
    have hgz : wx.heap.size ≤ W3.heap.size := hD0.size
    have hz0 : ARR (W3.alloc (.cells #[.string ⟨#[]⟩, .string ⟨#[]⟩, .string ⟨#[]⟩, .string ⟨#[]⟩, .string ⟨#[]⟩, .string ⟨#[]⟩, .string ⟨#[]⟩, .string ⟨#[]⟩] 35)) W3.heap.size 8 35 (fun _ => ⟨#[]⟩) := ARR.new8 (c := fun _ => ⟨#[]⟩)
    refine wpOz_run rfl rfl (wpz_value (v := .pointer (some ⟨W3.heap.size, 0, none⟩)) (w' := W3.alloc (.cells #[.string ⟨#[]⟩, .string ⟨#[]⟩, .string ⟨#[]⟩, .string ⟨#[]⟩, .string ⟨#[]⟩, .string ⟨#[]⟩, .string ⟨#[]⟩, .string ⟨#[]⟩] 35)) (d := 19) rfl (by go_simp) ⟨hD1, ?_⟩)
    simp only [Act.put, sA, sB, sC]
    generalize W3.heap.size = gz at hz0 hgz ⊢
    generalize W3.alloc (.cells #[.string ⟨#[]⟩, .string ⟨#[]⟩, .string ⟨#[]⟩, .string ⟨#[]⟩, .string ⟨#[]⟩, .string ⟨#[]⟩, .string ⟨#[]⟩, .string ⟨#[]⟩] 35) = u1 at hz0 hD1 ⊢
    refine wpHz_one (i := 6) (by kernel_rfl) ?_
    refine wpOz_run rfl rfl (wpz_enter (d := 100) rfl (by go_simp) ((HCV.out _ (HB13.out.trans (hD1.mono HB13.out.size))).mono ?_))
    rintro e u2 ⟨c, rb, rfl, hgc, hb⟩
    have hD2 : Below wx.heap.size wx u2 := hD1.trans (hb.mono hD1.size)
    have hz0 := hz0.below hb
    clear hb
    refine ⟨_, rfl, hD2, ?_⟩
    simp only [Act.put, sA, sB, sC]
    refine wpHz_take (i := 7) (d := 93) (v := .tuple #[.agg #[.string (c 0), .string (c 1), .string (c 2), .string (c 3), .string (c 4), .string (c 5), .string (c 6), .string (c 7)], .bool rb]) rfl rfl (by kernel_rfl) (by kernel_rfl) (by kernel_rfl) (fun _ _ _ h => h) rfl (fun W _ => by go_simp) hD2 ?_
    simp only [Act.put, sA, sB, sC]
    refine wpHz_take (i := 8) (d := 101) (v := .agg #[.string (c 0), .string (c 1), .string (c 2), .string (c 3), .string (c 4), .string (c 5), .string (c 6), .string (c 7)]) rfl rfl (by kernel_rfl) (by kernel_rfl) (by kernel_rfl) (fun _ _ _ h => h) rfl (fun W _ => by go_simp) hD2 ?_
    simp only [Act.put, sA, sB, sC]
    refine wpHz_take (i := 9) (d := 102) (v := .bool rb) rfl rfl (by kernel_rfl) (by kernel_rfl) (by kernel_rfl) (fun _ _ _ h => h) rfl (fun W _ => by go_simp) hD2 ?_
    simp only [Act.put, sA, sB, sC]
    exact KEY _ _ c rb ⟨hz0, hgz, hD2, hgc⟩
   rintro u13 g13 c rb ⟨hz0, hgz, hD2, hgc⟩
   clear hD0
   refine wpHz_one (i := 11) (by kernel_rfl) ?_
   have hset := hz0.put8 c
   have hD4 := hD2.trans ((Ch.st8 (S := fun j => j = g13) u13 c rfl).to_below hD2.size (fun j hj => by omega))
   have y0 := hz0.cell (j := 0) (by omega)
   have y1 := hz0.cell (j := 1) (by omega)
   have y2 := hz0.cell (j := 2) (by omega)
   have y3 := hz0.cell (j := 3) (by omega)
   have y4 := hz0.cell (j := 4) (by omega)
   have y5 := hz0.cell (j := 5) (by omega)
   have y6 := hz0.cell (j := 6) (by omega)
   have y7 := hz0.cell (j := 7) (by omega)
   have z0 := hz0.free 0
   have z1 := hz0.free 1
   have z2 := hz0.free 2
   have z3 := hz0.free 3
   have z4 := hz0.free 4
   have z5 := hz0.free 5
   have z6 := hz0.free 6
   have z7 := hz0.free 7
   clear hz0
   refine wpOz_run rfl rfl (wpz_skip (w' := (st8 u13 g13 c)) rfl (by unfold st8; go_simp) ⟨hD4, ?_⟩)
   clear y0 z0 y1 z1 y2 z2 y3 z3 y4 z4 y5 z5 y6 z6 y7 z7 hgz hD2
   generalize (st8 u13 g13 c) = u14 at hset hD4 ⊢
   refine wpHz_take (i := 12) (d := 18) (v := .bool rb) rfl rfl (by kernel_rfl) (by kernel_rfl) (by kernel_rfl) (fun _ _ _ h => h) rfl (fun W _ => by go_simp) hD4 ?_
   simp only [Act.put, sA, sB, sC]
   refine wpAnyH_done (by kernel_rfl) ?_ _
   have HB14 := Lib.hid (HB13.out.trans (hD4.mono HB13.out.size))
   have HX14 := Lib.hid hset
   have HGC := Lib.hid hgc
   clear hset hD4 HB13 HCV hgc
   cases rb with
   | false =>
    clear HF1 HF2 HPN HCQ HX14 HGC HLC HTW
    go_wp2_with fail
    go_ret
    exact ⟨rfl, HB2.out.trans (HB14.out.mono HB2.out.size)⟩
   | true =>
    have HG := HGC.out rfl
    have cq1 := HCQ.out c HG
    obtain ⟨x, y, e1, e2, ox, oy, hof, hcq, hle⟩ := HPN.out c HG
    rw [e1] at HF1
    rw [e2] at HF2
    have HFM := Lib.hid (fun W => rMax_oQ x y ox oy W)
    generalize hr : mxQ x y = r at *
    have HOR := Lib.hid (show ∀ W, Below w2.heap.size w2 W → Calls Tryz.prog 10 #[.string (qstr r), .string ⟨#[48]⟩] W (Cv (cvQ (ofM r) 0) W) from fun W hb => by
     have h := mOf_q (w := W) hof o0Q Rat.le_refl (by decide) (fun W2 hb2 => HTW.out W2 (hb.trans (hb2.mono hb.size)))
     rw [q0Z] at h
     exact h)
    have HFI := Lib.hid (show ∀ W, Below w2.heap.size w2 W → Calls Tryz.prog 14 #[.agg #[.string (c 0), .string (c 1), .string (c 2), .string (c 3), .string (c 4), .string (c 5), .string (c 6), .string (c 7)], .agg #[.string (cvQ (ofM r) 0 0), .string (cvQ (ofM r) 0 1), .string (cvQ (ofM r) 0 2), .string (cvQ (ofM r) 0 3), .string (cvQ (ofM r) 0 4), .string (cvQ (ofM r) 0 5), .string (cvQ (ofM r) 0 6), .string (cvQ (ofM r) 0 7)]] W (fun e w' => e = .returned (.tuple #[.bool true, .int .i64 0]) ∧ Below W.heap.size W w') from fun W hb => by
     have h := mFits_q cq1 hcq hle Rat.le_refl (w := W) (fun W2 hb2 => (HTW.out W2 (hb.trans (hb2.mono hb.size))).2)
     have ec : ∀ j, j < 8 → c j = cvQ (curM P Q) 0 j := fun j h8 => by
      unfold cvQ
      by_cases hj7 : j < 7
      ·rw [if_pos hj7, HG.2.1 j hj7]
      ·obtain rfl : j = 7 := by omega
       rw [if_neg hj7, HG.1, q0Z]
     exact fits_c ec h)
    clear HPN HCQ HG HGC e1 e2 ox oy hof hcq hle hr HTW cq1
    have HG1 := Lib.hid (show ∀ W, Below w2.heap.size w2 W → Calls Tryz.prog 12 #[.slice a0 N0 q0, .slice a1 N1 q1] W (fun e w' => e = .returned (.tuple #[.string (qstr x), .bool true, .int .i64 0]) ∧ Below W.heap.size W w') from HF1.out)
    have HG2 := Lib.hid (show ∀ W, Below w2.heap.size w2 W → Calls Tryz.prog 12 #[.slice a1 N1 q1, .slice a0 N0 q0] W (fun e w' => e = .returned (.tuple #[.string (qstr y), .bool true, .int .i64 0]) ∧ Below W.heap.size W w') from HF2.out)
    clear HF1 HF2
    go_wp2_with fail
    refine wp_world (Below.refl u14.heap.size u14) (fun wx hbx => ?_)
    have HB15 := Lib.hid (HB14.out.trans (hbx.mono HB14.out.size))
    have HX15 := Lib.hid (HX14.out.below hbx)
    clear hbx HB14 HX14
    refine wp_region_held (S := fun W => Below wx.heap.size wx W) (by kernel_rfl) ?_
    change wpAnyH _ _ _ _ _ 14 _ _ wx.drew
    have hD0 := (Below.refl wx.heap.size wx).drew
    generalize wx.drew = W5 at *
    refine wpHz_take (i := 0) (d := 106) (v := .slice (some ⟨g, 0, none⟩) 2 cl) rfl rfl (by kernel_rfl) (by kernel_rfl) (by kernel_rfl) (fun _ _ _ h => h) rfl (fun W _ => by go_simp) hD0 ?_
    simp only [Act.put, sA, sB, sC]
    refine wpHz_take (i := 1) (d := 107) (v := .pointer (some ⟨g, 0, none⟩)) rfl rfl (by kernel_rfl) (by kernel_rfl) (by kernel_rfl) (fun _ _ _ h => h) rfl (fun W _ => by go_simp) hD0 ?_
    simp only [Act.put, sA, sB, sC]
    refine wpHz_take (i := 2) (d := 108) (v := .slice a0 N0 q0) rfl rfl (by kernel_rfl) (by kernel_rfl) (by kernel_rfl) (fun _ _ _ h => h) rfl (fun W hW => by have e0 := (HLC.out W (HB15.out.trans (hW.mono HB15.out.size))).1; go_simp) hD0 ?_
    simp only [Act.put, sA, sB, sC]
    refine wpHz_take (i := 3) (d := 109) (v := .slice (some ⟨g, 0, none⟩) 2 cl) rfl rfl (by kernel_rfl) (by kernel_rfl) (by kernel_rfl) (fun _ _ _ h => h) rfl (fun W _ => by go_simp) hD0 ?_
    simp only [Act.put, sA, sB, sC]
    refine wpHz_take (i := 4) (d := 110) (v := .pointer (some ⟨g, 1, none⟩)) rfl rfl (by kernel_rfl) (by kernel_rfl) (by kernel_rfl) (fun _ _ _ h => h) rfl (fun W _ => by go_simp) hD0 ?_
    simp only [Act.put, sA, sB, sC]
    refine wpHz_take (i := 5) (d := 111) (v := .slice a1 N1 q1) rfl rfl (by kernel_rfl) (by kernel_rfl) (by kernel_rfl) (fun _ _ _ h => h) rfl (fun W hW => by have e0 := (HLC.out W (HB15.out.trans (hW.mono HB15.out.size))).2; go_simp) hD0 ?_
    simp only [Act.put, sA, sB, sC]
    refine wpHz_one (i := 6) (by kernel_rfl) ?_
    refine wpOz_run rfl rfl (wpz_enter (d := 112) rfl (by go_simp) ((HG1.out _ (HB15.out.trans (hD0.mono HB15.out.size))).mono ?_))
    rintro e W5u ⟨rfl, hb⟩
    have hD1 : Below wx.heap.size wx W5u := hD0.trans (hb.mono hD0.size)
    clear hb
    refine ⟨_, rfl, hD1, ?_⟩
    simp only [Act.put, sA, sB, sC]
    refine wpHz_take (i := 7) (d := 105) (v := .tuple #[.string (qstr x), .bool true, .int .i64 0]) rfl rfl (by kernel_rfl) (by kernel_rfl) (by kernel_rfl) (fun _ _ _ h => h) rfl (fun W _ => by go_simp) hD1 ?_
    simp only [Act.put, sA, sB, sC]
    refine wpHz_take (i := 8) (d := 113) (v := .string (qstr x)) rfl rfl (by kernel_rfl) (by kernel_rfl) (by kernel_rfl) (fun _ _ _ h => h) rfl (fun W _ => by go_simp) hD1 ?_
    simp only [Act.put, sA, sB, sC]
    refine wpHz_take (i := 9) (d := 114) (v := .bool true) rfl rfl (by kernel_rfl) (by kernel_rfl) (by kernel_rfl) (fun _ _ _ h => h) rfl (fun W _ => by go_simp) hD1 ?_
    simp only [Act.put, sA, sB, sC]
    refine wpHz_take (i := 10) (d := 115) (v := .int .i64 0) rfl rfl (by kernel_rfl) (by kernel_rfl) (by kernel_rfl) (fun _ _ _ h => h) rfl (fun W _ => by go_simp) hD1 ?_
    simp only [Act.put, sA, sB, sC]
    refine wpHz_take (i := 11) (d := 20) (v := .string (qstr x)) rfl rfl (by kernel_rfl) (by kernel_rfl) (by kernel_rfl) (fun _ _ _ h => h) rfl (fun W _ => by go_simp) hD1 ?_
    simp only [Act.put, sA, sB, sC]
    refine wpHz_take (i := 12) (d := 21) (v := .bool true) rfl rfl (by kernel_rfl) (by kernel_rfl) (by kernel_rfl) (fun _ _ _ h => h) rfl (fun W _ => by go_simp) hD1 ?_
    simp only [Act.put, sA, sB, sC]
    refine wpHz_take (i := 13) (d := 22) (v := .int .i64 0) rfl rfl (by kernel_rfl) (by kernel_rfl) (by kernel_rfl) (fun _ _ _ h => h) rfl (fun W _ => by go_simp) hD1 ?_
    simp only [Act.put, sA, sB, sC]
    refine wpAnyH_done (by kernel_rfl) ?_ _
    have HB15e := Lib.hid (HB15.out.trans (hD1.mono HB15.out.size))
    have HX15e := Lib.hid (HX15.out.below hD1)
    clear hD0 hD1 HB15 HX15 HG1
    go_wp2_with fail
    refine wp_world (Below.refl W5u.heap.size W5u) (fun wx hbx => ?_)
    have HB16 := Lib.hid (HB15e.out.trans (hbx.mono HB15e.out.size))
    have HX16 := Lib.hid (HX15e.out.below hbx)
    clear hbx HB15e HX15e
    refine wp_region_held (S := fun W => Below wx.heap.size wx W) (by kernel_rfl) ?_
    change wpAnyH _ _ _ _ _ 14 _ _ wx.drew
    have hD0 := (Below.refl wx.heap.size wx).drew
    generalize wx.drew = W6 at *
    refine wpHz_take (i := 0) (d := 117) (v := .slice (some ⟨g, 0, none⟩) 2 cl) rfl rfl (by kernel_rfl) (by kernel_rfl) (by kernel_rfl) (fun _ _ _ h => h) rfl (fun W _ => by go_simp) hD0 ?_
    simp only [Act.put, sA, sB, sC]
    refine wpHz_take (i := 1) (d := 118) (v := .pointer (some ⟨g, 1, none⟩)) rfl rfl (by kernel_rfl) (by kernel_rfl) (by kernel_rfl) (fun _ _ _ h => h) rfl (fun W _ => by go_simp) hD0 ?_
    simp only [Act.put, sA, sB, sC]
    refine wpHz_take (i := 2) (d := 119) (v := .slice a1 N1 q1) rfl rfl (by kernel_rfl) (by kernel_rfl) (by kernel_rfl) (fun _ _ _ h => h) rfl (fun W hW => by have e0 := (HLC.out W (HB16.out.trans (hW.mono HB16.out.size))).2; go_simp) hD0 ?_
    simp only [Act.put, sA, sB, sC]
    refine wpHz_take (i := 3) (d := 120) (v := .slice (some ⟨g, 0, none⟩) 2 cl) rfl rfl (by kernel_rfl) (by kernel_rfl) (by kernel_rfl) (fun _ _ _ h => h) rfl (fun W _ => by go_simp) hD0 ?_
    simp only [Act.put, sA, sB, sC]
    refine wpHz_take (i := 4) (d := 121) (v := .pointer (some ⟨g, 0, none⟩)) rfl rfl (by kernel_rfl) (by kernel_rfl) (by kernel_rfl) (fun _ _ _ h => h) rfl (fun W _ => by go_simp) hD0 ?_
    simp only [Act.put, sA, sB, sC]
    refine wpHz_take (i := 5) (d := 122) (v := .slice a0 N0 q0) rfl rfl (by kernel_rfl) (by kernel_rfl) (by kernel_rfl) (fun _ _ _ h => h) rfl (fun W hW => by have e0 := (HLC.out W (HB16.out.trans (hW.mono HB16.out.size))).1; go_simp) hD0 ?_
    simp only [Act.put, sA, sB, sC]
    refine wpHz_one (i := 6) (by kernel_rfl) ?_
    refine wpOz_run rfl rfl (wpz_enter (d := 123) rfl (by go_simp) ((HG2.out _ (HB16.out.trans (hD0.mono HB16.out.size))).mono ?_))
    rintro e W6u ⟨rfl, hb⟩
    have hD1 : Below wx.heap.size wx W6u := hD0.trans (hb.mono hD0.size)
    clear hb
    refine ⟨_, rfl, hD1, ?_⟩
    simp only [Act.put, sA, sB, sC]
    refine wpHz_take (i := 7) (d := 116) (v := .tuple #[.string (qstr y), .bool true, .int .i64 0]) rfl rfl (by kernel_rfl) (by kernel_rfl) (by kernel_rfl) (fun _ _ _ h => h) rfl (fun W _ => by go_simp) hD1 ?_
    simp only [Act.put, sA, sB, sC]
    refine wpHz_take (i := 8) (d := 124) (v := .string (qstr y)) rfl rfl (by kernel_rfl) (by kernel_rfl) (by kernel_rfl) (fun _ _ _ h => h) rfl (fun W _ => by go_simp) hD1 ?_
    simp only [Act.put, sA, sB, sC]
    refine wpHz_take (i := 9) (d := 125) (v := .bool true) rfl rfl (by kernel_rfl) (by kernel_rfl) (by kernel_rfl) (fun _ _ _ h => h) rfl (fun W _ => by go_simp) hD1 ?_
    simp only [Act.put, sA, sB, sC]
    refine wpHz_take (i := 10) (d := 126) (v := .int .i64 0) rfl rfl (by kernel_rfl) (by kernel_rfl) (by kernel_rfl) (fun _ _ _ h => h) rfl (fun W _ => by go_simp) hD1 ?_
    simp only [Act.put, sA, sB, sC]
    refine wpHz_take (i := 11) (d := 23) (v := .string (qstr y)) rfl rfl (by kernel_rfl) (by kernel_rfl) (by kernel_rfl) (fun _ _ _ h => h) rfl (fun W _ => by go_simp) hD1 ?_
    simp only [Act.put, sA, sB, sC]
    refine wpHz_take (i := 12) (d := 24) (v := .bool true) rfl rfl (by kernel_rfl) (by kernel_rfl) (by kernel_rfl) (fun _ _ _ h => h) rfl (fun W _ => by go_simp) hD1 ?_
    simp only [Act.put, sA, sB, sC]
    refine wpHz_take (i := 13) (d := 25) (v := .int .i64 0) rfl rfl (by kernel_rfl) (by kernel_rfl) (by kernel_rfl) (fun _ _ _ h => h) rfl (fun W _ => by go_simp) hD1 ?_
    simp only [Act.put, sA, sB, sC]
    refine wpAnyH_done (by kernel_rfl) ?_ _
    have HB16e := Lib.hid (HB16.out.trans (hD1.mono HB16.out.size))
    have HX16e := Lib.hid (HX16.out.below hD1)
    clear hD0 hD1 HB16 HX16 HG2
    go_wp2_with fail
    refine (HFM.out _).mono ?_
    rintro e w18 ⟨rfl, hb⟩
    have HB18 := Lib.hid (HB16e.out.trans (hb.mono HB16e.out.size))
    have HX18 := Lib.hid (HX16e.out.below hb)
    clear hb HFM HB16e HX16e
    go_wp2_with fail
    refine (HOR.out _ HB18.out).mono ?_
    rintro e w20 ⟨rfl, hb⟩
    have hx := (HX18.out.below hb).below ((Below.refl w20.heap.size w20).alloc (Nat.le_refl _) (.cells #[.string (cvQ (ofM r) 0 0), .string (cvQ (ofM r) 0 1), .string (cvQ (ofM r) 0 2), .string (cvQ (ofM r) 0 3), .string (cvQ (ofM r) 0 4), .string (cvQ (ofM r) 0 5), .string (cvQ (ofM r) 0 6), .string (cvQ (ofM r) 0 7)] 35))
    have HB20 := Lib.hid ((HB18.out.trans (hb.mono HB18.out.size)).alloc (HB18.out.trans (hb.mono HB18.out.size)).size (.cells #[.string (cvQ (ofM r) 0 0), .string (cvQ (ofM r) 0 1), .string (cvQ (ofM r) 0 2), .string (cvQ (ofM r) 0 3), .string (cvQ (ofM r) 0 4), .string (cvQ (ofM r) 0 5), .string (cvQ (ofM r) 0 6), .string (cvQ (ofM r) 0 7)] 35))
    have hy : ARR (w20.alloc (.cells #[.string (cvQ (ofM r) 0 0), .string (cvQ (ofM r) 0 1), .string (cvQ (ofM r) 0 2), .string (cvQ (ofM r) 0 3), .string (cvQ (ofM r) 0 4), .string (cvQ (ofM r) 0 5), .string (cvQ (ofM r) 0 6), .string (cvQ (ofM r) 0 7)] 35)) w20.heap.size 8 35 (cvQ (ofM r) 0) := ARR.new8
    have p0 := hx.cell (j := 0) (by omega)
    have p1 := hx.cell (j := 1) (by omega)
    have p2 := hx.cell (j := 2) (by omega)
    have p3 := hx.cell (j := 3) (by omega)
    have p4 := hx.cell (j := 4) (by omega)
    have p5 := hx.cell (j := 5) (by omega)
    have p6 := hx.cell (j := 6) (by omega)
    have p7 := hx.cell (j := 7) (by omega)
    have q0 := hy.cell (j := 0) (by omega)
    have q1 := hy.cell (j := 1) (by omega)
    have q2 := hy.cell (j := 2) (by omega)
    have q3 := hy.cell (j := 3) (by omega)
    have q4 := hy.cell (j := 4) (by omega)
    have q5 := hy.cell (j := 5) (by omega)
    have q6 := hy.cell (j := 6) (by omega)
    have q7 := hy.cell (j := 7) (by omega)
    clear hb hx hy HB18 HX18 HOR
    go_wp2_with fail
    refine (HFI.out _ HB20.out).mono ?_
    rintro e w22 ⟨rfl, hb⟩
    have HE := Lib.hid (HB2.out.trans ((HB20.out.trans (hb.mono HB20.out.size)).mono HB2.out.size))
    clear hb HFI HB20 p0 q0 p1 q1 p2 q2 p3 q3 p4 q4 p5 q5 p6 q6 p7 q7
    go_wp2_with fail
    go_ret
    exact ⟨rfl, HE.out⟩
end Go.Proofs.YtjpepjooefkbkaaGreatDoor
