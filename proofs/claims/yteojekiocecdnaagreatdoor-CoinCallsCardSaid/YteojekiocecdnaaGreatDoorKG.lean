/-
  The reference of layer 4: Short, Probability, Bits, Decides. The reference of layer 4: Toss, Draw. The reference of layer 4: Draw, ones, Late. The reference of layer 4: ones, Late.
-/
import Derived.Test.YteojekiocecdnaaGreatDoorKB
import Derived.Test.YteojekiocecdnaaGreatDoorB25
import Derived.Test.YteojekiocecdnaaGreatDoorKD
namespace Go.Proofs.YteojekiocecdnaaGreatDoor
open Go.RowKit NV
open Go.Lib (decDigits)

/-- The error of a rational number whose parts may be too long. -/
def shortE (q : Rat) : Nat := if 1000 < (dstr (tp q)).size ∨ 1000 < (dstr q.den).size then 5 else 0

set_option maxHeartbeats 3200000 in
set_option maxRecDepth 100000 in
theorem rShort_any {q : Rat} (op : QOk q) (w : World) :
    Calls Tryz.prog 121 #[.string (qstr q)] w fun e w' => e = .returned (.int .i64 ((shortE q : Nat) : Int)) ∧ Below w.heap.size w w' := by
  have HR := Lib.hid (fun W => rread_q op W)
  have HB := Lib.hid (Below.refl w.heap.size w)
  have HL := Lib.hid (And.intro op.1.ln op.2.ln)
  generalize qstr q = sq at *
  clear op
  by_cases h1 : 1000 < (dstr (tp q)).size
  · have HE := Lib.hid (show (5 : Int) = ((shortE q : Nat) : Int) by unfold shortE; rw [if_pos (.inl h1)]; rfl)
    have h1i : (1000 : Int) < (((dstr (tp q)).size : Nat) : Int) := by omega
    clear h1
    go_enter Tryz.func121, Tryz.ntmps121
    go_wp2_with fail
    refine (HR.out _).mono ?_
    rintro e w2 ⟨v, rfl, hv, hb1⟩
    obtain ⟨a1, k1, a2, k2, rfl⟩ := hv.form
    obtain ⟨hb2, hq1⟩ := one_newQ w2 (ng q) (.slice a1 (ln (tp q)) k1) (.slice a2 (ln q.den) k2)
    have HX := Lib.hid (hv.below hb2).nums.2.1
    have HY := Lib.hid (hv.below hb2).nums.2.2
    have HB2 := Lib.hid (HB.out.trans ((hb1.trans (hb2.mono hb1.size)).mono HB.out.size))
    have HQ1 := Lib.hid hq1
    clear hv hb1 hb2 hq1 HR HB
    go_wp2_with fail
    generalize (w2.alloc (.cells #[.bool (ng q), .slice a1 (ln (tp q)) k1, .slice a2 (ln q.den) k2] 77)) = w3 at HX HY HB2 HQ1 ⊢
    have c0 := HQ1.out.c0
    have c1 := HQ1.out.c1
    have c2 := HQ1.out.c2
    refine (iwrite_any HX.out (Nat.le_trans HL.out.1 (by omega))).mono ?_
    rintro e w4 ⟨rfl, hb⟩
    replace HB2 := Lib.hid (HB2.out.trans (hb.mono HB2.out.size))
    clear hb HX HL HQ1 c0 c1 c2
    go_wp2_with fail
    go_ret
    exact ⟨ret_int HE.out, HB2.out⟩
  · have h1i : ¬ (1000 : Int) < (((dstr (tp q)).size : Nat) : Int) := by omega
    by_cases h2 : 1000 < (dstr q.den).size
    · have HE := Lib.hid (show (5 : Int) = ((shortE q : Nat) : Int) by unfold shortE; rw [if_pos (.inr h2)]; rfl)
      have h2i : (1000 : Int) < (((dstr q.den).size : Nat) : Int) := by omega
      clear h1 h2
      go_enter Tryz.func121, Tryz.ntmps121
      go_wp2_with fail
      refine (HR.out _).mono ?_
      rintro e w2 ⟨v, rfl, hv, hb1⟩
      obtain ⟨a1, k1, a2, k2, rfl⟩ := hv.form
      obtain ⟨hb2, hq1⟩ := one_newQ w2 (ng q) (.slice a1 (ln (tp q)) k1) (.slice a2 (ln q.den) k2)
      have HX := Lib.hid (hv.below hb2).nums.2.1
      have HY := Lib.hid (hv.below hb2).nums.2.2
      have HB2 := Lib.hid (HB.out.trans ((hb1.trans (hb2.mono hb1.size)).mono HB.out.size))
      have HQ1 := Lib.hid hq1
      clear hv hb1 hb2 hq1 HR HB
      go_wp2_with fail
      generalize (w2.alloc (.cells #[.bool (ng q), .slice a1 (ln (tp q)) k1, .slice a2 (ln q.den) k2] 77)) = w3 at HX HY HB2 HQ1 ⊢
      have c0 := HQ1.out.c0
      have c1 := HQ1.out.c1
      have c2 := HQ1.out.c2
      refine (iwrite_any HX.out (Nat.le_trans HL.out.1 (by omega))).mono ?_
      rintro e w4 ⟨rfl, hb⟩
      replace HB2 := Lib.hid (HB2.out.trans (hb.mono HB2.out.size))
      replace HQ1 := Lib.hid (HQ1.out.keep hb)
      replace HY := Lib.hid (HY.out.below hb)
      have d2 := HQ1.out.c2
      clear hb HX c0 c1 c2
      go_wp2_with fail
      refine (iwrite_any HY.out (Nat.le_trans HL.out.2 (by omega))).mono ?_
      rintro e w5 ⟨rfl, hb⟩
      replace HB2 := Lib.hid (HB2.out.trans (hb.mono HB2.out.size))
      clear hb HY HQ1 d2
      go_wp2_with fail
      go_ret
      exact ⟨ret_int HE.out, HB2.out⟩
    · have HE := Lib.hid (show (0 : Int) = ((shortE q : Nat) : Int) by unfold shortE; rw [if_neg (fun h => h.elim h1 h2)]; rfl)
      have h2i : ¬ (1000 : Int) < (((dstr q.den).size : Nat) : Int) := by omega
      clear h1 h2
      go_enter Tryz.func121, Tryz.ntmps121
      go_wp2_with fail
      refine (HR.out _).mono ?_
      rintro e w2 ⟨v, rfl, hv, hb1⟩
      obtain ⟨a1, k1, a2, k2, rfl⟩ := hv.form
      obtain ⟨hb2, hq1⟩ := one_newQ w2 (ng q) (.slice a1 (ln (tp q)) k1) (.slice a2 (ln q.den) k2)
      have HX := Lib.hid (hv.below hb2).nums.2.1
      have HY := Lib.hid (hv.below hb2).nums.2.2
      have HB2 := Lib.hid (HB.out.trans ((hb1.trans (hb2.mono hb1.size)).mono HB.out.size))
      have HQ1 := Lib.hid hq1
      clear hv hb1 hb2 hq1 HR HB
      go_wp2_with fail
      generalize (w2.alloc (.cells #[.bool (ng q), .slice a1 (ln (tp q)) k1, .slice a2 (ln q.den) k2] 77)) = w3 at HX HY HB2 HQ1 ⊢
      have c0 := HQ1.out.c0
      have c1 := HQ1.out.c1
      have c2 := HQ1.out.c2
      refine (iwrite_any HX.out (Nat.le_trans HL.out.1 (by omega))).mono ?_
      rintro e w4 ⟨rfl, hb⟩
      replace HB2 := Lib.hid (HB2.out.trans (hb.mono HB2.out.size))
      replace HQ1 := Lib.hid (HQ1.out.keep hb)
      replace HY := Lib.hid (HY.out.below hb)
      have d2 := HQ1.out.c2
      clear hb HX c0 c1 c2
      go_wp2_with fail
      refine (iwrite_any HY.out (Nat.le_trans HL.out.2 (by omega))).mono ?_
      rintro e w5 ⟨rfl, hb⟩
      replace HB2 := Lib.hid (HB2.out.trans (hb.mono HB2.out.size))
      clear hb HY HQ1 d2
      go_wp2_with fail
      go_ret
      exact ⟨ret_int HE.out, HB2.out⟩

theorem short_prob {q : Rat} (hn : ng q = false) (hle : tp q ≤ q.den) : shortE q = probE q := by
  have e : probE q = if 1000 < (dstr q.den).size then 5 else 0 := by unfold probE probP; rw [hn, if_neg (by simp), if_neg (by omega)]
  rw [e]
  unfold shortE
  have h : (dstr (tp q)).size ≤ (dstr q.den).size := by rw [dstr_size, dstr_size]; exact dec_len_mono hle
  by_cases h2 : 1000 < (dstr q.den).size
  · rw [if_pos (.inr h2), if_pos h2]
  · rw [if_neg (fun h3 => h3.elim (by omega) h2), if_neg h2]

set_option maxHeartbeats 3200000 in
set_option maxRecDepth 100000 in
theorem rProbability_q {q : Rat} (op : QOk q) (w : World) :
    Calls Tryz.prog 57 #[.string (qstr q)] w fun e w' => e = .returned (.int .i64 ((probE q : Nat) : Int)) ∧ Below w.heap.size w w' := by
  have hck := fun W => rcheck_any (qstr q) W (Nat.le_trans (qstr_size op) (by omega))
  rw [qstr_chk op] at hck
  have HCK := Lib.hid hck
  have HR := Lib.hid (fun W => rread_q op W)
  have HSH := Lib.hid (fun W => rShort_any op W)
  have HL := Lib.hid (And.intro op.1.ln op.2.ln)
  generalize qstr q = sq at *
  clear op hck
  cases hn : ng q with
  | true =>
    have HE := Lib.hid (show (2 : Int) = ((probE q : Nat) : Int) by unfold probE probP; rw [hn]; rfl)
    go_enter Tryz.func57, Tryz.ntmps57
    go_wp2_with fail
    refine (HCK.out _).mono ?_
    rintro e w1 ⟨rfl, hb⟩
    have HB := Lib.hid hb
    clear hb HCK
    go_wp2_with fail
    refine (HR.out _).mono ?_
    rintro e w2 ⟨v, rfl, hv, hb1⟩
    obtain ⟨a1, k1, a2, k2, rfl⟩ := hv.form
    obtain ⟨hb2, hq1⟩ := one_newQ w2 (ng q) (.slice a1 (ln (tp q)) k1) (.slice a2 (ln q.den) k2)
    have HX := Lib.hid (hv.below hb2).nums.2.1
    have HY := Lib.hid (hv.below hb2).nums.2.2
    have HB2 := Lib.hid (HB.out.trans ((hb1.trans (hb2.mono hb1.size)).mono HB.out.size))
    rw [hn] at hq1
    have HQ1 := Lib.hid hq1
    rw [hn] at HX HY HB2
    clear hv hb1 hb2 hq1 HR HB
    rw [hn]
    go_wp2_with fail
    generalize (w2.alloc (.cells #[.bool (true), .slice a1 (ln (tp q)) k1, .slice a2 (ln q.den) k2] 77)) = w3 at HX HY HB2 HQ1 ⊢
    have c0 := HQ1.out.c0
    have c1 := HQ1.out.c1
    have c2 := HQ1.out.c2
    clear HX HY HQ1 HL
    go_wp2_with fail
    go_ret
    exact ⟨ret_int HE.out, HB2.out⟩
  | false =>
    by_cases hle : tp q ≤ q.den
    · have hcm : ¬ 0 < cmpN (tp q) q.den := by unfold cmpN; split <;> (try split) <;> omega
      have HE := Lib.hid (show shortE q = probE q from short_prob hn hle)
      clear hle
      go_enter Tryz.func57, Tryz.ntmps57
      go_wp2_with fail
      refine (HCK.out _).mono ?_
      rintro e w1 ⟨rfl, hb⟩
      have HB := Lib.hid hb
      clear hb HCK
      go_wp2_with fail
      refine (HR.out _).mono ?_
      rintro e w2 ⟨v, rfl, hv, hb1⟩
      obtain ⟨a1, k1, a2, k2, rfl⟩ := hv.form
      obtain ⟨hb2, hq1⟩ := one_newQ w2 (ng q) (.slice a1 (ln (tp q)) k1) (.slice a2 (ln q.den) k2)
      have HX := Lib.hid (hv.below hb2).nums.2.1
      have HY := Lib.hid (hv.below hb2).nums.2.2
      have HB2 := Lib.hid (HB.out.trans ((hb1.trans (hb2.mono hb1.size)).mono HB.out.size))
      rw [hn] at hq1
      have HQ1 := Lib.hid hq1
      rw [hn] at HX HY HB2
      clear hv hb1 hb2 hq1 HR HB
      rw [hn]
      go_wp2_with fail
      generalize (w2.alloc (.cells #[.bool (false), .slice a1 (ln (tp q)) k1, .slice a2 (ln q.den) k2] 77)) = w3 at HX HY HB2 HQ1 ⊢
      have c0 := HQ1.out.c0
      have c1 := HQ1.out.c1
      have c2 := HQ1.out.c2
      go_wp2_with fail
      refine (iorder_any HX.out HY.out (Nat.le_trans HL.out.1 (by omega)) (Nat.le_trans HL.out.2 (by omega))).mono ?_
      rintro e w4 ⟨rfl, hb⟩
      replace HB2 := Lib.hid (HB2.out.trans (hb.mono HB2.out.size))
      clear hb HX HY HQ1 c0 c1 c2 HL
      go_wp2_with fail
      refine (HSH.out _).mono ?_
      rintro e w5 ⟨rfl, hb⟩
      replace HB2 := Lib.hid (HB2.out.trans (hb.mono HB2.out.size))
      clear hb HSH
      go_wp2_with fail
      go_ret
      exact ⟨ret_int (by rw [HE.out]), HB2.out⟩
    · have hcm : 0 < cmpN (tp q) q.den := by unfold cmpN; rw [if_neg (by omega), if_pos (by omega)]; omega
      have HE := Lib.hid (show (2 : Int) = ((probE q : Nat) : Int) by unfold probE probP; rw [hn, if_neg (by simp), if_pos (by omega)]; rfl)
      clear hle
      go_enter Tryz.func57, Tryz.ntmps57
      go_wp2_with fail
      refine (HCK.out _).mono ?_
      rintro e w1 ⟨rfl, hb⟩
      have HB := Lib.hid hb
      clear hb HCK
      go_wp2_with fail
      refine (HR.out _).mono ?_
      rintro e w2 ⟨v, rfl, hv, hb1⟩
      obtain ⟨a1, k1, a2, k2, rfl⟩ := hv.form
      obtain ⟨hb2, hq1⟩ := one_newQ w2 (ng q) (.slice a1 (ln (tp q)) k1) (.slice a2 (ln q.den) k2)
      have HX := Lib.hid (hv.below hb2).nums.2.1
      have HY := Lib.hid (hv.below hb2).nums.2.2
      have HB2 := Lib.hid (HB.out.trans ((hb1.trans (hb2.mono hb1.size)).mono HB.out.size))
      rw [hn] at hq1
      have HQ1 := Lib.hid hq1
      rw [hn] at HX HY HB2
      clear hv hb1 hb2 hq1 HR HB
      rw [hn]
      go_wp2_with fail
      generalize (w2.alloc (.cells #[.bool (false), .slice a1 (ln (tp q)) k1, .slice a2 (ln q.den) k2] 77)) = w3 at HX HY HB2 HQ1 ⊢
      have c0 := HQ1.out.c0
      have c1 := HQ1.out.c1
      have c2 := HQ1.out.c2
      go_wp2_with fail
      refine (iorder_any HX.out HY.out (Nat.le_trans HL.out.1 (by omega)) (Nat.le_trans HL.out.2 (by omega))).mono ?_
      rintro e w4 ⟨rfl, hb⟩
      replace HB2 := Lib.hid (HB2.out.trans (hb.mono HB2.out.size))
      clear hb HX HY HQ1 c0 c1 c2 HL
      go_wp2_with fail
      go_ret
      exact ⟨ret_int HE.out, HB2.out⟩

set_option maxHeartbeats 1600000 in
theorem rProbability_any {s : ByteArray} (hs : s.size ≤ 1000000) (w : World) :
    Calls Tryz.prog 57 #[.string s] w fun e w' => e = .returned (.int .i64 ((prE s : Nat) : Int)) ∧ Below w.heap.size w w' := by
  by_cases h0 : rchk s = 0
  · obtain ⟨q, rfl, op⟩ := rchk_rat h0
    rw [prE_q op]
    exact rProbability_q op w
  · rw [prE_chk h0]
    have HCK := Lib.hid (rcheck_any s w (by omega))
    have hne := errne h0
    generalize rchk s = c at *
    clear h0
    go_enter Tryz.func57, Tryz.ntmps57
    go_wp2_with fail
    refine HCK.out.mono ?_
    rintro e w1 ⟨rfl, hb⟩
    have HB := Lib.hid hb
    clear hb HCK
    go_wp2_with fail
    go_ret
    exact ⟨rfl, HB.out⟩

set_option maxHeartbeats 1600000 in
theorem rBits_any (s : ByteArray) (w : World) (hs : s.size ≤ 140737488351232) :
    Calls Tryz.prog 58 #[.string s] w fun e w' => e = .returned (.int .i64 ((schk s : Nat) : Int)) ∧ w = w' := by
  have HC := Lib.hid (rCheck3_any s w hs)
  by_cases hb : IsBits s.data.toList
  · rw [bchk_yes hb] at HC
    by_cases hz : 256 < s.size
    · have HR := Lib.hid (show (4 : Int) = ((schk s : Nat) : Int) by unfold schk; rw [bchk_yes hb, if_neg (by omega), if_pos hz]; rfl)
      clear hb
      go_enter Tryz.func58, Tryz.ntmps58
      go_wp2_with fail
      refine HC.out.mono ?_
      rintro e w1 ⟨rfl, rfl⟩
      clear HC
      go_wp2_with fail
      go_ret
      exact ⟨ret_int HR.out, rfl⟩
    · have HR := Lib.hid (show (0 : Int) = ((schk s : Nat) : Int) by unfold schk; rw [bchk_yes hb, if_neg (by omega), if_neg hz]; rfl)
      clear hb
      go_enter Tryz.func58, Tryz.ntmps58
      go_wp2_with fail
      refine HC.out.mono ?_
      rintro e w1 ⟨rfl, rfl⟩
      clear HC
      go_wp2_with fail
      go_ret
      exact ⟨ret_int HR.out, rfl⟩
  · rw [bchk_no hb] at HC
    have HR := Lib.hid (show (3 : Int) = ((schk s : Nat) : Int) by unfold schk; rw [bchk_no hb, if_pos (by omega)]; rfl)
    clear hb
    go_enter Tryz.func58, Tryz.ntmps58
    go_wp2_with fail
    refine HC.out.mono ?_
    rintro e w1 ⟨rfl, rfl⟩
    clear HC
    go_wp2_with fail
    go_ret
    exact ⟨ret_int HR.out, rfl⟩

/-- Whether the cell of a bit string lies below a probability N / D. -/
def decZ (N D : Nat) (l : List UInt8) : Bool := decide (N * 2 ^ l.length ≤ bv l * D)
/-- Whether it lies above. -/
def decO (N D : Nat) (l : List UInt8) : Bool := decide ((bv l + 1) * D ≤ N * 2 ^ l.length)

theorem ln_thou {N k : Nat} (e : Nat) (he : e ≤ 300) (h : (dstr N).size ≤ 1000) (hk : k ≤ 2 ^ e) : ln (N * k) ≤ 445 ∧ ln (k * N) ≤ 445 := by
  obtain ⟨K, hK⟩ : ∃ K, K = 1000 := ⟨_, rfl⟩
  rw [← hK, dstr_size, dec_len_le (by omega)] at h
  have h1 : (2 : Nat) ^ e ≤ 10 ^ e := Nat.pow_le_pow_left (by omega) e
  have h2 : N * k < 10 ^ K * 10 ^ e := Nat.mul_lt_mul_of_lt_of_le h (Nat.le_trans hk h1) (Nat.pow_pos (by omega))
  rw [← Nat.pow_add] at h2
  have := (ok_small (by omega) h2).ln
  exact ⟨this, by rw [Nat.mul_comm]; exact this⟩
theorem cmp_le {a b : Nat} (h : a ≤ b) : cmpN a b ≤ 0 := by unfold cmpN; split <;> (try split) <;> omega
theorem cmp_gt {a b : Nat} (h : ¬ a ≤ b) : ¬ cmpN a b ≤ 0 := by unfold cmpN; rw [if_neg (by omega), if_pos (by omega)]; omega

set_option maxHeartbeats 6400000 in
set_option maxRecDepth 100000 in
theorem rDecides_any {v : Value} {q : Rat} {s : ByteArray} (hN : (dstr (tp q)).size ≤ 1000) (hD : (dstr q.den).size ≤ 1000) (hb : IsBits s.data.toList) (hs : s.size ≤ 256) (w : World) (hq : QQ w v q) :
    Calls Tryz.prog 126 #[v, .string s] w fun e w' => e = .returned (.tuple #[.int .i64 (if decZ (tp q) q.den s.data.toList then 0 else 1), .bool (decZ (tp q) q.den s.data.toList || decO (tp q) q.den s.data.toList)]) ∧ Below w.heap.size w w' := by
  have HV := Lib.hid (fun W => rValue_ok hb hs W)
  have HT := Lib.hid (fun W => rTwo_ok s.size hs W)
  have hlt := bv_lt _ hb
  have hlen : s.data.toList.length = s.size := (Go.Lib.size_eq s).symm
  rw [hlen] at hlt
  have hz : decZ (tp q) q.den s.data.toList = decide (tp q * 2 ^ s.size ≤ bv s.data.toList * q.den) := by unfold decZ; rw [hlen]
  have ho : decO (tp q) q.den s.data.toList = decide (bv s.data.toList * q.den + q.den ≤ tp q * 2 ^ s.size) := by unfold decO; rw [hlen, Nat.succ_mul]
  have l1 := (ln_thou (k := 1) 0 (by omega) hN (Nat.le_refl _)).1
  have l2 := (ln_thou (k := 1) 0 (by omega) hD (Nat.le_refl _)).1
  rw [Nat.mul_one] at l1 l2
  have l3 := (ln_thou (k := 2 ^ s.size) s.size (by omega) hN (Nat.le_refl _)).1
  have l4 := (ln_thou (k := bv s.data.toList) s.size (by omega) hD (by omega)).2
  have l5 := (ln_thou (k := bv s.data.toList + 1) s.size (by omega) hD (by omega)).2
  rw [Nat.succ_mul] at l5
  have l6 := lnb (a := bv s.data.toList) s.size (by omega) (by omega)
  have l7 := lnb (a := 2 ^ s.size) s.size (by omega) (Nat.le_refl _)
  have HL := Lib.hid (And.intro l1 (And.intro l2 (And.intro l3 (And.intro l4 (And.intro l5 (And.intro l6 l7))))))
  rw [hz, ho]
  generalize bv s.data.toList = K at *
  generalize 2 ^ s.size = P at *
  obtain ⟨a1, k1, a2, k2, rfl⟩ := hq.form
  obtain ⟨_, hx, hy⟩ := hq.nums
  obtain ⟨hb0, hq1⟩ := one_newQ w (ng q) (.slice a1 (ln (tp q)) k1) (.slice a2 (ln q.den) k2)
  have HX := Lib.hid (hx.below hb0)
  have HY := Lib.hid (hy.below hb0)
  have HB := Lib.hid hb0
  have HQ1 := Lib.hid hq1
  clear hx hy hb0 hq1 hq hz ho l1 l2 l3 l4 l5 l6 l7 hN hD hb hlt hlen
  generalize tp q = N at *
  generalize q.den = D at *
  generalize ng q = m at *
  by_cases hc : N * P ≤ K * D
  · have hcm := cmp_le hc
    rw [decide_eq_true hc, Bool.true_or, if_pos rfl]
    clear hc
    go_enter Tryz.func126, Tryz.ntmps126
    go_wp2_with fail
    generalize w.alloc (.cells #[.bool m, .slice a1 (ln N) k1, .slice a2 (ln D) k2] 77) = w0 at HX HY HB HQ1 ⊢
    refine (HV.out _).mono ?_
    rintro e w1 ⟨v, rfl, hv, hb⟩
    obtain ⟨a3, k3, rfl⟩ := islice_any hv
    replace HB := Lib.hid (HB.out.trans (hb.mono HB.out.size))
    replace HX := Lib.hid (HX.out.below hb)
    replace HY := Lib.hid (HY.out.below hb)
    replace HQ1 := Lib.hid (HQ1.out.keep hb)
    have HK := Lib.hid hv
    clear hv hb HV
    go_wp2_with fail
    have HS := Lib.hid (show ∀ W, Below w1.heap.size w1 W → W.cell? ⟨w.heap.size, 1, none⟩ = some (.slice a1 (ln N) k1) from fun W h => (HQ1.out.keep h).c1)
    have hD := (Below.refl w1.heap.size w1).drew
    go_region_held3 (fun W => W.cell? ⟨w.heap.size, 1, none⟩ = some (.slice a1 (ln N) k1))
      (first | exact HS.out _ hD | exact HS.out _ (by assumption))
      (first
        | (go_at_call 66; refine (lift_i (w0 := w1) (by assumption) (HT.out _)).mono ?_; rintro e u1 ⟨vt, rfl, hvt, hbt, hBt⟩; obtain ⟨az, kz, rfl⟩ := islice_any hvt)
        | (go_at_call 76; refine (lift_i (w0 := w1) (by assumption) (itimes_any (HX.out.below (by assumption)) hvt (Nat.le_trans HL.out.1 (by omega)) (Nat.le_trans HL.out.2.2.2.2.2.2 (by omega)))).mono ?_; rintro e u2 ⟨vh, rfl, hvh, hbh, hBh⟩; obtain ⟨ah, kh, rfl⟩ := islice_any hvh))
    replace HB := Lib.hid (HB.out.trans (hBh.mono HB.out.size))
    replace HX := Lib.hid (And.intro hvh (And.intro (HY.out.below hBh) (HK.out.below hBh)))
    replace HQ1 := Lib.hid (HQ1.out.keep hBh)
    have c2 := HQ1.out.c2
    clear hvt hbt hBt hvh hbh hBh hD HS HK HY HT
    go_wp2_with fail
    refine (itimes_any HX.out.2.2 HX.out.2.1 (Nat.le_trans HL.out.2.2.2.2.2.1 (by omega)) (Nat.le_trans HL.out.2.1 (by omega))).mono ?_
    rintro e w4 ⟨v, rfl, hv, hb⟩
    obtain ⟨a6, k6, rfl⟩ := islice_any hv
    replace HB := Lib.hid (HB.out.trans (hb.mono HB.out.size))
    replace HX := Lib.hid (And.intro (HX.out.1.below hb) (And.intro hv (HX.out.2.1.below hb)))
    replace HQ1 := Lib.hid (HQ1.out.keep hb)
    have d2 := HQ1.out.c2
    clear hv hb c2
    go_wp2_with fail
    refine (iorder_any HX.out.1 HX.out.2.1 (Nat.le_trans HL.out.2.2.1 (by omega)) (Nat.le_trans HL.out.2.2.2.1 (by omega))).mono ?_
    rintro e w5 ⟨rfl, hb⟩
    replace HB := Lib.hid (HB.out.trans (hb.mono HB.out.size))
    replace HX := Lib.hid (And.intro (HX.out.1.below hb) (And.intro (HX.out.2.1.below hb) (HX.out.2.2.below hb)))
    replace HQ1 := Lib.hid (HQ1.out.keep hb)
    have e2 := HQ1.out.c2
    clear hb d2
    go_wp2_with fail
    go_ret2
    exact ⟨rfl, HB.out⟩
  · have hcm := cmp_gt hc
    have HR := Lib.hid (show decide (cmpN (K * D + D) (N * P) ≤ 0) = decide (K * D + D ≤ N * P) by
      by_cases h : K * D + D ≤ N * P
      · rw [decide_eq_true h, decide_eq_true (cmp_le h)]
      · rw [decide_eq_false h, decide_eq_false (cmp_gt h)])
    rw [decide_eq_false hc, Bool.false_or, if_neg (by simp)]
    clear hc
    go_enter Tryz.func126, Tryz.ntmps126
    go_wp2_with fail
    generalize w.alloc (.cells #[.bool m, .slice a1 (ln N) k1, .slice a2 (ln D) k2] 77) = w0 at HX HY HB HQ1 ⊢
    refine (HV.out _).mono ?_
    rintro e w1 ⟨v, rfl, hv, hb⟩
    obtain ⟨a3, k3, rfl⟩ := islice_any hv
    replace HB := Lib.hid (HB.out.trans (hb.mono HB.out.size))
    replace HX := Lib.hid (HX.out.below hb)
    replace HY := Lib.hid (HY.out.below hb)
    replace HQ1 := Lib.hid (HQ1.out.keep hb)
    have HK := Lib.hid hv
    clear hv hb HV
    go_wp2_with fail
    have HS := Lib.hid (show ∀ W, Below w1.heap.size w1 W → W.cell? ⟨w.heap.size, 1, none⟩ = some (.slice a1 (ln N) k1) from fun W h => (HQ1.out.keep h).c1)
    have hD := (Below.refl w1.heap.size w1).drew
    go_region_held3 (fun W => W.cell? ⟨w.heap.size, 1, none⟩ = some (.slice a1 (ln N) k1))
      (first | exact HS.out _ hD | exact HS.out _ (by assumption))
      (first
        | (go_at_call 66; refine (lift_i (w0 := w1) (by assumption) (HT.out _)).mono ?_; rintro e u1 ⟨vt, rfl, hvt, hbt, hBt⟩; obtain ⟨az, kz, rfl⟩ := islice_any hvt)
        | (go_at_call 76; refine (lift_i (w0 := w1) (by assumption) (itimes_any (HX.out.below (by assumption)) hvt (Nat.le_trans HL.out.1 (by omega)) (Nat.le_trans HL.out.2.2.2.2.2.2 (by omega)))).mono ?_; rintro e u2 ⟨vh, rfl, hvh, hbh, hBh⟩; obtain ⟨ah, kh, rfl⟩ := islice_any hvh))
    replace HB := Lib.hid (HB.out.trans (hBh.mono HB.out.size))
    replace HX := Lib.hid (And.intro hvh (And.intro (HY.out.below hBh) (HK.out.below hBh)))
    replace HQ1 := Lib.hid (HQ1.out.keep hBh)
    have c2 := HQ1.out.c2
    clear hvt hbt hBt hvh hbh hBh hD HS HK HY HT
    go_wp2_with fail
    refine (itimes_any HX.out.2.2 HX.out.2.1 (Nat.le_trans HL.out.2.2.2.2.2.1 (by omega)) (Nat.le_trans HL.out.2.1 (by omega))).mono ?_
    rintro e w4 ⟨v, rfl, hv, hb⟩
    obtain ⟨a6, k6, rfl⟩ := islice_any hv
    replace HB := Lib.hid (HB.out.trans (hb.mono HB.out.size))
    replace HX := Lib.hid (And.intro (HX.out.1.below hb) (And.intro hv (HX.out.2.1.below hb)))
    replace HQ1 := Lib.hid (HQ1.out.keep hb)
    have d2 := HQ1.out.c2
    clear hv hb c2
    go_wp2_with fail
    refine (iorder_any HX.out.1 HX.out.2.1 (Nat.le_trans HL.out.2.2.1 (by omega)) (Nat.le_trans HL.out.2.2.2.1 (by omega))).mono ?_
    rintro e w5 ⟨rfl, hb⟩
    replace HB := Lib.hid (HB.out.trans (hb.mono HB.out.size))
    replace HX := Lib.hid (And.intro (HX.out.1.below hb) (And.intro (HX.out.2.1.below hb) (HX.out.2.2.below hb)))
    replace HQ1 := Lib.hid (HQ1.out.keep hb)
    have e2 := HQ1.out.c2
    clear hb d2
    go_wp2_with fail
    refine (iplus_any HX.out.2.1 HX.out.2.2 (Nat.le_trans HL.out.2.2.2.1 (by omega)) (Nat.le_trans HL.out.2.1 (by omega)) (Nat.le_trans HL.out.2.2.2.2.1 (by omega))).mono ?_
    rintro e w6 ⟨v, rfl, hv, hb⟩
    obtain ⟨a7, k7, rfl⟩ := islice_any hv
    replace HB := Lib.hid (HB.out.trans (hb.mono HB.out.size))
    replace HX := Lib.hid (And.intro (HX.out.1.below hb) hv)
    clear hv hb HQ1 e2
    go_wp2_with fail
    refine (iorder_any HX.out.2 HX.out.1 (Nat.le_trans HL.out.2.2.2.2.1 (by omega)) (Nat.le_trans HL.out.2.2.1 (by omega))).mono ?_
    rintro e w7 ⟨rfl, hb⟩
    replace HB := Lib.hid (HB.out.trans (hb.mono HB.out.size))
    clear hb HX
    go_wp2_with fail
    go_ret2
    exact ⟨by rw [← HR.out]; rfl, HB.out⟩

/-- Whether the first bits decide, and for what, told by the draw. -/
theorem toss_dec {N D : Nat} {l : List UInt8} (hD : 0 < D) (hb : IsBits l) (u : Nat) : (tossF D l N u).1 = (decZ N D l || decO N D l) ∧ ((tossF D l N u).1 = true → (tossF D l N u).2.1 = if decZ N D l then 0 else 1) := by
  obtain ⟨h1, h2, h3⟩ := toss_val hD l N u hb
  by_cases hz : N * 2 ^ l.length ≤ bv l * D
  · obtain ⟨e1, e2⟩ := h1 hz
    have : decZ N D l = true := decide_eq_true hz
    rw [this, e1, e2]; exact ⟨rfl, fun _ => rfl⟩
  · have hz' : decZ N D l = false := decide_eq_false hz
    by_cases ho : (bv l + 1) * D ≤ N * 2 ^ l.length
    · obtain ⟨e1, e2⟩ := h2 hz ho
      have : decO N D l = true := decide_eq_true ho
      rw [this, hz', e1, e2]; exact ⟨rfl, fun _ => rfl⟩
    · obtain ⟨e1, e2⟩ := h3 hz ho
      have : decO N D l = false := decide_eq_false ho
      rw [this, hz', e1]; exact ⟨rfl, fun h => by cases h⟩
/-- The prefixes below what is used don't decide; that of what is used does. -/
theorem toss_first {N D : Nat} {l : List UInt8} (hD : 0 < D) (hb : IsBits l) :
    ((tossF D l N 0).1 = true → (tossF D l N 0).2.2 ≤ l.length ∧ (∀ k, k < (tossF D l N 0).2.2 → (decZ N D (l.take k) || decO N D (l.take k)) = false) ∧
      (decZ N D (l.take (tossF D l N 0).2.2) || decO N D (l.take (tossF D l N 0).2.2)) = true ∧ (tossF D l N 0).2.1 = if decZ N D (l.take (tossF D l N 0).2.2) then 0 else 1) ∧
    ((tossF D l N 0).1 = false → tossF D l N 0 = (false, 0, l.length) ∧ ∀ k, (decZ N D (l.take k) || decO N D (l.take k)) = false) := by
  constructor
  · intro h
    obtain ⟨h1, h2, _⟩ := toss_least l N 0 h
    rw [Nat.sub_zero] at h1 h2
    have hu := (toss_used (D := D) l N 0).2
    obtain ⟨d1, d2⟩ := toss_dec (N := N) (D := D) hD (hb.take (tossF D l N 0).2.2) 0
    rw [h1] at d1 d2
    refine ⟨by omega, fun k hk => ?_, by rw [← d1, h], d2 h⟩
    rw [← (toss_dec (N := N) (D := D) hD (hb.take k) 0).1]; exact h2 k hk
  · intro h
    refine ⟨by have := toss_open l N 0 h; rw [this, Nat.zero_add], fun k => ?_⟩
    rw [← (toss_dec (N := N) (D := D) hD (hb.take k) 0).1]
    cases hk : (tossF D (l.take k) N 0).1 with
    | false => rfl
    | true =>
      have := (toss_more (D := D) (l.take k) (l.drop k) N 0).1 hk
      rw [List.take_append_drop] at this
      rw [this, hk] at h; cases h

open Go.RowKit NV
open Go.Lib (decDigits)

theorem DB.resultRT {w : World} {b : Nat} {d : Bool} {v u : Int} {tmps : Array Value} (h : DB w b d v u) (ht : tmps.getD 4 undef = .pointer (some ⟨b, 0, none⟩)) : (results Tryz.f60 tmps).run Tryz.prog w = .ok (.agg #[.bool d, .int .i64 v, .int .i64 u]) w := by
  have hl := h.load
  have ht' : tmps[4]?.getD undef = .pointer (some ⟨b, 0, none⟩) := by rw [← ht]; simp
  simp [results, ht', asAddr, hl]
theorem DB.resultRD {w : World} {b : Nat} {d : Bool} {v u : Int} {tmps : Array Value} {x : Value} (h : DB w b d v u) (ht : tmps.getD 4 undef = .pointer (some ⟨b, 0, none⟩)) (hx : tmps.getD 5 undef = x) : (results Tryz.f12 tmps).run Tryz.prog w = .ok (.tuple #[.agg #[.bool d, .int .i64 v, .int .i64 u], x]) w := by
  have hl := h.load
  have ht' : tmps[4]?.getD undef = .pointer (some ⟨b, 0, none⟩) := by rw [← ht]; simp
  have hx' : tmps[5]?.getD undef = x := by rw [← hx]; simp
  simp [results, ht', hx', asAddr, hl]
theorem ext_take (s : ByteArray) (k : Nat) : (s.extract 0 k).data.toList = s.data.toList.take k := by
  simp [ByteArray.data_extract]

set_option maxHeartbeats 6400000 in
set_option maxRecDepth 100000 in
theorem rToss_ok {v : Value} {q : Rat} {b : ByteArray} (hN : (dstr (tp q)).size ≤ 1000) (hD : (dstr q.den).size ≤ 1000) (hb : IsBits b.data.toList) (hs : b.size ≤ 256) (w : World) (hq : QQ w v q) :
    Calls Tryz.prog 60 #[v, .string b] w fun e w' => e = .returned (tossR (tossF q.den b.data.toList (tp q) 0)) ∧ Below w.heap.size w w' := by
  obtain ⟨f1, f2⟩ := toss_first (N := tp q) (D := q.den) q.den_pos hb
  have hlen : b.data.toList.length = b.size := (Go.Lib.size_eq b).symm
  rw [hlen] at f1 f2
  have HDC := Lib.hid (fun (s : ByteArray) (h1 : IsBits s.data.toList) (h2 : s.size ≤ 256) (W : World) (hW : QQ W v q) => rDecides_any hN hD h1 h2 W hW)
  have HEX := Lib.hid (fun k => ext_take b k)
  have HBT := Lib.hid hb
  obtain ⟨a1, k1, a2, k2, rfl⟩ := hq.form
  obtain ⟨hb0, hq1⟩ := one_newQ w (ng q) (.slice a1 (ln (tp q)) k1) (.slice a2 (ln q.den) k2)
  have hb1 : Below w.heap.size w ((w.alloc (.cells #[.bool (ng q), .slice a1 (ln (tp q)) k1, .slice a2 (ln q.den) k2] 77)).alloc (.cells #[.bool false, .int .i64 0, .int .i64 0] 26)) := hb0.alloc hb0.size _
  have hbA : Below (w.alloc (.cells #[.bool (ng q), .slice a1 (ln (tp q)) k1, .slice a2 (ln q.den) k2] 77)).heap.size (w.alloc (.cells #[.bool (ng q), .slice a1 (ln (tp q)) k1, .slice a2 (ln q.den) k2] 77)) ((w.alloc (.cells #[.bool (ng q), .slice a1 (ln (tp q)) k1, .slice a2 (ln q.den) k2] 77)).alloc (.cells #[.bool false, .int .i64 0, .int .i64 0] 26)) := (Below.refl _ _).alloc (Nat.le_refl _) _
  have hdb := DB.new (w.alloc (.cells #[.bool (ng q), .slice a1 (ln (tp q)) k1, .slice a2 (ln q.den) k2] 77))
  rw [World.size_alloc] at hdb
  have HQ1 := Lib.hid (hq1.keep hbA)
  have HDB := Lib.hid hdb
  have HQQ := Lib.hid (fun W (hW : Below ((w.alloc (.cells #[.bool (ng q), .slice a1 (ln (tp q)) k1, .slice a2 (ln q.den) k2] 77)).alloc (.cells #[.bool false, .int .i64 0, .int .i64 0] 26)).heap.size ((w.alloc (.cells #[.bool (ng q), .slice a1 (ln (tp q)) k1, .slice a2 (ln q.den) k2] 77)).alloc (.cells #[.bool false, .int .i64 0, .int .i64 0] 26)) W) => (hq.below hb1).below hW)
  have HB1 := Lib.hid hb1
  clear hb0 hq1 hb1 hbA hdb hq hN hD hb hlen
  generalize hTT : tossF q.den b.data.toList (tp q) 0 = T at *
  obtain ⟨d, x, u⟩ := T
  generalize tp q = N at *
  generalize q.den = D at *
  generalize ng q = m at *
  have HTF := Lib.hid hTT
  clear hTT
  go_enter Tryz.func60, Tryz.ntmps60
  go_wp2_with fail
  generalize (w.alloc (.cells #[.bool m, .slice a1 (ln N) k1, .slice a2 (ln D) k2] 77)).alloc (.cells #[.bool false, .int .i64 0, .int .i64 0] 26) = w0 at HQ1 HDB HQQ HB1 ⊢
  cases d with
  | true =>
    obtain ⟨hu, hlow, hyes, hval⟩ := f1 rfl
    have HF := Lib.hid (And.intro hlow (And.intro hyes hval))
    clear f1 f2 hlow hyes hval
    go_loopw [5] (fun iv wr => ∃ k : Nat, k ≤ u ∧ iv = .int .i64 (k : Int) ∧ Below w0.heap.size w0 wr) (fun iv _ => u - (intOf iv).toNat)
    case atStart => exact ⟨0, Nat.zero_le _, rfl, Below.refl _ _⟩
    case round =>
      obtain ⟨k, hk, rfl, hb⟩ := hrel
      have HDEC := Lib.hid (fun W (hW0 : Below wr.heap.size wr W) => (have hW := hb.trans (hW0.mono hb.size); (HDC.out (b.extract 0 k) (by rw [HEX.out k]; exact HBT.out.take k) (by rw [ByteArray.size_extract]; omega) W (HQQ.out W hW)).mono (fun _ _ h => And.intro h.1 (And.intro h.2 (hW0.trans (h.2.mono hW0.size))))))
      rw [HEX.out k] at HDEC
      have HS := Lib.hid (show ∀ W, Below wr.heap.size wr W → W.cell? ⟨w.heap.size, 0, none⟩ = some (.bool m) ∧ W.cell? ⟨w.heap.size, 1, none⟩ = some (.slice a1 (ln N) k1) ∧ W.cell? ⟨w.heap.size, 2, none⟩ = some (.slice a2 (ln D) k2) from fun W h => (by
        have hq := HQ1.out.keep (hb.trans (h.mono hb.size))
        exact ⟨hq.c0, hq.c1, hq.c2⟩))
      have HB0 := Lib.hid hb
      have hD := (Below.refl wr.heap.size wr).drew
      have hks : k ≤ b.size := by omega
      clear hb
      by_cases hlt : k < u
      · rw [HF.out.1 k hlt] at HDEC
        generalize (if decZ N D (b.data.toList.take k) = true then (0 : Int) else 1) = vv at HDEC
        go_wp2_with fail
        go_region_held3 (fun W => W.cell? ⟨w.heap.size, 0, none⟩ = some (.bool m) ∧ W.cell? ⟨w.heap.size, 1, none⟩ = some (.slice a1 (ln N) k1) ∧ W.cell? ⟨w.heap.size, 2, none⟩ = some (.slice a2 (ln D) k2))
          (first | exact HS.out _ hD | exact HS.out _ (by assumption))
          (first
            | (go_at_call 126; refine (HDEC.out _ (by assumption)).mono ?_; rintro e u1 ⟨rfl, hbd, hBd⟩))
        have HB2 := Lib.hid (HB0.out.trans (hBd.mono HB0.out.size))
        clear hbd hBd hD HS HDEC HB0
        go_wp2_with fail
        go_roundw
        case rel => exact ⟨k + 1, by omega, by go_num, HB2.out⟩
        case measure => simp [intOf]; omega
      · obtain rfl : k = u := by omega
        have hxv : (if decZ N D (b.data.toList.take k) = true then (0 : Int) else 1) = (x : Int) := by rw [HF.out.2.2]; split <;> rfl
        rw [HF.out.2.1, hxv] at HDEC
        clear hxv
        go_wp2_with fail
        go_region_held3 (fun W => W.cell? ⟨w.heap.size, 0, none⟩ = some (.bool m) ∧ W.cell? ⟨w.heap.size, 1, none⟩ = some (.slice a1 (ln N) k1) ∧ W.cell? ⟨w.heap.size, 2, none⟩ = some (.slice a2 (ln D) k2))
          (first | exact HS.out _ hD | exact HS.out _ (by assumption))
          (first
            | (go_at_call 126; refine (HDEC.out _ (by assumption)).mono ?_; rintro e u1 ⟨rfl, hbd, hBd⟩))
        have hB0 := HB0.out.trans (hBd.mono HB0.out.size)
        have hd := HDB.out.below hB0
        have HB2 := Lib.hid (HB1.out.trans (hB0.mono HB1.out.size))
        clear hB0
        clear hbd hBd hD HS HDEC HB0 HDB
        have d0 : u1.cell? ⟨w.heap.size + 1, 0, none⟩ = some (.bool false) := by rw [Lib.cell_of_heap hd]; rfl
        have d1 : u1.cell? ⟨w.heap.size + 1, 1, none⟩ = some (.int .i64 0) := by rw [Lib.cell_of_heap hd]; rfl
        have d2 : u1.cell? ⟨w.heap.size + 1, 2, none⟩ = some (.int .i64 0) := by rw [Lib.cell_of_heap hd]; rfl
        have gd0 : u1.frozen? ⟨w.heap.size + 1, 0, none⟩ = false := Lib.frozen_of_heap hd 0
        have gd1 : u1.frozen? ⟨w.heap.size + 1, 1, none⟩ = false := Lib.frozen_of_heap hd 1
        have gd2 : u1.frozen? ⟨w.heap.size + 1, 2, none⟩ = false := Lib.frozen_of_heap hd 2
        have HD := Lib.hid hd
        clear hd
        go_wp2_with fail
        exact bodyPost_ret ((HD.out.st true (x : Int) (k : Int)).resultRT rfl) rfl ⟨rfl, below_sd3 HB2.out (by omega) _ _ _⟩
  | false =>
    obtain ⟨hT, hno⟩ := f2 rfl
    simp only [Prod.mk.injEq, true_and] at hT
    obtain ⟨rfl, rfl⟩ := hT
    have HF := Lib.hid hno
    clear f1 f2 hno
    go_loopw [5] (fun iv wr => ∃ k : Nat, k ≤ b.size + 1 ∧ iv = .int .i64 (k : Int) ∧ Below w0.heap.size w0 wr) (fun iv _ => b.size + 1 - (intOf iv).toNat)
    case atStart => exact ⟨0, Nat.zero_le _, rfl, Below.refl _ _⟩
    case round =>
      obtain ⟨k, hk, rfl, hb⟩ := hrel
      by_cases hlt : k ≤ b.size
      · have HDEC := Lib.hid (fun W (hW0 : Below wr.heap.size wr W) => (have hW := hb.trans (hW0.mono hb.size); (HDC.out (b.extract 0 k) (by rw [HEX.out k]; exact HBT.out.take k) (by rw [ByteArray.size_extract]; omega) W (HQQ.out W hW)).mono (fun _ _ h => And.intro h.1 (And.intro h.2 (hW0.trans (h.2.mono hW0.size))))))
        rw [HEX.out k] at HDEC
        have HS := Lib.hid (show ∀ W, Below wr.heap.size wr W → W.cell? ⟨w.heap.size, 0, none⟩ = some (.bool m) ∧ W.cell? ⟨w.heap.size, 1, none⟩ = some (.slice a1 (ln N) k1) ∧ W.cell? ⟨w.heap.size, 2, none⟩ = some (.slice a2 (ln D) k2) from fun W h => (by
          have hq := HQ1.out.keep (hb.trans (h.mono hb.size))
          exact ⟨hq.c0, hq.c1, hq.c2⟩))
        have HB0 := Lib.hid hb
        have hD := (Below.refl wr.heap.size wr).drew
        clear hb
        rw [HF.out k] at HDEC
        generalize (if decZ N D (b.data.toList.take k) = true then (0 : Int) else 1) = vv at HDEC
        go_wp2_with fail
        go_region_held3 (fun W => W.cell? ⟨w.heap.size, 0, none⟩ = some (.bool m) ∧ W.cell? ⟨w.heap.size, 1, none⟩ = some (.slice a1 (ln N) k1) ∧ W.cell? ⟨w.heap.size, 2, none⟩ = some (.slice a2 (ln D) k2))
          (first | exact HS.out _ hD | exact HS.out _ (by assumption))
          (first
            | (go_at_call 126; refine (HDEC.out _ (by assumption)).mono ?_; rintro e u1 ⟨rfl, hbd, hBd⟩))
        have HB2 := Lib.hid (HB0.out.trans (hBd.mono HB0.out.size))
        clear hbd hBd hD HS HDEC HB0
        go_wp2_with fail
        go_roundw
        case rel => exact ⟨k + 1, by omega, by go_num, HB2.out⟩
        case measure => simp [intOf]; omega
      · have hd := HDB.out.below hb
        have HB2 := Lib.hid (HB1.out.trans (hb.mono HB1.out.size))
        clear hb HDB
        have d0 : wr.cell? ⟨w.heap.size + 1, 0, none⟩ = some (.bool false) := by rw [Lib.cell_of_heap hd]; rfl
        have d1 : wr.cell? ⟨w.heap.size + 1, 1, none⟩ = some (.int .i64 0) := by rw [Lib.cell_of_heap hd]; rfl
        have d2 : wr.cell? ⟨w.heap.size + 1, 2, none⟩ = some (.int .i64 0) := by rw [Lib.cell_of_heap hd]; rfl
        have gd0 : wr.frozen? ⟨w.heap.size + 1, 0, none⟩ = false := Lib.frozen_of_heap hd 0
        have gd1 : wr.frozen? ⟨w.heap.size + 1, 1, none⟩ = false := Lib.frozen_of_heap hd 1
        have gd2 : wr.frozen? ⟨w.heap.size + 1, 2, none⟩ = false := Lib.frozen_of_heap hd 2
        have HD := Lib.hid hd
        clear hd
        go_wp2_with fail
        exact bodyPost_ret ((HD.out.st false 0 (b.size : Int)).resultRT rfl) rfl ⟨rfl, below_sd3 HB2.out (by omega) _ _ _⟩

open Go.RowKit NV
open Go.Lib (decDigits)

set_option maxHeartbeats 3200000 in
set_option maxRecDepth 100000 in
theorem rDraw_p {s b : ByteArray} (hs : s.size ≤ 1000000) (hp : prE s ≠ 0) (w : World) :
    Calls Tryz.prog 12 #[.string s, .string b] w fun e w' => e = .returned (.tuple #[tossR (false, 0, 0), .int .i64 ((prE s : Nat) : Int)]) ∧ Below w.heap.size w w' := by
  have HP := Lib.hid (fun W => rProbability_any hs W)
  have HB := Lib.hid ((Below.refl w.heap.size w).alloc (Nat.le_refl _) (.cells #[.bool false, .int .i64 0, .int .i64 0] 26))
  have HD := Lib.hid (DB.new w)
  have hne := errne hp
  generalize prE s = c at *
  clear hs hp
  go_enter Tryz.func12, Tryz.ntmps12
  go_wp2_with fail
  refine (HP.out _).mono ?_
  rintro e w3 ⟨rfl, hb3⟩
  replace HB := Lib.hid (HB.out.trans (hb3.mono HB.out.size))
  have hd := HD.out.below hb3
  clear hb3 HP HD
  have d0 : w3.cell? ⟨w.heap.size, 0, none⟩ = some (.bool false) := by rw [Lib.cell_of_heap hd]; rfl
  have d1 : w3.cell? ⟨w.heap.size, 1, none⟩ = some (.int .i64 0) := by rw [Lib.cell_of_heap hd]; rfl
  have d2 : w3.cell? ⟨w.heap.size, 2, none⟩ = some (.int .i64 0) := by rw [Lib.cell_of_heap hd]; rfl
  have g0 : w3.frozen? ⟨w.heap.size, 0, none⟩ = false := Lib.frozen_of_heap hd 0
  have g1 : w3.frozen? ⟨w.heap.size, 1, none⟩ = false := Lib.frozen_of_heap hd 1
  have g2 : w3.frozen? ⟨w.heap.size, 2, none⟩ = false := Lib.frozen_of_heap hd 2
  have HD := Lib.hid hd
  clear hd
  go_wp2_with fail
  exact bodyPost_ret ((HD.out.st false 0 0).resultRD rfl rfl) rfl ⟨rfl, below_sd3 HB.out (Nat.le_refl _) _ _ _⟩

set_option maxHeartbeats 3200000 in
set_option maxRecDepth 100000 in
theorem rDraw_b {s b : ByteArray} (hs : s.size ≤ 1000000) (hp : prE s = 0) (hb : schk b ≠ 0) (hbs : b.size ≤ 140737488351232) (w : World) :
    Calls Tryz.prog 12 #[.string s, .string b] w fun e w' => e = .returned (.tuple #[tossR (false, 0, 0), .int .i64 ((schk b : Nat) : Int)]) ∧ Below w.heap.size w w' := by
  have hpp := fun W => rProbability_any hs W
  rw [hp] at hpp
  have HP := Lib.hid hpp
  have HC := Lib.hid (fun W => rBits_any b W hbs)
  have HB := Lib.hid ((Below.refl w.heap.size w).alloc (Nat.le_refl _) (.cells #[.bool false, .int .i64 0, .int .i64 0] 26))
  have HD := Lib.hid (DB.new w)
  have hne : (((schk b : Nat) : Int) != 0) = true := by rw [bne_iff_ne]; omega
  generalize schk b = c at *
  clear hs hp hb hpp
  go_enter Tryz.func12, Tryz.ntmps12
  go_wp2_with fail
  refine (HP.out _).mono ?_
  rintro e w3 ⟨rfl, hb3⟩
  replace HB := Lib.hid (HB.out.trans (hb3.mono HB.out.size))
  have hd := HD.out.below hb3
  clear hb3 HP HD
  go_wp2_with fail
  refine (HC.out _).mono ?_
  rintro e w4 ⟨rfl, rfl⟩
  clear HC
  have d0 : w3.cell? ⟨w.heap.size, 0, none⟩ = some (.bool false) := by rw [Lib.cell_of_heap hd]; rfl
  have d1 : w3.cell? ⟨w.heap.size, 1, none⟩ = some (.int .i64 0) := by rw [Lib.cell_of_heap hd]; rfl
  have d2 : w3.cell? ⟨w.heap.size, 2, none⟩ = some (.int .i64 0) := by rw [Lib.cell_of_heap hd]; rfl
  have g0 : w3.frozen? ⟨w.heap.size, 0, none⟩ = false := Lib.frozen_of_heap hd 0
  have g1 : w3.frozen? ⟨w.heap.size, 1, none⟩ = false := Lib.frozen_of_heap hd 1
  have g2 : w3.frozen? ⟨w.heap.size, 2, none⟩ = false := Lib.frozen_of_heap hd 2
  have HD := Lib.hid hd
  clear hd
  go_wp2_with fail
  exact bodyPost_ret ((HD.out.st false 0 0).resultRD rfl rfl) rfl ⟨rfl, below_sd3 HB.out (Nat.le_refl _) _ _ _⟩

set_option maxHeartbeats 3200000 in
set_option maxRecDepth 100000 in
theorem rDraw_ok {q : Rat} {b : ByteArray} (op : QOk q) (hp : probE q = 0) (hb : IsBits b.data.toList) (hs : b.size ≤ 256) (w : World) :
    Calls Tryz.prog 12 #[.string (qstr q), .string b] w fun e w' => e = .returned (.tuple #[tossR (tossF q.den b.data.toList (tp q) 0), .int .i64 0]) ∧ Below w.heap.size w w' := by
  obtain ⟨h1, h2, h3⟩ := probE_ok hp
  have hsz : (dstr (tp q)).size ≤ 1000 := Nat.le_trans (by rw [dstr_size, dstr_size]; exact dec_len_mono h2) h3
  have hpp := fun W => rProbability_q op W
  rw [hp] at hpp
  have HP := Lib.hid hpp
  have hcc := fun W => rBits_any b W (by omega)
  rw [schk_ok hb hs] at hcc
  have HC := Lib.hid hcc
  have HR := Lib.hid (fun W => rread_q op W)
  have HT := Lib.hid (fun (W : World) (v : Value) (hq : QQ W v q) => rToss_ok hsz h3 hb hs W hq)
  have HB := Lib.hid ((Below.refl w.heap.size w).alloc (Nat.le_refl _) (.cells #[.bool false, .int .i64 0, .int .i64 0] 26))
  have HD := Lib.hid (DB.new w)
  generalize qstr q = sq at *
  generalize tossF q.den b.data.toList (tp q) 0 = T at *
  obtain ⟨d, x, u⟩ := T
  clear op hp hb hs hpp hcc h1 h2 h3 hsz
  go_enter Tryz.func12, Tryz.ntmps12
  go_wp2_with fail
  refine (HP.out _).mono ?_
  rintro e w3 ⟨rfl, hb3⟩
  replace HB := Lib.hid (HB.out.trans (hb3.mono HB.out.size))
  replace HD := Lib.hid (HD.out.below hb3)
  clear hb3 HP
  go_wp2_with fail
  refine (HC.out _).mono ?_
  rintro e w4 ⟨rfl, rfl⟩
  clear HC
  go_wp2_with fail
  refine (HR.out _).mono ?_
  rintro e w5 ⟨v, rfl, hv, hb1⟩
  obtain ⟨a1, k1, a2, k2, rfl⟩ := hv.form
  obtain ⟨hb2, hq1⟩ := one_newQ w5 (ng q) (.slice a1 (ln (tp q)) k1) (.slice a2 (ln q.den) k2)
  have HV := Lib.hid (hv.below hb2)
  have hb12 := hb1.trans (hb2.mono hb1.size)
  replace HB := Lib.hid (HB.out.trans (hb12.mono HB.out.size))
  replace HD := Lib.hid (HD.out.below hb12)
  have HQ1 := Lib.hid hq1
  clear hv hb1 hb2 hq1 hb12 HR
  go_wp2_with fail
  generalize w5.alloc (.cells #[.bool (ng q), .slice a1 (ln (tp q)) k1, .slice a2 (ln q.den) k2] 77) = w6 at HV HB HD HQ1 ⊢
  have c0 := HQ1.out.c0
  have c1 := HQ1.out.c1
  have c2 := HQ1.out.c2
  go_wp2_with fail
  refine (HT.out _ _ HV.out).mono ?_
  rintro e w7 ⟨rfl, hb7⟩
  replace HB := Lib.hid (HB.out.trans (hb7.mono HB.out.size))
  have hd := HD.out.below hb7
  clear hb7 HT HD HV HQ1 c0 c1 c2
  have d0 : w7.cell? ⟨w.heap.size, 0, none⟩ = some (.bool false) := by rw [Lib.cell_of_heap hd]; rfl
  have d1 : w7.cell? ⟨w.heap.size, 1, none⟩ = some (.int .i64 0) := by rw [Lib.cell_of_heap hd]; rfl
  have d2 : w7.cell? ⟨w.heap.size, 2, none⟩ = some (.int .i64 0) := by rw [Lib.cell_of_heap hd]; rfl
  have g0 : w7.frozen? ⟨w.heap.size, 0, none⟩ = false := Lib.frozen_of_heap hd 0
  have g1 : w7.frozen? ⟨w.heap.size, 1, none⟩ = false := Lib.frozen_of_heap hd 1
  have g2 : w7.frozen? ⟨w.heap.size, 2, none⟩ = false := Lib.frozen_of_heap hd 2
  have HD := Lib.hid hd
  clear hd
  go_wp2_with fail
  exact bodyPost_ret ((HD.out.st d (x : Int) (u : Int)).resultRD rfl rfl) rfl ⟨rfl, below_sd3 HB.out (Nat.le_refl _) _ _ _⟩

open Go.RowKit NV
open Go.Lib (decDigits)

theorem lift_ii {f : Nat} {args : Array Value} {w0 W : World} {n m : Nat} (h0 : Below w0.heap.size w0 W) (hc : Calls Tryz.prog f args W fun e w' => ∃ x y, e = .returned (.tuple #[x, y]) ∧ INum w' x n ∧ INum w' y m ∧ Below W.heap.size W w') :
    Calls Tryz.prog f args W fun e w' => ∃ x y, e = .returned (.tuple #[x, y]) ∧ INum w' x n ∧ INum w' y m ∧ Below W.heap.size W w' ∧ Below w0.heap.size w0 w' :=
  hc.mono fun _ _ ⟨x, y, h1, h2, h3, h4⟩ => ⟨x, y, h1, h2, h3, h4, h0.trans (h4.mono h0.size)⟩

set_option maxHeartbeats 6400000 in
set_option maxRecDepth 100000 in
theorem rones_ok {q : Rat} (op : QOk q) (hp : probE q = 0) {n : Nat} (hn : n ≤ 256) (w : World) :
    Calls Tryz.prog 63 #[.string (qstr q), .int .i64 (n : Int)] w fun e w' => ∃ x y, e = .returned (.tuple #[x, y]) ∧ INum w' x (cOne q n) ∧ INum w' y (2 ^ n - cLate q n) ∧ Below w.heap.size w w' := by
  obtain ⟨h1, h2, h3⟩ := probE_ok hp
  have hsz : (dstr (tp q)).size ≤ 1000 := Nat.le_trans (by rw [dstr_size, dstr_size]; exact dec_len_mono h2) h3
  have HR := Lib.hid (fun W => rread_q op W)
  have HT := Lib.hid (fun W => rTwo_ok n hn W)
  have HL := Lib.hid (And.intro op.1.ln (And.intro op.2.ln (And.intro (ln_thou (k := 2 ^ n) n (by omega) hsz (Nat.le_refl _)).1 (lnb (a := 2 ^ n) n (by omega) (Nat.le_refl _)))))
  have HDN := Lib.hid q.den_nz
  have HM := Lib.hid (show 1 ≤ 2 ^ n from Nat.one_le_two_pow)
  have HE1 := Lib.hid (show cOne q n = tp q * 2 ^ n / q.den from rfl)
  have hrl : tp q * 2 ^ n % q.den < q.den := Nat.mod_lt _ q.den_pos
  have HRL := Lib.hid (show ln (tp q * 2 ^ n % q.den) ≤ 445 from Nat.le_trans (ln_mono (Nat.le_of_lt hrl)) op.2.ln)
  generalize qstr q = sq at *
  by_cases h0 : tp q * 2 ^ n % q.den = 0
  · have HE2 := Lib.hid (show 2 ^ n - cLate q n = 2 ^ n by unfold cLate; rw [if_pos h0, Nat.sub_zero])
    rw [HE1.out, HE2.out]
    have H0 := Lib.hid h0
    clear op hp h1 h2 h3 hsz hn hrl HRL HE1 HE2 HM h0
    generalize 2 ^ n = P at *
    go_enter Tryz.func63, Tryz.ntmps63
    go_wp2_with fail
    refine (HR.out _).mono ?_
    rintro e w2 ⟨v, rfl, hv, hb1⟩
    obtain ⟨a1, k1, a2, k2, rfl⟩ := hv.form
    obtain ⟨hb2, hq1⟩ := one_newQ w2 (ng q) (.slice a1 (ln (tp q)) k1) (.slice a2 (ln q.den) k2)
    have HX := Lib.hid (hv.below hb2).nums.2.1
    have HY := Lib.hid (hv.below hb2).nums.2.2
    have HB := Lib.hid (hb1.trans (hb2.mono hb1.size))
    have HQ1 := Lib.hid hq1
    clear hv hb1 hb2 hq1 HR
    go_wp2_with fail
    generalize w2.alloc (.cells #[.bool (ng q), .slice a1 (ln (tp q)) k1, .slice a2 (ln q.den) k2] 77) = w3 at HX HY HB HQ1 ⊢
    have HS := Lib.hid (show ∀ W, Below w3.heap.size w3 W → W.cell? ⟨w2.heap.size, 1, none⟩ = some (.slice a1 (ln (tp q)) k1) ∧ W.cell? ⟨w2.heap.size, 2, none⟩ = some (.slice a2 (ln q.den) k2) from fun W h => ⟨(HQ1.out.keep h).c1, (HQ1.out.keep h).c2⟩)
    have hD := (Below.refl w3.heap.size w3).drew
    go_region_held3 (fun W => W.cell? ⟨w2.heap.size, 1, none⟩ = some (.slice a1 (ln (tp q)) k1) ∧ W.cell? ⟨w2.heap.size, 2, none⟩ = some (.slice a2 (ln q.den) k2))
      (first | exact HS.out _ hD | exact HS.out _ (by assumption))
      (first
        | (go_at_call 66; refine (lift_i (w0 := w3) (by assumption) (HT.out _)).mono ?_; rintro e u1 ⟨vt, rfl, hvt, hbt, hBt⟩; obtain ⟨az, kz, rfl⟩ := islice_any hvt)
        | (go_at_call 76; refine (lift_i (w0 := w3) (by assumption) (itimes_any (HX.out.below (by assumption)) hvt (Nat.le_trans HL.out.1 (by omega)) (Nat.le_trans HL.out.2.2.2 (by omega)))).mono ?_; rintro e u2 ⟨vh, rfl, hvh, hbh, hBh⟩; obtain ⟨ah, kh, rfl⟩ := islice_any hvh)
        | (go_at_call 79; refine (lift_ii (w0 := w3) (by assumption) (idivide_any hvh (HY.out.below (by assumption)) (Nat.le_trans HL.out.2.2.1 (by omega)) (Nat.le_trans HL.out.2.1 (by omega)) HDN.out)).mono ?_; rintro e u3 ⟨vk, vr, rfl, hvk, hvr, hbd, hBd⟩; obtain ⟨ak, kk, rfl⟩ := islice_any hvk; obtain ⟨ar, kr, rfl⟩ := islice_any hvr))
    replace HB := Lib.hid (HB.out.trans (hBd.mono HB.out.size))
    replace HX := Lib.hid (And.intro hvk hvr)
    clear hvt hbt hBt hvh hbh hBh hvk hvr hbd hBd hD HS HQ1 HY
    go_wp2_with fail
    refine (HT.out _).mono ?_
    rintro e w5 ⟨v, rfl, hv, hb⟩
    obtain ⟨a5, k5, rfl⟩ := islice_any hv
    replace HB := Lib.hid (HB.out.trans (hb.mono HB.out.size))
    replace HX := Lib.hid (And.intro (HX.out.1.below hb) (And.intro (HX.out.2.below hb) hv))
    clear hv hb HT
    rw [H0.out, ln_zero]
    go_wp2_with fail
    go_ret2
    refine ⟨_, _, rfl, ?_, ?_, HB.out⟩
    · exact HX.out.1
    · exact HX.out.2.2
  · have HE2 := Lib.hid (show 2 ^ n - cLate q n = 2 ^ n - 1 by unfold cLate; rw [if_neg h0])
    rw [HE1.out, HE2.out]
    have hrz := iread_d 0
    have hro := iread_d 1
    have HRZ := Lib.hid (fun W => (show (⟨#[48]⟩ : ByteArray) = dstr 0 from zero_str) ▸ iread_d 0 W (ok_int 0 (by omega)))
    have HRO := Lib.hid (fun W => (show (⟨#[49]⟩ : ByteArray) = dstr 1 from one_str) ▸ iread_d 1 W (ok_int 1 (by omega)))
    have hlr : ln (tp q * 2 ^ n % q.den) ≠ 0 := fun e => h0 (ln_eq_zero e)
    have hcm : (cmpN (tp q * 2 ^ n % q.den) 0 != 0) = true := by rw [bne_iff_ne]; unfold cmpN; rw [if_neg (by omega), if_pos (by omega)]; omega
    clear op hp h1 h2 h3 hsz hn hrl HE1 HE2 h0 hrz hro
    generalize 2 ^ n = P at *
    have hlz : (((ln (tp q * P % q.den) : Nat) : Int) != 0) = true := by rw [bne_iff_ne]; omega
    go_enter Tryz.func63, Tryz.ntmps63
    go_wp2_with fail
    refine (HR.out _).mono ?_
    rintro e w2 ⟨v, rfl, hv, hb1⟩
    obtain ⟨a1, k1, a2, k2, rfl⟩ := hv.form
    obtain ⟨hb2, hq1⟩ := one_newQ w2 (ng q) (.slice a1 (ln (tp q)) k1) (.slice a2 (ln q.den) k2)
    have HX := Lib.hid (hv.below hb2).nums.2.1
    have HY := Lib.hid (hv.below hb2).nums.2.2
    have HB := Lib.hid (hb1.trans (hb2.mono hb1.size))
    have HQ1 := Lib.hid hq1
    clear hv hb1 hb2 hq1 HR
    go_wp2_with fail
    generalize w2.alloc (.cells #[.bool (ng q), .slice a1 (ln (tp q)) k1, .slice a2 (ln q.den) k2] 77) = w3 at HX HY HB HQ1 ⊢
    have HS := Lib.hid (show ∀ W, Below w3.heap.size w3 W → W.cell? ⟨w2.heap.size, 1, none⟩ = some (.slice a1 (ln (tp q)) k1) ∧ W.cell? ⟨w2.heap.size, 2, none⟩ = some (.slice a2 (ln q.den) k2) from fun W h => ⟨(HQ1.out.keep h).c1, (HQ1.out.keep h).c2⟩)
    have hD := (Below.refl w3.heap.size w3).drew
    go_region_held3 (fun W => W.cell? ⟨w2.heap.size, 1, none⟩ = some (.slice a1 (ln (tp q)) k1) ∧ W.cell? ⟨w2.heap.size, 2, none⟩ = some (.slice a2 (ln q.den) k2))
      (first | exact HS.out _ hD | exact HS.out _ (by assumption))
      (first
        | (go_at_call 66; refine (lift_i (w0 := w3) (by assumption) (HT.out _)).mono ?_; rintro e u1 ⟨vt, rfl, hvt, hbt, hBt⟩; obtain ⟨az, kz, rfl⟩ := islice_any hvt)
        | (go_at_call 76; refine (lift_i (w0 := w3) (by assumption) (itimes_any (HX.out.below (by assumption)) hvt (Nat.le_trans HL.out.1 (by omega)) (Nat.le_trans HL.out.2.2.2 (by omega)))).mono ?_; rintro e u2 ⟨vh, rfl, hvh, hbh, hBh⟩; obtain ⟨ah, kh, rfl⟩ := islice_any hvh)
        | (go_at_call 79; refine (lift_ii (w0 := w3) (by assumption) (idivide_any hvh (HY.out.below (by assumption)) (Nat.le_trans HL.out.2.2.1 (by omega)) (Nat.le_trans HL.out.2.1 (by omega)) HDN.out)).mono ?_; rintro e u3 ⟨vk, vr, rfl, hvk, hvr, hbd, hBd⟩; obtain ⟨ak, kk, rfl⟩ := islice_any hvk; obtain ⟨ar, kr, rfl⟩ := islice_any hvr))
    replace HB := Lib.hid (HB.out.trans (hBd.mono HB.out.size))
    replace HX := Lib.hid (And.intro hvk hvr)
    clear hvt hbt hBt hvh hbh hBh hvk hvr hbd hBd hD HS HQ1 HY
    go_wp2_with fail
    refine (HT.out _).mono ?_
    rintro e w5 ⟨v, rfl, hv, hb⟩
    obtain ⟨a5, k5, rfl⟩ := islice_any hv
    replace HB := Lib.hid (HB.out.trans (hb.mono HB.out.size))
    replace HX := Lib.hid (And.intro (HX.out.1.below hb) (And.intro (HX.out.2.below hb) hv))
    clear hv hb HT
    generalize hRR : tp q * P % q.den = R at *
    clear hlr hRR
    go_wp2_with fail
    refine (HRZ.out _).mono ?_
    rintro e w6 ⟨v, rfl, hv, hb⟩
    obtain ⟨a6, k6, rfl⟩ := islice_any hv
    replace HB := Lib.hid (HB.out.trans (hb.mono HB.out.size))
    replace HX := Lib.hid (And.intro (HX.out.1.below hb) (And.intro (HX.out.2.1.below hb) (And.intro (HX.out.2.2.below hb) hv)))
    clear hv hb HRZ
    go_wp2_with fail
    refine (iorder_any HX.out.2.1 HX.out.2.2.2 (Nat.le_trans HRL.out (by omega)) (by rw [ln_zero]; omega)).mono ?_
    rintro e w7 ⟨rfl, hb⟩
    replace HB := Lib.hid (HB.out.trans (hb.mono HB.out.size))
    replace HX := Lib.hid (And.intro (HX.out.1.below hb) (HX.out.2.2.1.below hb))
    clear hb
    go_wp2_with fail
    refine (HRO.out _).mono ?_
    rintro e w8 ⟨v, rfl, hv, hb⟩
    obtain ⟨a8, k8, rfl⟩ := islice_any hv
    replace HB := Lib.hid (HB.out.trans (hb.mono HB.out.size))
    replace HX := Lib.hid (And.intro (HX.out.1.below hb) (And.intro (HX.out.2.below hb) hv))
    clear hv hb HRO
    go_wp2_with fail
    refine (iminus_any HX.out.2.1 HX.out.2.2 (Nat.le_trans HL.out.2.2.2 (by omega)) HM.out).mono ?_
    rintro e w9 ⟨v, rfl, hv, hb⟩
    obtain ⟨a9, k9, rfl⟩ := islice_any hv
    replace HB := Lib.hid (HB.out.trans (hb.mono HB.out.size))
    replace HX := Lib.hid (And.intro (HX.out.1.below hb) hv)
    clear hv hb
    go_wp2_with fail
    go_ret2
    refine ⟨_, _, rfl, ?_, ?_, HB.out⟩
    · exact HX.out.1
    · exact HX.out.2

end Go.Proofs.YteojekiocecdnaaGreatDoor
