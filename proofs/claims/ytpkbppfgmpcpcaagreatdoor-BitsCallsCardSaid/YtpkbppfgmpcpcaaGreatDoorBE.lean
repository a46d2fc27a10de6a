/-
  The reference of layer 3: Number, Cell, Word. The reference of layer 3: FromBytes, Cut, Join. privhousekit.Own of bytes and of texts of bits. BitsCalls returns true for any texts, int, bytes and texts of bits.
-/
import Derived.Test.YtpkbppfgmpcpcaaGreatDoorB25
import Derived.Test.YtpkbppfgmpcpcaaGreatDoorB14
import Derived.Test.YtpkbppfgmpcpcaaGreatDoorB20
import Derived.Test.YtpkbppfgmpcpcaaGreatDoorB17
import Derived.Deep.RegionHeld3
import Derived.Deep.AppendLies
import Derived.Laws.OwnMore
import Derived.Test.YtpkbppfgmpcpcaaGreatDoorBC
namespace Go.Proofs.YtpkbppfgmpcpcaaGreatDoor
open Go.RowKit NV
open Go.Lib (decDigits)

set_option maxHeartbeats 1600000 in
theorem rNumber_ok {s : ByteArray} (hb : IsBits s.data.toList) (hs : s.size ≤ 256) (w : World) :
    Calls Tryz.prog 16 #[.string s] w fun e w' => e = .returned (.tuple #[.string (dstr (bv s.data.toList)), .int .i64 0]) ∧ Below w.heap.size w w' := by
  have hc := rchecked_any s w (by omega)
  rw [schk_ok hb hs] at hc
  have HC := Lib.hid hc
  have HV := Lib.hid (rValue_ok hb hs w)
  have hlt := bv_lt _ hb
  rw [← Go.Lib.size_eq] at hlt
  have HL := Lib.hid (lnb (a := bv s.data.toList) s.size (by omega) (by omega))
  generalize bv s.data.toList = A at *
  clear hb hc hlt
  go_enter Tryz.func16, Tryz.ntmps16
  go_wp2_with fail
  refine HC.out.mono ?_
  rintro e w1 ⟨rfl, rfl⟩
  clear HC
  go_wp2_with fail
  refine HV.out.mono ?_
  rintro e w2 ⟨v, rfl, hv, hb⟩
  obtain ⟨a1, k1, rfl⟩ := islice_any hv
  have HF := Lib.hid (And.intro hv hb)
  clear hv hb HV
  go_wp2_with fail
  refine (iwrite_any HF.out.1 (Nat.le_trans HL.out (by omega))).mono ?_
  rintro e w3 ⟨rfl, hb⟩
  have HB := Lib.hid (HF.out.2.trans (hb.mono HF.out.2.size))
  clear hb HF
  go_wp2_with fail
  go_ret2
  exact ⟨rfl, HB.out⟩

set_option maxHeartbeats 800000 in
theorem rNumber_err {s : ByteArray} (h0 : schk s ≠ 0) (hs : s.size ≤ 140737488351232) (w : World) :
    Calls Tryz.prog 16 #[.string s] w fun e w' => e = .returned (.tuple #[.string ⟨#[]⟩, .int .i64 ((schk s : Nat) : Int)]) ∧ Below w.heap.size w w' := by
  have HC := Lib.hid (rchecked_any s w hs)
  have hne : (((schk s : Nat) : Int) != 0) = true := by rw [bne_iff_ne]; omega
  generalize schk s = c at *
  clear h0
  go_enter Tryz.func16, Tryz.ntmps16
  go_wp2_with fail
  refine HC.out.mono ?_
  rintro e w1 ⟨rfl, rfl⟩
  clear HC
  go_wp2_with fail
  go_ret2
  exact ⟨rfl, Below.refl _ _⟩

set_option maxHeartbeats 1600000 in
theorem rCell_ok {s : ByteArray} (hb : IsBits s.data.toList) (hs : s.size ≤ 256) (w : World) :
    Calls Tryz.prog 18 #[.string s] w fun e w' => e = .returned (.tuple #[.string (qstr (cQ (bv s.data.toList) s.size)), .string (qstr (cQ 1 s.size)), .int .i64 0]) ∧ Below w.heap.size w w' := by
  have hc := rchecked_any s w (by omega)
  rw [schk_ok hb hs] at hc
  have HC := Lib.hid hc
  have HV := Lib.hid (rValue_ok hb hs w)
  have hlt := bv_lt _ hb
  rw [← Go.Lib.size_eq] at hlt
  have HSH := Lib.hid (fun (W : World) (x : Value) (hx : INum W x (bv s.data.toList)) => rShare_ok hs (Nat.le_of_lt hlt) W hx)
  have HS1 := Lib.hid (fun (W : World) (x : Value) (hx : INum W x 1) => rShare_ok hs Nat.one_le_two_pow W hx)
  have H1 := Lib.hid (fun W => rsmall3 1 (by omega) W)
  generalize qstr (cQ (bv s.data.toList) s.size) = t1 at *
  generalize qstr (cQ 1 s.size) = t2 at *
  generalize bv s.data.toList = A at *
  clear hb hc hlt
  go_enter Tryz.func18, Tryz.ntmps18
  go_wp2_with fail
  refine HC.out.mono ?_
  rintro e w1 ⟨rfl, rfl⟩
  clear HC
  go_wp2_with fail
  refine HV.out.mono ?_
  rintro e w2 ⟨v, rfl, hv, hb⟩
  obtain ⟨a1, k1, rfl⟩ := islice_any hv
  have HF := Lib.hid (And.intro hv hb)
  clear hv hb HV
  go_wp2_with fail
  refine (HSH.out _ _ HF.out.1).mono ?_
  rintro e w3 ⟨rfl, hb⟩
  have HB := Lib.hid (HF.out.2.trans (hb.mono HF.out.2.size))
  clear hb HF HSH
  go_wp2_with fail
  refine (H1.out _).mono ?_
  rintro e w4 ⟨v, rfl, hv, hb⟩
  obtain ⟨a2, k2, rfl⟩ := islice_any hv
  replace HB := Lib.hid (HB.out.trans (hb.mono HB.out.size))
  have HV := Lib.hid hv
  clear hv hb H1
  go_wp2_with fail
  refine (HS1.out _ _ HV.out).mono ?_
  rintro e w5 ⟨rfl, hb⟩
  replace HB := Lib.hid (HB.out.trans (hb.mono HB.out.size))
  clear hb HV HS1
  go_wp2_with fail
  go_ret3
  exact ⟨rfl, HB.out⟩

set_option maxHeartbeats 800000 in
theorem rCell_err {s : ByteArray} (h0 : schk s ≠ 0) (hs : s.size ≤ 140737488351232) (w : World) :
    Calls Tryz.prog 18 #[.string s] w fun e w' => e = .returned (.tuple #[.string ⟨#[]⟩, .string ⟨#[]⟩, .int .i64 ((schk s : Nat) : Int)]) ∧ Below w.heap.size w w' := by
  have HC := Lib.hid (rchecked_any s w hs)
  have hne : (((schk s : Nat) : Int) != 0) = true := by rw [bne_iff_ne]; omega
  generalize schk s = c at *
  clear h0
  go_enter Tryz.func18, Tryz.ntmps18
  go_wp2_with fail
  refine HC.out.mono ?_
  rintro e w1 ⟨rfl, rfl⟩
  clear HC
  go_wp2_with fail
  go_ret3
  exact ⟨rfl, Below.refl _ _⟩

set_option maxHeartbeats 800000 in
theorem Cell_err {s : ByteArray} (h0 : schk s ≠ 0) (hs : s.size ≤ 140737488351232) (w : World) :
    Calls Tryz.prog 17 #[.string s] w fun e w' => e = .returned (.tuple #[.string ⟨#[]⟩, .string ⟨#[]⟩, .int .i64 ((schk s : Nat) : Int)]) ∧ Below w.heap.size w w' := by
  have HC := Lib.hid (checkShort_any s w hs)
  have hne : (((schk s : Nat) : Int) != 0) = true := by rw [bne_iff_ne]; omega
  generalize schk s = c at *
  clear h0
  go_enter Tryz.func17, Tryz.ntmps17
  go_wp2_with fail
  refine HC.out.mono ?_
  rintro e w1 ⟨rfl, rfl⟩
  clear HC
  go_wp2_with fail
  go_ret3
  exact ⟨rfl, Below.refl _ _⟩

/-- One more bit of a number ahead of its last j bits. -/
theorem wstr_more (a j : Nat) : wstr (a % 2 ^ (j + 1)) (j + 1) = (⟨#[UInt8.ofNat (48 + a / 2 ^ j % 2)]⟩ : ByteArray) ++ wstr (a % 2 ^ j) j := by
  have hj : 0 < 2 ^ j := Nat.pow_pos (by omega)
  have hm1 : a % 2 ^ (j + 1) < 2 ^ (j + 1) := Nat.mod_lt _ (Nat.pow_pos (by omega))
  have hm2 : a % 2 ^ j < 2 ^ j := Nat.mod_lt _ hj
  have h2 : a / 2 ^ j % 2 = 0 ∨ a / 2 ^ j % 2 = 1 := by omega
  have hsplit : a % 2 ^ (j + 1) = a % 2 ^ j + 2 ^ j * (a / 2 ^ j % 2) := Nat.mod_pow_succ
  apply ba_ext
  rw [app_list, wstr_listB, wstr_listB]
  show wbits _ _ = UInt8.ofNat (48 + a / 2 ^ j % 2) :: wbits (a % 2 ^ j) j
  apply bv_inj
  · exact wbits_bits _ _
  · intro c hc
    rcases List.mem_cons.1 hc with rfl | hc
    · rcases h2 with h | h <;> rw [h]
      · left; rfl
      · right; rfl
    · exact wbits_bits _ _ c hc
  · rw [wbits_len, List.length_cons, wbits_len]
  · rw [wbits_val hm1, bv_cons, wbits_len, wbits_val hm2, hsplit]
    rcases h2 with h | h <;> rw [h]
    · simp
    · simp; omega

set_option maxHeartbeats 3200000 in
set_option maxRecDepth 100000 in
theorem rword_ok {x : Value} {a n : Nat} (hn : n ≤ 256) (ha : a < 2 ^ n) (w : World) (hx : INum w x a) :
    Calls Tryz.prog 105 #[x, .int .i64 (n : Int)] w fun e w' => e = .returned (.string (wstr a n)) ∧ Below w.heap.size w w' := by
  have H1 := Lib.hid (fun W => rsmall3 1 (by omega) W)
  have H2 := Lib.hid (fun W => rsmall3 2 (by omega) W)
  have hL : ∀ j, ln (a / 2 ^ j) ≤ 445 := fun j => lnb n (by omega) (Nat.le_trans (Nat.div_le_self _ _) (by omega))
  have HL := Lib.hid hL
  have HX := Lib.hid hx
  rw [show wstr a n = wstr (a % 2 ^ n) n by rw [Nat.mod_eq_of_lt ha]]
  obtain ⟨a0, k0, rfl⟩ := islice_any hx
  clear hx hL ha
  go_enter Tryz.func105, Tryz.ntmps105
  go_wp2_with fail
  go_loopw [0, 1, 5] (fun kv nv ov wr => ∃ j : Nat, j ≤ n ∧ nv = .int .i64 ((n : Int) - (j : Int)) ∧ INum wr kv (a / 2 ^ j) ∧ ov = .string (wstr (a % 2 ^ j) j) ∧ Below w.heap.size w wr) (fun _ nv _ _ => (intOf nv).toNat)
  case atStart => exact ⟨0, Nat.zero_le _, by simp, by rw [Nat.pow_zero, Nat.div_one]; exact HX.out, rfl, Below.refl _ _⟩
  case round =>
    obtain ⟨j, hj, rfl, hv, rfl, hb⟩ := hrel
    clear HX
    by_cases hjn : j < n
    · have hpos : (0 : Int) < (n : Int) - (j : Int) := by omega
      obtain ⟨a1, k1, rfl⟩ := islice_any hv
      have HM := Lib.hid (wstr_more a j)
      have hxs : (wstr (a % 2 ^ j) j).size ≤ 256 := by rw [wstr_sizeB]; omega
      have HD := Lib.hid (show a / 2 ^ (j + 1) = a / 2 ^ j / 2 by rw [Nat.pow_succ, Nat.div_div_eq_div_mul])
      have HLj := Lib.hid (HL.out j)
      have hbit : a / 2 ^ j % 2 = 0 ∨ a / 2 ^ j % 2 = 1 := by omega
      generalize wstr (a % 2 ^ j) j = X at *
      generalize a / 2 ^ j = K at *
      have HV := Lib.hid hv
      have HB := Lib.hid hb
      clear hv hb
      go_wp2_with fail
      refine (H2.out _).mono ?_
      rintro e w2 ⟨v, rfl, hv, hb⟩
      obtain ⟨a2, k2, rfl⟩ := islice_any hv
      replace HB := Lib.hid (HB.out.trans (hb.mono HB.out.size))
      replace HV := Lib.hid (And.intro (HV.out.below hb) hv)
      clear hv hb
      go_wp2_with fail
      refine (idivide_any HV.out.1 HV.out.2 (Nat.le_trans HLj.out (by omega)) (Nat.le_trans (lnb (a := 2) 2 (by omega) (by decide)) (by omega)) (by omega)).mono ?_
      rintro e w3 ⟨q, r, rfl, hq, hr, hb⟩
      obtain ⟨a3, k3, rfl⟩ := islice_any hq
      obtain ⟨a4, k4, rfl⟩ := islice_any hr
      replace HB := Lib.hid (HB.out.trans (hb.mono HB.out.size))
      replace HV := Lib.hid (And.intro hq hr)
      clear hq hr hb
      go_wp2_with fail
      refine (H1.out _).mono ?_
      rintro e w4 ⟨v, rfl, hv, hb⟩
      obtain ⟨a5, k5, rfl⟩ := islice_any hv
      replace HB := Lib.hid (HB.out.trans (hb.mono HB.out.size))
      replace HV := Lib.hid (And.intro (HV.out.1.below hb) (And.intro (HV.out.2.below hb) hv))
      clear hv hb
      have HBT := Lib.hid hbit
      clear hbit
      go_wp2_with fail
      refine (iorder_any HV.out.2.1 HV.out.2.2 (Nat.le_trans (lnb (a := K % 2) 2 (by omega) (Nat.le_trans (Nat.le_of_lt (Nat.mod_lt _ (by omega))) (by decide))) (by omega)) (Nat.le_trans (lnb (a := 1) 2 (by omega) (by decide)) (by omega))).mono ?_
      rintro e w5 ⟨rfl, hb⟩
      replace HB := Lib.hid (HB.out.trans (hb.mono HB.out.size))
      replace HV := Lib.hid (HV.out.1.below hb)
      clear hb
      rcases HBT.out with hc | hc
      · have hcm : (cmpN (K % 2) 1 == 0) = false := by rw [hc]; rfl
        rw [hc] at HM
        clear hc HBT
        go_wp2_with fail
        go_roundw
        case rel => exact ⟨j + 1, by omega, by go_num, by rw [HD.out]; exact HV.out, by rw [HM.out]; rfl, HB.out⟩
        case measure => simp [intOf]; omega
      · have hcm : (cmpN (K % 2) 1 == 0) = true := by rw [hc]; rfl
        rw [hc] at HM
        clear hc HBT
        go_wp2_with fail
        go_roundw
        case rel => exact ⟨j + 1, by omega, by go_num, by rw [HD.out]; exact HV.out, by rw [HM.out]; rfl, HB.out⟩
        case measure => simp [intOf]; omega
    · obtain rfl : j = n := by omega
      have hpos : ¬ (0 : Int) < (j : Int) - (j : Int) := by omega
      have HB := Lib.hid hb
      obtain ⟨a1, k1, rfl⟩ := islice_any hv
      clear hv hb
      go_wp2_with fail
      go_ret
      exact ⟨rfl, HB.out⟩

set_option maxHeartbeats 1600000 in
theorem rWord_form {s : ByteArray} (hc : chk s.data.toList ≠ 0) (hs : s.size ≤ 140737488351232) (n : Int) (w : World) :
    Calls Tryz.prog 20 #[.string s, .int .i64 n] w fun e w' => e = .returned (.tuple #[.string ⟨#[]⟩, .int .i64 ((chk s.data.toList : Nat) : Int)]) ∧ Below w.heap.size w w' := by
  have HC := Lib.hid (refcheck_any s w hs)
  have hne : (((chk s.data.toList : Nat) : Int) != 0) = true := by rw [bne_iff_ne]; omega
  generalize chk s.data.toList = c at *
  clear hc
  go_enter Tryz.func20, Tryz.ntmps20
  go_wp2_with fail
  refine HC.out.mono ?_
  rintro e w1 ⟨rfl, rfl⟩
  clear HC
  go_wp2_with fail
  go_ret2
  exact ⟨rfl, Below.refl _ _⟩

set_option maxHeartbeats 1600000 in
theorem rWord_far {a : Nat} (oa : Ok a) (n : Int) (hn : n < 0 ∨ 256 < n) (w : World) :
    Calls Tryz.prog 20 #[.string (dstr a), .int .i64 n] w fun e w' => e = .returned (.tuple #[.string ⟨#[]⟩, .int .i64 2]) ∧ Below w.heap.size w w' := by
  have hck := refcheck_any (dstr a) w (small_str oa)
  rw [dstr_list, oa.chk] at hck
  have HC := Lib.hid hck
  generalize dstr a = t at *
  clear oa hck
  rcases hn with hn | hn
  · go_enter Tryz.func20, Tryz.ntmps20
    go_wp2_with fail
    refine HC.out.mono ?_
    rintro e w1 ⟨rfl, rfl⟩
    clear HC
    go_wp2_with fail
    go_ret2
    exact ⟨rfl, Below.refl _ _⟩
  · have h0 : ¬ n < 0 := by omega
    go_enter Tryz.func20, Tryz.ntmps20
    go_wp2_with fail
    refine HC.out.mono ?_
    rintro e w1 ⟨rfl, rfl⟩
    clear HC
    go_wp2_with fail
    go_ret2
    exact ⟨rfl, Below.refl _ _⟩

set_option maxHeartbeats 1600000 in
theorem rWord_great {a n : Nat} (oa : Ok a) (hn : n ≤ 256) (ha : ¬ a < 2 ^ n) (w : World) :
    Calls Tryz.prog 20 #[.string (dstr a), .int .i64 (n : Int)] w fun e w' => e = .returned (.tuple #[.string ⟨#[]⟩, .int .i64 2]) ∧ Below w.heap.size w w' := by
  have hck := refcheck_any (dstr a) w (small_str oa)
  rw [dstr_list, oa.chk] at hck
  have HC := Lib.hid hck
  have HR := Lib.hid (fun W => iread_d a W oa)
  have HT := Lib.hid (fun W => rTwo_ok n hn W)
  have HL := Lib.hid (And.intro oa.ln (lnb (a := 2 ^ n) n (by omega) (Nat.le_refl _)))
  have hge := cmpN_geB ha
  generalize dstr a = t at *
  clear oa hck ha
  go_enter Tryz.func20, Tryz.ntmps20
  go_wp2_with fail
  refine HC.out.mono ?_
  rintro e w1 ⟨rfl, rfl⟩
  clear HC
  go_wp2_with fail
  refine (HR.out _).mono ?_
  rintro e w2 ⟨v, rfl, hv, hb⟩
  obtain ⟨a1, k1, rfl⟩ := islice_any hv
  have HF := Lib.hid (And.intro hv hb)
  clear hv hb HR
  go_wp2_with fail
  refine (HT.out _).mono ?_
  rintro e w3 ⟨v, rfl, hv, hb⟩
  obtain ⟨a2, k2, rfl⟩ := islice_any hv
  have HG := Lib.hid (And.intro (HF.out.1.below hb) (And.intro hv (HF.out.2.trans (hb.mono HF.out.2.size))))
  clear hv hb HF HT
  go_wp2_with fail
  refine (iorder_any HG.out.1 HG.out.2.1 (Nat.le_trans HL.out.1 (by omega)) (Nat.le_trans HL.out.2 (by omega))).mono ?_
  rintro e w4 ⟨rfl, hb⟩
  have HB := Lib.hid (HG.out.2.2.trans (hb.mono HG.out.2.2.size))
  clear hb HG
  go_wp2_with fail
  go_ret2
  exact ⟨rfl, HB.out⟩

set_option maxHeartbeats 1600000 in
theorem rWord_ok {a n : Nat} (hn : n ≤ 256) (ha : a < 2 ^ n) (w : World) :
    Calls Tryz.prog 20 #[.string (dstr a), .int .i64 (n : Int)] w fun e w' => e = .returned (.tuple #[.string (wstr a n), .int .i64 0]) ∧ Below w.heap.size w w' := by
  have oa : Ok a := ok_two (n := n) (by omega) (Nat.le_of_lt ha)
  have hck := refcheck_any (dstr a) w (small_str oa)
  rw [dstr_list, oa.chk] at hck
  have HC := Lib.hid hck
  have HR := Lib.hid (fun W => iread_d a W oa)
  have HT := Lib.hid (fun W => rTwo_ok n hn W)
  have HWD := Lib.hid (fun (W : World) (x : Value) (hx : INum W x a) => rword_ok hn ha W hx)
  have HL := Lib.hid (And.intro oa.ln (lnb (a := 2 ^ n) n (by omega) (Nat.le_refl _)))
  have hlt := cmpN_ltB ha
  generalize dstr a = t at *
  generalize wstr a n = sw at *
  clear oa hck ha
  go_enter Tryz.func20, Tryz.ntmps20
  go_wp2_with fail
  refine HC.out.mono ?_
  rintro e w1 ⟨rfl, rfl⟩
  clear HC
  go_wp2_with fail
  refine (HR.out _).mono ?_
  rintro e w2 ⟨v, rfl, hv, hb⟩
  obtain ⟨a1, k1, rfl⟩ := islice_any hv
  have HF := Lib.hid (And.intro hv hb)
  clear hv hb
  go_wp2_with fail
  refine (HT.out _).mono ?_
  rintro e w3 ⟨v, rfl, hv, hb⟩
  obtain ⟨a2, k2, rfl⟩ := islice_any hv
  have HG := Lib.hid (And.intro (HF.out.1.below hb) (And.intro hv (HF.out.2.trans (hb.mono HF.out.2.size))))
  clear hv hb HF HT
  go_wp2_with fail
  refine (iorder_any HG.out.1 HG.out.2.1 (Nat.le_trans HL.out.1 (by omega)) (Nat.le_trans HL.out.2 (by omega))).mono ?_
  rintro e w4 ⟨rfl, hb⟩
  have HB := Lib.hid (HG.out.2.2.trans (hb.mono HG.out.2.2.size))
  clear hb HG
  go_wp2_with fail
  refine (HR.out _).mono ?_
  rintro e w5 ⟨v, rfl, hv, hb⟩
  obtain ⟨a3, k3, rfl⟩ := islice_any hv
  have HF := Lib.hid (And.intro hv (HB.out.trans (hb.mono HB.out.size)))
  clear hv hb HR HB
  go_wp2_with fail
  refine (HWD.out _ _ HF.out.1).mono ?_
  rintro e w6 ⟨rfl, hb⟩
  have HB := Lib.hid (HF.out.2.trans (hb.mono HF.out.2.size))
  clear hb HF
  go_wp2_with fail
  go_ret2
  exact ⟨rfl, HB.out⟩

/-- Word of program and reference, for every text and int. -/
theorem both_Word (s : ByteArray) (n : Int) (hs : s.size ≤ 140737488351232) :
    ∃ (t : ByteArray) (c : Int), (∀ W, Tab W → Calls Tryz.prog 19 #[.string s, .int .i64 n] W fun e w' => e = .returned (.tuple #[.string t, .int .i64 c]) ∧ Below W.heap.size W w') ∧
      ∀ W, Calls Tryz.prog 20 #[.string s, .int .i64 n] W fun e w' => e = .returned (.tuple #[.string t, .int .i64 c]) ∧ Below W.heap.size W w' := by
  by_cases hc : chk s.data.toList = 0
  · obtain ⟨a, rfl, oa⟩ := text_of_chkB hc
    by_cases hn : n < 0 ∨ 256 < n
    · exact ⟨_, 2, fun W _ => Word_far oa n hn W, fun W => rWord_far oa n hn W⟩
    · obtain ⟨m, rfl⟩ : ∃ m : Nat, n = (m : Int) := ⟨n.toNat, by omega⟩
      by_cases ha : a < 2 ^ m
      · exact ⟨_, 0, fun W ht => Word_ok (by omega) ha W ht, fun W => rWord_ok (by omega) ha W⟩
      · exact ⟨_, 2, fun W ht => Word_great oa (by omega) ha W ht, fun W => rWord_great oa (by omega) ha W⟩
  · exact ⟨_, _, fun W _ => Word_form hc hs n W, fun W => rWord_form hc hs n W⟩
theorem schk_bits {s : ByteArray} (h : schk s = 0) : IsBits s.data.toList ∧ s.size ≤ 256 := by
  unfold schk at h
  split at h
  · omega
  · rename_i hb
    split at h
    · omega
    · exact ⟨Classical.byContradiction fun hc => hb (by rw [bchk_no hc]; decide), by omega⟩
theorem both_Number (s : ByteArray) (hs : s.size ≤ 140737488351232) :
    ∃ (t : ByteArray) (c : Int), (∀ W, Tab W → Calls Tryz.prog 15 #[.string s] W fun e w' => e = .returned (.tuple #[.string t, .int .i64 c]) ∧ Below W.heap.size W w') ∧
      ∀ W, Calls Tryz.prog 16 #[.string s] W fun e w' => e = .returned (.tuple #[.string t, .int .i64 c]) ∧ Below W.heap.size W w' := by
  by_cases hc : schk s = 0
  · obtain ⟨h1, h2⟩ := schk_bits hc
    exact ⟨_, 0, fun W ht => Number_ok h1 h2 W ht, fun W => rNumber_ok h1 h2 W⟩
  · exact ⟨_, _, fun W _ => Number_err rfl hc hs W, fun W => rNumber_err hc hs W⟩
theorem both_Cell (s : ByteArray) (hs : s.size ≤ 140737488351232) :
    ∃ (t u : ByteArray) (c : Int), (∀ W, Tab W → Calls Tryz.prog 17 #[.string s] W fun e w' => e = .returned (.tuple #[.string t, .string u, .int .i64 c]) ∧ Below W.heap.size W w') ∧
      ∀ W, Calls Tryz.prog 18 #[.string s] W fun e w' => e = .returned (.tuple #[.string t, .string u, .int .i64 c]) ∧ Below W.heap.size W w' := by
  by_cases hc : schk s = 0
  · obtain ⟨h1, h2⟩ := schk_bits hc
    exact ⟨_, _, 0, fun W ht => Cell_ok h1 h2 W ht, fun W => rCell_ok h1 h2 W⟩
  · exact ⟨_, _, _, fun W _ => Cell_err hc hs W, fun W => rCell_err hc hs W⟩

open Go.RowKit NV
open Go.Lib (decDigits)

theorem top_get (k n : Nat) : ∀ m j, j < m → (topBits k n m)[j]? = some (bitB k (n - 1 - j))
  | 0, j, h => absurd h (Nat.not_lt_zero _)
  | m + 1, j, h => by
    rw [topBits]
    by_cases hj : j < m
    · rw [List.getElem?_append_left (by rw [top_len]; exact hj)]; exact top_get k n m j hj
    · obtain rfl : j = m := by omega
      rw [List.getElem?_append_right (by rw [top_len]; exact Nat.le_refl _), top_len, Nat.sub_self]; rfl
theorem byb_get {f : Nat → UInt8} : ∀ {k i : Nat}, i < k * 8 → (byb f k)[i]? = some (bitB (f (i / 8)).toNat (7 - i % 8))
  | 0, i, h => by omega
  | k + 1, i, h => by
    have e : byb f (k + 1) = byb f k ++ wbits (f k).toNat 8 := rfl
    rw [e]
    by_cases hi : i < k * 8
    · rw [List.getElem?_append_left (by rw [byb_len]; exact hi)]; exact byb_get hi
    · rw [List.getElem?_append_right (by rw [byb_len]; omega), byb_len]
      obtain ⟨j, rfl⟩ : ∃ j, i = k * 8 + j := ⟨i - k * 8, by omega⟩
      rw [show k * 8 + j - k * 8 = j by omega, show (k * 8 + j) / 8 = k by omega, show (k * 8 + j) % 8 = j by omega]
      exact top_get _ _ 8 j (by omega)
/-- The first i bits of bytes. -/
def bybT (f : Nat → UInt8) (k i : Nat) : ByteArray := ⟨((byb f k).take i).toArray⟩
theorem bybT_list (f : Nat → UInt8) (k i : Nat) : (bybT f k i).data.toList = (byb f k).take i := by unfold bybT; simp
theorem bybT_size {f : Nat → UInt8} {k i : Nat} (h : i ≤ k * 8) : (bybT f k i).size = i := by rw [Go.Lib.size_eq, bybT_list, List.length_take, byb_len]; omega
theorem bybT_next {f : Nat → UInt8} {k i : Nat} (h : i < k * 8) : bybT f k (i + 1) = bybT f k i ++ (⟨#[bitB (f (i / 8)).toNat (7 - i % 8)]⟩ : ByteArray) := by
  apply ba_ext
  rw [app_list, bybT_list, bybT_list, List.take_add_one, byb_get h]; rfl
theorem bybT_end (f : Nat → UInt8) (k n : Nat) : bybT f k n = (⟨(byb f k).toArray⟩ : ByteArray).extract 0 n := by
  apply ba_ext
  rw [bybT_list]
  simp [ByteArray.data_extract]
theorem pcs_next (b : ByteArray) (n k : Nat) : pcs b n (k + 1) = pcs b n k ++ [.string (piece b n k)] := pcs_succ b n k
theorem piece_cut {b : ByteArray} {n k : Nat} (_h : (k + 1) * n ≤ b.size) : b.extract (k * n) (k * n + n) = piece b n k := by
  apply ba_ext
  rw [piece_list]
  simp [ByteArray.data_extract, List.take_drop]

/-- The first k texts in one. -/
def catS (f : Nat → ByteArray) (k : Nat) : ByteArray := ⟨(catL (fun j => (f j).data.toList) k).toArray⟩
theorem catS_next (f : Nat → ByteArray) (k : Nat) : catS f (k + 1) = catS f k ++ f k := by
  apply ba_ext
  rw [app_list]
  unfold catS
  simp [catL]
theorem catS_size {f : Nat → ByteArray} {k : Nat} (hk : k ≤ 1000) (h : ∀ j, j < k → (f j).size ≤ 1000) : (catS f k).size ≤ 1000000 := by
  have h1 := catL_le (g := fun j => (f j).data.toList) (c := 1000) (k := k) (fun j hj => by have := h j hj; rw [Go.Lib.size_eq] at this; exact this)
  have h2 : k * 1000 ≤ 1000 * 1000 := Nat.mul_le_mul_right _ hk
  rw [Go.Lib.size_eq]
  unfold catS
  simp only
  omega

set_option maxHeartbeats 3200000 in
set_option maxRecDepth 100000 in
theorem rJoin_ok {ao : Option Addr} {N cap : Nat} {f : Nat → ByteArray} (w : World) (h : TRow w ao N f) (hN : N ≤ 1000) (hall : ∀ j, j < N → IsBits (f j).data.toList) (hsz : ∀ j, j < N → (f j).size ≤ 1000) :
    Calls Tryz.prog 28 #[.slice ao N cap] w fun e w' => e = .returned (.tuple #[.string (catS f N), .int .i64 0]) ∧ w = w' := by
  have HT := Lib.hid h
  have HALL := Lib.hid hall
  have HSZ := Lib.hid hsz
  have HCS := Lib.hid (fun k (hk : k ≤ N) => catS_size (f := f) (k := k) (by omega) (fun j hj => hsz j (by omega)))
  clear h hall hsz
  go_enter Tryz.func28, Tryz.ntmps28
  go_wp2_with fail
  go_loop [4, 5] (fun ov iv => ∃ k : Nat, k ≤ N ∧ ov = .string (catS f k) ∧ iv = .int .i64 (k : Int)) (fun _ iv => N - (intOf iv).toNat)
  case atStart => exact ⟨0, Nat.zero_le _, rfl, rfl⟩
  case round =>
    obtain ⟨k, hk, rfl, rfl⟩ := hrel
    by_cases hlt : k < N
    · rcases HT.out with h0 | ⟨a, rfl, ha, hcell⟩
      · omega
      have c0 := hcell k hlt
      have hx := HSZ.out k hlt
      have hy := HCS.out k hk
      have hck := rCheck3_any (f k) w (by omega)
      rw [bchk_yes (HALL.out k hlt)] at hck
      have HC := Lib.hid hck
      have HX := Lib.hid (catS_next f k)
      generalize f k = X at *
      generalize catS f k = Y at *
      have hz : ¬ (9223372036854775807 : Int) < ((Y.size : Nat) : Int) + ((X.size : Nat) : Int) := by omega
      clear hck hcell ha HT
      go_wp2_with fail
      refine HC.out.mono ?_
      rintro e w1 ⟨rfl, rfl⟩
      clear HC
      go_wp2_with fail
      go_round
      case rel => exact ⟨k + 1, by omega, by rw [HX.out], by go_num⟩
      case measure => simp [intOf]; omega
    · obtain rfl : k = N := by omega
      go_wp2_with fail
      go_ret2
      exact ⟨rfl, rfl⟩

set_option maxHeartbeats 3200000 in
set_option maxRecDepth 100000 in
theorem rJoin_no {ao : Option Addr} {N cap K : Nat} {f : Nat → ByteArray} (w : World) (h : TRow w ao N f) (hN : N ≤ 1000) (hK : K < N) (hall : ∀ j, j < K → IsBits (f j).data.toList) (hbad : ¬ IsBits (f K).data.toList) (hsz : ∀ j, j < N → (f j).size ≤ 1000) :
    Calls Tryz.prog 28 #[.slice ao N cap] w fun e w' => e = .returned (.tuple #[.string ⟨#[]⟩, .int .i64 3]) ∧ w = w' := by
  have HT := Lib.hid h
  have HALL := Lib.hid hall
  have HBAD := Lib.hid hbad
  have HSZ := Lib.hid hsz
  have HCS := Lib.hid (fun k (hk : k ≤ N) => catS_size (f := f) (k := k) (by omega) (fun j hj => hsz j (by omega)))
  clear h hall hsz hbad
  go_enter Tryz.func28, Tryz.ntmps28
  go_wp2_with fail
  go_loop [4, 5] (fun ov iv => ∃ k : Nat, k ≤ K ∧ ov = .string (catS f k) ∧ iv = .int .i64 (k : Int)) (fun _ iv => N - (intOf iv).toNat)
  case atStart => exact ⟨0, Nat.zero_le _, rfl, rfl⟩
  case round =>
    obtain ⟨k, hk, rfl, rfl⟩ := hrel
    have hlt : k < N := by omega
    rcases HT.out with h0 | ⟨a, rfl, ha, hcell⟩
    · omega
    have c0 := hcell k hlt
    have hx := HSZ.out k hlt
    have hy := HCS.out k (by omega)
    have hck := rCheck3_any (f k) w (by omega)
    by_cases hlk : k < K
    · rw [bchk_yes (HALL.out k hlk)] at hck
      have HC := Lib.hid hck
      have HX := Lib.hid (catS_next f k)
      generalize f k = X at *
      generalize catS f k = Y at *
      have hz : ¬ (9223372036854775807 : Int) < ((Y.size : Nat) : Int) + ((X.size : Nat) : Int) := by omega
      clear hck hcell ha HT
      go_wp2_with fail
      refine HC.out.mono ?_
      rintro e w1 ⟨rfl, rfl⟩
      clear HC
      go_wp2_with fail
      go_round
      case rel => exact ⟨k + 1, by omega, by rw [HX.out], by go_num⟩
      case measure => simp [intOf]; omega
    · obtain rfl : k = K := by omega
      rw [bchk_no HBAD.out] at hck
      have HC := Lib.hid hck
      generalize f k = X at *
      generalize catS f k = Y at *
      clear hck hcell ha HT
      go_wp2_with fail
      refine HC.out.mono ?_
      rintro e w1 ⟨rfl, rfl⟩
      clear HC
      go_wp2_with fail
      go_ret2
      exact ⟨rfl, rfl⟩

set_option maxHeartbeats 6400000 in
set_option maxRecDepth 100000 in
theorem rCut_ok {b : ByteArray} {n : Nat} (hb : IsBits b.data.toList) (hs : b.size ≤ 900000) (h1 : 1 ≤ n) (h2 : n ≤ 256) (hd : b.size % n = 0) (w : World) :
    Calls Tryz.prog 25 #[.string b, .int .i64 (n : Int)] w fun e w' => ∃ v, e = .returned (.tuple #[v, .int .i64 0]) ∧ SRow w' v (np n b.size) (fun j => piece b n j) ∧ Below w.heap.size w w' := by
  obtain ⟨i0, hi, hz0, hz1, hz2⟩ := info_parts infoBits
  have hck := rCheck3_any b w (by omega)
  rw [bchk_yes hb] at hck
  have HC := Lib.hid hck
  obtain ⟨M, hM⟩ : ∃ M, M = np n b.size := ⟨_, rfl⟩
  have hMn : M * n = b.size := by rw [hM]; exact np_exact (by omega) hd
  have hMle : M ≤ 900000 := by rw [hM]; exact Nat.le_trans (np_le (by omega)) hs
  rw [← hM]
  have hmod : (((b.size : Nat) : Int) % (n : Int) != 0) = false := by
    rw [bne_eq_false_iff_eq, ← Int.natCast_emod, hd]; rfl
  have HMN := Lib.hid hMn
  have hown0 : w.ownsRow w.heap.size 22 1 (.slice none 0 0) 0 (pcs b n 0) := World.ownsRow_nil w _ _ _
  have HO := Lib.hid hown0
  have HN1 := Lib.hid (And.intro h1 h2)
  clear hb hd hck hM hMn hown0
  go_enter Tryz.func25, Tryz.ntmps25
  go_wp2_with fail
  refine HC.out.mono ?_
  rintro e w1 ⟨rfl, rfl⟩
  clear HC
  go_wp2_with fail
  clear hmod
  go_loopw [7, 8] (fun ov iv wr => ∃ k : Nat, k ≤ M ∧ iv = .int .i64 ((k * n : Nat) : Int) ∧ wr.ownsRow w.heap.size 22 1 ov k (pcs b n k) ∧ Below w.heap.size w wr) (fun _ iv _ => b.size - (intOf iv).toNat)
  case atStart => exact ⟨0, Nat.zero_le _, by rw [Nat.zero_mul]; rfl, HO.out, Below.refl _ _⟩
  case round =>
    obtain ⟨k, hk, rfl, hown, hb⟩ := hrel
    clear HO
    by_cases hlt : k < M
    · have hsz1 : (k + 1) * n ≤ b.size := by rw [← HMN.out]; exact Nat.mul_le_mul_right _ hlt
      have hsz2 : (k + 1) * n = k * n + n := Nat.succ_mul _ _
      have HPC := Lib.hid (piece_cut hsz1)
      have HPN := Lib.hid (pcs_next b n k)
      have HS2 := Lib.hid hsz2
      obtain ⟨i, hiN⟩ : ∃ i, i = k * n := ⟨_, rfl⟩
      rw [← hiN] at HPC HS2 hsz2 ⊢
      have hi1 : i + n ≤ b.size := by omega
      have hi2 : i < b.size := by have := HN1.out.1; omega
      have hi3 : i ≤ i + n := by omega
      clear hsz1 hsz2 hiN
      have hsr := hb.size
      have HNEWS := Lib.hid (cell_one_new wr (.string (piece b n k)) 22 0 (.string (piece b n k)) rfl)
      have hbe : Below wr.heap.size wr (wr.alloc (.cells #[.string (piece b n k)] 22)) := (Below.refl _ _).alloc (Nat.le_refl _) _
      have hownA := owns_below hown hbe
      have hbA := hb.trans (hbe.mono hsr)
      have hbase : w.heap.size ≤ (wr.alloc (.cells #[.string (piece b n k)] 22)).heap.size := by simp; omega
      obtain ⟨xo, xm, xc, rfl⟩ := slice_of_row hown
      clear hown hb hbe
      have HPX := Lib.hid (piece_size b (c := n) (k := k))
      go_wp2_with (at_builtin; rw [HPC.out]; refine wpList_append_own _ rfl _ _ 25 rfl w.heap.size 22 i0 (.string ⟨#[]⟩) 1 16 Tryz.underlying25 hi hz0 hz1 hz2 rfl (by decide) _ k _ rfl hownA ⟨wr.heap.size, 0, none⟩ 1 1 [.string (piece b n k)] rfl rfl (by
        intro j u hj
        obtain rfl : j = 0 := by
          have := (List.getElem?_eq_some_iff.1 hj).1
          simpa using this
        simp at hj
        subst hj
        exact HNEWS.out) (by intro u hu; simp at hu; subst hu; rfl) (by unfold maxLen; omega) (by omega) hbase ?_)
      intro v' w3 hown3 hgrow3 hnil3
      rw [← HPN.out] at hown3
      have hb3 : Below w.heap.size w w3 := hbA.grown hgrow3 hbase (fun b hb => (World.ownsRow.lt hownA b hb).1)
      have HF := Lib.hid (And.intro hown3 hb3)
      obtain ⟨yo, ym, yc, rfl⟩ := slice_of_row hown3
      clear hown3 hgrow3 hb3 hnil3 hownA hbA
      go_wp2_with fail
      go_roundw
      case rel => exact ⟨k + 1, by omega, by rw [HS2.out]; go_num, HF.out.1, HF.out.2⟩
      case measure => simp [intOf]; omega
    · obtain rfl : k = M := by omega
      have HF := Lib.hid (And.intro (SRow.of_row (f := fun j => piece b n j) hown (fun j hj => pcs_get hj)) hb)
      obtain ⟨so, sm, sc, rfl⟩ := slice_of_row hown
      have hend : ¬ k * n < b.size := by rw [HMN.out]; omega
      clear hown hb
      go_wp2_with fail
      go_ret2
      exact ⟨_, rfl, HF.out.1, HF.out.2⟩

set_option maxRecDepth 100000 in
theorem and_u8 : ∀ n : Fin 256, bits BinOp.and IntKind.u8 ((n.val : Nat) : Int) 1 = ((n.val % 2 : Nat) : Int) := by decide +kernel
theorem bit_u8 {X : Nat} (hX : X < 256) (i : Nat) : (bits BinOp.and IntKind.u8 ((X : Int) / 2 ^ i) 1 == 1) = decide (X / 2 ^ i % 2 = 1) := by
  have h1 : ((X : Int) / 2 ^ i) = ((X / 2 ^ i : Nat) : Int) := by simp
  have h2 := and_u8 ⟨X / 2 ^ i, Nat.lt_of_le_of_lt (Nat.div_le_self _ _) hX⟩
  simp only at h2
  rw [h1, h2, Bool.eq_iff_iff, beq_iff_eq, decide_eq_true_iff]
  omega

set_option maxHeartbeats 6400000 in
set_option maxRecDepth 100000 in
theorem rFromBytes_ok {ao : Option Addr} {N cap n : Nat} {f : Nat → UInt8} (w : World) (h : BRow w ao N f) (hN0 : N ≤ 1000) (hn : n ≤ 256) (hN : (n + 7) / 8 ≤ N) :
    Calls Tryz.prog 23 #[.slice ao N cap, .int .i64 (n : Int)] w fun e w' => e = .returned (.tuple #[.string ((⟨(byb f ((n + 7) / 8)).toArray⟩ : ByteArray).extract 0 n), .int .i64 0]) ∧ w = w' := by
  obtain ⟨M, hM⟩ : ∃ M, M = (n + 7) / 8 := ⟨_, rfl⟩
  rw [← hM] at hN ⊢
  have hMn : n ≤ M * 8 := by omega
  rw [← bybT_end]
  have HT := Lib.hid h
  have hle : ¬ (8 : Int) * (N : Int) < (n : Int) := by omega
  clear h hM
  go_enter Tryz.func23, Tryz.ntmps23
  go_wp2_with fail
  go_loop [6, 7] (fun ov iv => ∃ k : Nat, k ≤ n ∧ ov = .string (bybT f M k) ∧ iv = .int .i64 (k : Int)) (fun _ iv => n - (intOf iv).toNat)
  case atStart => exact ⟨0, Nat.zero_le _, rfl, rfl⟩
  case round =>
    obtain ⟨k, hk, rfl, rfl⟩ := hrel
    by_cases hlt : k < n
    · rcases HT.out with h0 | ⟨a, rfl, ha, hcell⟩
      · omega
      have HX := Lib.hid (bybT_next (f := f) (k := M) (i := k) (by omega))
      have hy : (bybT f M k).size ≤ 256 := by rw [bybT_size (by omega)]; omega
      obtain ⟨q, hq⟩ : ∃ q, q = k / 8 := ⟨_, rfl⟩
      obtain ⟨r, hr⟩ : ∃ r, r = k % 8 := ⟨_, rfl⟩
      have c0 := hcell q (by omega)
      rw [← hq, ← hr] at HX
      have hq1 : (k : Int) / 8 = (q : Int) := by omega
      have hq2 : Int.tdiv (k : Int) 8 = (q : Int) := by rw [Int.tdiv_eq_ediv_of_nonneg (by omega)]; exact hq1
      have hr1 : (k : Int) % 8 = (r : Int) := by omega
      have hr2 : Int.tmod (k : Int) 8 = (r : Int) := by rw [Int.tmod_eq_emod_of_nonneg (by omega)]; exact hr1
      have hr7 : r ≤ 7 := by omega
      have hqN : q < N := by omega
      obtain ⟨X, hX⟩ : ∃ X, (f q).toNat = X := ⟨_, rfl⟩
      rw [hX] at c0 HX
      have hX8 : X < 256 := hX ▸ (f q).toNat_lt
      generalize bybT f M k = Y at *
      have hz : ¬ (9223372036854775807 : Int) < ((Y.size : Nat) : Int) + 1 := by omega
      have hbt := bit_u8 hX8 (7 - r)
      clear hcell ha HT hX hq hr
      rcases (show X / 2 ^ (7 - r) % 2 = 0 ∨ X / 2 ^ (7 - r) % 2 = 1 by omega) with hc | hc
      · have hbb : bitB X (7 - r) = 48 := by unfold bitB; rw [hc]; rfl
        rw [hc] at hbt
        rw [hbb] at HX
        have hbt2 : (bits BinOp.and IntKind.u8 ((X : Int) / 2 ^ (7 - r)) 1 == 1) = false := hbt
        clear hbt hc hbb
        go_wp2_with fail
        go_round
        case rel => exact ⟨k + 1, by omega, by rw [HX.out], by go_num⟩
        case measure => simp [intOf]; omega
      · have hbb : bitB X (7 - r) = 49 := by unfold bitB; rw [hc]; rfl
        rw [hc] at hbt
        rw [hbb] at HX
        have hbt2 : (bits BinOp.and IntKind.u8 ((X : Int) / 2 ^ (7 - r)) 1 == 1) = true := hbt
        clear hbt hc hbb
        go_wp2_with fail
        go_round
        case rel => exact ⟨k + 1, by omega, by rw [HX.out], by go_num⟩
        case measure => simp [intOf]; omega
    · obtain rfl : k = n := by omega
      go_wp2_with fail
      go_ret2
      exact ⟨rfl, rfl⟩

theorem rFromBytes_range {ao : Option Addr} {N cap : Nat} (n : Int) (hn : n < 0 ∨ 256 < n) (w : World) :
    Calls Tryz.prog 23 #[.slice ao N cap, .int .i64 n] w fun e w' => e = .returned (.tuple #[.string ⟨#[]⟩, .int .i64 2]) ∧ w = w' := by
  rcases hn with hn | hn
  · go_enter Tryz.func23, Tryz.ntmps23
    go_wp2_with fail
    go_ret2
    exact ⟨rfl, rfl⟩
  · have h0 : ¬ n < 0 := by omega
    go_enter Tryz.func23, Tryz.ntmps23
    go_wp2_with fail
    go_ret2
    exact ⟨rfl, rfl⟩

theorem rFromBytes_short {ao : Option Addr} {N cap n : Nat} (hn : n ≤ 256) (hN : N < (n + 7) / 8) (w : World) :
    Calls Tryz.prog 23 #[.slice ao N cap, .int .i64 (n : Int)] w fun e w' => e = .returned (.tuple #[.string ⟨#[]⟩, .int .i64 16]) ∧ w = w' := by
  have hle : (8 : Int) * (N : Int) < (n : Int) := by omega
  have hNs : N ≤ 40 := by omega
  clear hN
  go_enter Tryz.func23, Tryz.ntmps23
  go_wp2_with fail
  go_ret2
  exact ⟨rfl, rfl⟩

theorem rCut_form {b : ByteArray} (hs : b.size ≤ 140737488351232) (hb : ¬ IsBits b.data.toList) (n : Int) (w : World) :
    Calls Tryz.prog 25 #[.string b, .int .i64 n] w fun e w' => e = .returned (.tuple #[.slice none 0 0, .int .i64 3]) ∧ w = w' := by
  have hc := rCheck3_any b w hs
  rw [bchk_no hb] at hc
  have HC := Lib.hid hc
  clear hb hc
  go_enter Tryz.func25, Tryz.ntmps25
  go_wp2_with fail
  refine HC.out.mono ?_
  rintro e w1 ⟨rfl, rfl⟩
  clear HC
  go_wp2_with fail
  go_ret2
  exact ⟨rfl, rfl⟩

theorem rCut_range {b : ByteArray} (hs : b.size ≤ 140737488351232) (hb : IsBits b.data.toList) (n : Int) (hn : n < 1 ∨ 256 < n) (w : World) :
    Calls Tryz.prog 25 #[.string b, .int .i64 n] w fun e w' => e = .returned (.tuple #[.slice none 0 0, .int .i64 2]) ∧ w = w' := by
  have hc := rCheck3_any b w hs
  rw [bchk_yes hb] at hc
  have HC := Lib.hid hc
  clear hb hc
  rcases hn with hn | hn
  · go_enter Tryz.func25, Tryz.ntmps25
    go_wp2_with fail
    refine HC.out.mono ?_
    rintro e w1 ⟨rfl, rfl⟩
    clear HC
    go_wp2_with fail
    go_ret2
    exact ⟨rfl, rfl⟩
  · have h0 : ¬ n < 1 := by omega
    go_enter Tryz.func25, Tryz.ntmps25
    go_wp2_with fail
    refine HC.out.mono ?_
    rintro e w1 ⟨rfl, rfl⟩
    clear HC
    go_wp2_with fail
    go_ret2
    exact ⟨rfl, rfl⟩

theorem rCut_short {b : ByteArray} (hs : b.size ≤ 140737488351232) (hb : IsBits b.data.toList) (n : Nat) (h1 : 1 ≤ n) (h2 : n ≤ 256) (hd : b.size % n ≠ 0) (w : World) :
    Calls Tryz.prog 25 #[.string b, .int .i64 (n : Int)] w fun e w' => e = .returned (.tuple #[.slice none 0 0, .int .i64 16]) ∧ w = w' := by
  have hc := rCheck3_any b w hs
  rw [bchk_yes hb] at hc
  have HC := Lib.hid hc
  have hmod : (((b.size : Nat) : Int) % (n : Int) != 0) = true := by
    rw [bne_iff_ne, ← Int.natCast_emod]; omega
  clear hb hc hd
  go_enter Tryz.func25, Tryz.ntmps25
  go_wp2_with fail
  refine HC.out.mono ?_
  rintro e w1 ⟨rfl, rfl⟩
  clear HC
  go_wp2_with fail
  go_ret2
  exact ⟨rfl, rfl⟩

theorem rCut_no (b : ByteArray) (n : Int) (hs : b.size ≤ 140737488351232) (h : cutE b n ≠ 0) (w : World) :
    Calls Tryz.prog 25 #[.string b, .int .i64 n] w fun e w' => e = .returned (.tuple #[.slice none 0 0, .int .i64 (cutE b n : Nat)]) ∧ w = w' := by
  unfold cutE at h ⊢
  by_cases hb : bchk b.data.toList ≠ 0
  · rw [if_pos hb]
    exact rCut_form hs (fun e => hb (bchk_yes e)) n w
  · rw [if_neg hb] at h ⊢
    have hb2 := bits_of_chk hb
    by_cases hn : n < 1 ∨ 256 < n
    · rw [if_pos hn]; exact rCut_range hs hb2 n hn w
    · rw [if_neg hn] at h ⊢
      by_cases hd : b.size % n.toNat ≠ 0
      · rw [if_pos hd]
        obtain ⟨m, rfl⟩ : ∃ m : Nat, n = (m : Int) := ⟨n.toNat, by omega⟩
        exact rCut_short hs hb2 m (by omega) (by omega) (by simpa using hd) w
      · rw [if_neg hd] at h; exact absurd rfl h

open Go.RowKit NV
open Go.Lib (decDigits)

theorem Own_bytes_info : (Tryz.prog.info? 5).map (fun i => (i.zero, i.size, i.bytes)) = some (some (.int .u8 0), 1, 1) := by kernel_rfl
theorem Own_texts_info : (Tryz.prog.info? 22).map (fun i => (i.zero, i.size, i.bytes)) = some (some (.string ⟨#[]⟩), 1, 16) := by kernel_rfl

set_option maxHeartbeats 3200000 in
set_option maxRecDepth 100000 in
theorem Own_bytes {ao : Option Addr} {N cap : Nat} {f : Nat → UInt8} (w : World) (h : BRow w ao N f) (hN : N ≤ 1000) :
    Calls Tryz.prog 22 #[.slice ao N cap] w fun e w' => ∃ a k, e = .returned (.slice a N k) ∧ N ≤ k ∧ k ≤ maxLen ∧ BRow w' a N f ∧ Below w.heap.size w w' := by
  obtain ⟨i0, hi, hz0, hz1, hz2⟩ := info_parts Own_bytes_info
  have hown0 : (w.alloc (.cells #[] 5)).ownsRow w.heap.size 5 1 (.slice (some ⟨w.heap.size, 0, none⟩) 0 0) 0 [] := World.ownsRow_lit w #[] 0 (Nat.le_refl _) (by unfold maxLen; omega) rfl
  have hb0 : Below w.heap.size w (w.alloc (.cells #[] 5)) := (Below.refl _ _).alloc (Nat.le_refl _) _
  have HB0 := Lib.hid hb0
  have HO0 := Lib.hid hown0
  cases ao with
  | none =>
    obtain rfl : N = 0 := by
      rcases h with h0 | ⟨a, ha, _⟩
      · exact h0
      · cases ha
    have HAP := Lib.hid (show ∀ (c : Nat) (W : World), W.ownsRow w.heap.size 5 1 (.slice (some ⟨w.heap.size, 0, none⟩) 0 0) 0 [] → (Builtin.append_ #[24, 24] 24 #[.slice (some ⟨w.heap.size, 0, none⟩) 0 0, .slice none 0 c]).run Tryz.prog W = .ok (.slice (some ⟨w.heap.size, 0, none⟩) 0 0) W from fun c W hW => by
      simp [Builtin.append_, run_underlying Tryz.underlying24, sizeOf, typeInfo, hi, Builtin.lenOf, Builtin.firstCells, storeCells])
    have hap := HAP.out cap _ hown0
    clear hown0 hb0
    go_enter Tryz.func22, Tryz.ntmps22
    go_wp2_with fail
    go_ret
    exact ⟨_, _, rfl, Nat.zero_le _, Nat.zero_le _, .inl rfl, HB0.out⟩
  | some a =>
    have hnews : ∀ (j : Nat) (u : Value), ((List.range N).map (fun j => Value.int .u8 (((f j).toNat : Nat) : Int)))[j]? = some u → (w.alloc (.cells #[] 5)).cell? (a.add j) = some u := fun j u hu => by
      have hj : j < N := by
        have := (List.getElem?_eq_some_iff.1 hu).1
        simpa using this
      have hu2 : u = Value.int .u8 (((f j).toNat : Nat) : Int) := by simpa [hj] using hu.symm
      rw [hu2]
      rcases h with h0 | ⟨a', ha', ha, hcell⟩
      · omega
      · cases ha'
        exact (hb0.cell (p := a.add j) (by rw [add_block]; exact ha)).trans (hcell j hj)
    have HNEWS := Lib.hid hnews
    have hown1 := hown0
    have hbase : w.heap.size ≤ (w.alloc (.cells #[] 5)).heap.size := by simp
    clear hown0 hnews
    go_enter Tryz.func22, Tryz.ntmps22
    go_wp2_with (at_builtin; refine wpList_append_own _ rfl _ _ 24 rfl w.heap.size 5 i0 (.int .u8 0) 1 1 Tryz.underlying24 hi hz0 hz1 hz2 rfl (by decide) _ 0 _ rfl hown1 a N cap ((List.range N).map (fun j => Value.int .u8 (((f j).toNat : Nat) : Int))) rfl (by simp) HNEWS.out (by intro u hu; obtain ⟨j, _, rfl⟩ := List.mem_map.1 hu; rfl) (by unfold maxLen; omega) (by omega) hbase ?_)
    intro v' w3 hown3 hgrow3 hnil3
    first | rw [Nat.zero_add, List.nil_append] at hown3 | rw [List.nil_append] at hown3 | skip
    have hb3 : Below w.heap.size w w3 := HB0.out.grown hgrow3 hbase (fun b hb => (World.ownsRow.lt hown1 b hb).1)
    have hrow : ∃ a' k, v' = .slice a' N k ∧ N ≤ k ∧ k ≤ maxLen ∧ BRow w3 a' N f := by
      rcases hown3.2 with ⟨hv, hz⟩ | ⟨g, cp, cur, hv, hbg, hg, h4, h5, h6, h7⟩
      · exact ⟨none, 0, by rw [hv, hz], by omega, Nat.zero_le _, .inl hz⟩
      · refine ⟨some ⟨g, 0, none⟩, cp, hv, h4, h5, .inr ⟨⟨g, 0, none⟩, rfl, (Array.getElem?_eq_some_iff.1 hg).1, fun j hj => ?_⟩⟩
        exact hown3.cells (g := g) (by rw [hv]; rfl) j _ (by simp [hj])
    have HF := Lib.hid (And.intro hrow hb3)
    obtain ⟨a', k', rfl, hk1, hk2, hk3⟩ := hrow
    have HF2 := Lib.hid (And.intro hk1 (And.intro hk2 (And.intro hk3 hb3)))
    clear hown3 hgrow3 hb3 hnil3 hown1 hk1 hk2 hk3 HF hb0 h
    go_wp2_with fail
    go_ret
    exact ⟨_, _, rfl, HF2.out.1, HF2.out.2.1, HF2.out.2.2.1, HF2.out.2.2.2⟩

set_option maxHeartbeats 3200000 in
set_option maxRecDepth 100000 in
theorem Own_texts {ao : Option Addr} {N cap : Nat} {f : Nat → ByteArray} (w : World) (h : TRow w ao N f) (hN : N ≤ 1000) :
    Calls Tryz.prog 27 #[.slice ao N cap] w fun e w' => ∃ a k, e = .returned (.slice a N k) ∧ N ≤ k ∧ k ≤ maxLen ∧ TRow w' a N f ∧ Below w.heap.size w w' := by
  obtain ⟨i0, hi, hz0, hz1, hz2⟩ := info_parts Own_texts_info
  have hown0 : (w.alloc (.cells #[] 22)).ownsRow w.heap.size 22 1 (.slice (some ⟨w.heap.size, 0, none⟩) 0 0) 0 [] := World.ownsRow_lit w #[] 0 (Nat.le_refl _) (by unfold maxLen; omega) rfl
  have hb0 : Below w.heap.size w (w.alloc (.cells #[] 22)) := (Below.refl _ _).alloc (Nat.le_refl _) _
  have HB0 := Lib.hid hb0
  have HO0 := Lib.hid hown0
  cases ao with
  | none =>
    obtain rfl : N = 0 := by
      rcases h with h0 | ⟨a, ha, _⟩
      · exact h0
      · cases ha
    have HAP := Lib.hid (show ∀ (c : Nat) (W : World), W.ownsRow w.heap.size 22 1 (.slice (some ⟨w.heap.size, 0, none⟩) 0 0) 0 [] → (Builtin.append_ #[25, 25] 25 #[.slice (some ⟨w.heap.size, 0, none⟩) 0 0, .slice none 0 c]).run Tryz.prog W = .ok (.slice (some ⟨w.heap.size, 0, none⟩) 0 0) W from fun c W hW => by
      simp [Builtin.append_, run_underlying Tryz.underlying25, sizeOf, typeInfo, hi, Builtin.lenOf, Builtin.firstCells, storeCells])
    have hap := HAP.out cap _ hown0
    clear hown0 hb0
    go_enter Tryz.func27, Tryz.ntmps27
    go_wp2_with fail
    go_ret
    exact ⟨_, _, rfl, Nat.zero_le _, Nat.zero_le _, .inl rfl, HB0.out⟩
  | some a =>
    have hnews : ∀ (j : Nat) (u : Value), ((List.range N).map (fun j => Value.string (f j)))[j]? = some u → (w.alloc (.cells #[] 22)).cell? (a.add j) = some u := fun j u hu => by
      have hj : j < N := by
        have := (List.getElem?_eq_some_iff.1 hu).1
        simpa using this
      have hu2 : u = Value.string (f j) := by simpa [hj] using hu.symm
      rw [hu2]
      rcases h with h0 | ⟨a', ha', ha, hcell⟩
      · omega
      · cases ha'
        exact (hb0.cell (p := a.add j) (by rw [add_block]; exact ha)).trans (hcell j hj)
    have HNEWS := Lib.hid hnews
    have hown1 := hown0
    have hbase : w.heap.size ≤ (w.alloc (.cells #[] 22)).heap.size := by simp
    clear hown0 hnews
    go_enter Tryz.func27, Tryz.ntmps27
    go_wp2_with (at_builtin; refine wpList_append_own _ rfl _ _ 25 rfl w.heap.size 22 i0 (.string ⟨#[]⟩) 1 16 Tryz.underlying25 hi hz0 hz1 hz2 rfl (by decide) _ 0 _ rfl hown1 a N cap ((List.range N).map (fun j => Value.string (f j))) rfl (by simp) HNEWS.out (by intro u hu; obtain ⟨j, _, rfl⟩ := List.mem_map.1 hu; rfl) (by unfold maxLen; omega) (by omega) hbase ?_)
    intro v' w3 hown3 hgrow3 hnil3
    first | rw [Nat.zero_add, List.nil_append] at hown3 | rw [List.nil_append] at hown3 | skip
    have hb3 : Below w.heap.size w w3 := HB0.out.grown hgrow3 hbase (fun b hb => (World.ownsRow.lt hown1 b hb).1)
    have hrow : ∃ a' k, v' = .slice a' N k ∧ N ≤ k ∧ k ≤ maxLen ∧ TRow w3 a' N f := by
      rcases hown3.2 with ⟨hv, hz⟩ | ⟨g, cp, cur, hv, hbg, hg, h4, h5, h6, h7⟩
      · exact ⟨none, 0, by rw [hv, hz], by omega, Nat.zero_le _, .inl hz⟩
      · refine ⟨some ⟨g, 0, none⟩, cp, hv, h4, h5, .inr ⟨⟨g, 0, none⟩, rfl, (Array.getElem?_eq_some_iff.1 hg).1, fun j hj => ?_⟩⟩
        exact hown3.cells (g := g) (by rw [hv]; rfl) j _ (by simp [hj])
    have HF := Lib.hid (And.intro hrow hb3)
    obtain ⟨a', k', rfl, hk1, hk2, hk3⟩ := hrow
    have HF2 := Lib.hid (And.intro hk1 (And.intro hk2 (And.intro hk3 hb3)))
    clear hown3 hgrow3 hb3 hnil3 hown1 hk1 hk2 hk3 HF hb0 h
    go_wp2_with fail
    go_ret
    exact ⟨_, _, rfl, HF2.out.1, HF2.out.2.1, HF2.out.2.2.1, HF2.out.2.2.2⟩

open Go.RowKit NV
open Go.Lib (decDigits)

/-- FromBytes of program and reference. -/
theorem both_FromBytes {ao : Option Addr} {N cap : Nat} {f : Nat → UInt8} (n : Int) (hN0 : N ≤ 1000) :
    ∃ (t : ByteArray) (c : Int), (∀ W a k, N ≤ k → k ≤ maxLen → BRow W a N f → Calls Tryz.prog 21 #[.slice a N k, .int .i64 n] W fun e w' => e = .returned (.tuple #[.string t, .int .i64 c]) ∧ Below W.heap.size W w') ∧
      ∀ W, BRow W ao N f → Calls Tryz.prog 23 #[.slice ao N cap, .int .i64 n] W fun e w' => e = .returned (.tuple #[.string t, .int .i64 c]) ∧ Below W.heap.size W w' := by
  by_cases hr : n < 0 ∨ 256 < n
  · exact ⟨_, 2, fun W a k _ _ _ => (FromBytes_range n hr W).mono fun e w' ⟨h1, h2⟩ => ⟨h1, h2 ▸ Below.refl _ _⟩, fun W _ => (rFromBytes_range n hr W).mono fun e w' ⟨h1, h2⟩ => ⟨h1, h2 ▸ Below.refl _ _⟩⟩
  · obtain ⟨m, rfl⟩ : ∃ m : Nat, n = (m : Int) := ⟨n.toNat, by omega⟩
    by_cases hs : N < (m + 7) / 8
    · exact ⟨_, 16, fun W a k _ _ _ => (FromBytes_short (by omega) hs W).mono fun e w' ⟨h1, h2⟩ => ⟨h1, h2 ▸ Below.refl _ _⟩, fun W _ => (rFromBytes_short (by omega) hs W).mono fun e w' ⟨h1, h2⟩ => ⟨h1, h2 ▸ Below.refl _ _⟩⟩
    · exact ⟨_, 0, fun W a k h1 h2 h => FromBytes_ok W h h1 h2 (by omega) (by omega), fun W h => (rFromBytes_ok W h hN0 (by omega) (by omega)).mono fun e w' ⟨h1, h2⟩ => ⟨h1, h2 ▸ Below.refl _ _⟩⟩

/-- Cut of program and reference: the same texts. -/
theorem both_Cut (b : ByteArray) (n : Int) (hs : b.size ≤ 900000) :
    ∃ (N : Nat) (f : Nat → ByteArray) (c : Int), N ≤ 900000 ∧ (∀ W, Calls Tryz.prog 24 #[.string b, .int .i64 n] W fun e w' => ∃ v, e = .returned (.tuple #[v, .int .i64 c]) ∧ SRow w' v N f ∧ Below W.heap.size W w') ∧
      ∀ W, Calls Tryz.prog 25 #[.string b, .int .i64 n] W fun e w' => ∃ v, e = .returned (.tuple #[v, .int .i64 c]) ∧ SRow w' v N f ∧ Below W.heap.size W w' := by
  by_cases hc : cutE b n = 0
  · obtain ⟨h1, h2, h3, h4⟩ := cutE_ok hc
    obtain ⟨m, rfl⟩ : ∃ m : Nat, n = (m : Int) := ⟨n.toNat, by omega⟩
    rw [Int.toNat_natCast] at h4
    exact ⟨np m b.size, fun j => piece b m j, 0, Nat.le_trans (np_le (by omega)) hs, fun W => Cut_ok h1 hs (by omega) (by omega) h4 W, fun W => rCut_ok h1 hs (by omega) (by omega) h4 W⟩
  · exact ⟨0, fun _ => ⟨#[]⟩, _, Nat.zero_le _, fun W => (Cut_no b n (by omega) hc W).mono fun e w' ⟨h1, h2⟩ => ⟨_, h1, .inl ⟨rfl, rfl⟩, h2 ▸ Below.refl _ _⟩, fun W => (rCut_no b n (by omega) hc W).mono fun e w' ⟨h1, h2⟩ => ⟨_, h1, .inl ⟨rfl, rfl⟩, h2 ▸ Below.refl _ _⟩⟩

/-- Join of program and reference. -/
theorem both_Join {ao : Option Addr} {N cap : Nat} {f : Nat → ByteArray} (hN : N ≤ 1000) (hsz : ∀ j, j < N → (f j).size ≤ 1000) :
    ∃ (t : ByteArray) (c : Int), (∀ W a k, TRow W a N f → Calls Tryz.prog 26 #[.slice a N k] W fun e w' => e = .returned (.tuple #[.string t, .int .i64 c]) ∧ Below W.heap.size W w') ∧
      ∀ W, TRow W ao N f → Calls Tryz.prog 28 #[.slice ao N cap] W fun e w' => e = .returned (.tuple #[.string t, .int .i64 c]) ∧ Below W.heap.size W w' := by
  by_cases hall : ∀ j, j < N → IsBits (f j).data.toList
  · exact ⟨_, 0, fun W a k h => Join_ok W h hN hall hsz, fun W h => (rJoin_ok W h hN hall hsz).mono fun e w' ⟨h1, h2⟩ => ⟨h1, h2 ▸ Below.refl _ _⟩⟩
  · obtain ⟨K, hK, hbad, hlow⟩ : ∃ K, K < N ∧ ¬ IsBits (f K).data.toList ∧ ∀ j, j < K → IsBits (f j).data.toList := by
      have hex : ∃ k, k < N ∧ ¬ IsBits (f k).data.toList := Classical.byContradiction fun h => hall fun j hj => Classical.byContradiction fun hb => h ⟨j, hj, hb⟩
      have key : ∀ M, (∃ k, k < M ∧ ¬ IsBits (f k).data.toList) → ∃ K, K < M ∧ ¬ IsBits (f K).data.toList ∧ ∀ j, j < K → IsBits (f j).data.toList := by
        intro M
        induction M with
        | zero => rintro ⟨k, hk, _⟩; omega
        | succ M ih =>
          rintro ⟨k, hk, hb⟩
          by_cases h : ∃ k, k < M ∧ ¬ IsBits (f k).data.toList
          · obtain ⟨K, h1, h2, h3⟩ := ih h
            exact ⟨K, by omega, h2, h3⟩
          · obtain rfl : k = M := Classical.byContradiction fun hne => h ⟨k, by omega, hb⟩
            exact ⟨k, hk, hb, fun j hj => Classical.byContradiction fun hbj => h ⟨j, hj, hbj⟩⟩
      exact key N hex
    exact ⟨_, 3, fun W a k h => Join_no W h hN hK hlow hbad hsz, fun W h => (rJoin_no W h hN hK hlow hbad hsz).mono fun e w' ⟨h1, h2⟩ => ⟨h1, h2 ▸ Below.refl _ _⟩⟩

end Go.Proofs.YtpkbppfgmpcpcaaGreatDoor
