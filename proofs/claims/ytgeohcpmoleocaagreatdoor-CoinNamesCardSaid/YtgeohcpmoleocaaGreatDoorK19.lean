/-
  CoinNames returns true.
-/
import Derived.Test.YtgeohcpmoleocaaGreatDoorKE
import Derived.Test.YtgeohcpmoleocaaGreatDoorHR
import Derived.Room.AppendFits
import Derived.WalkSmall
namespace Go.Proofs.YtgeohcpmoleocaaGreatDoor
open Go.RowKit NV
open Go.Lib (decDigits)

theorem qstr_int {q : Rat} (hn : ng q = false) (hd : q.den = 1) : qstr q = dstr (tp q) := by
  unfold qstr; rw [rstr_eq, if_pos hd, hn]; rfl
theorem cQ_zero (n : Nat) : qstr (cQ 0 n) = ⟨#[48]⟩ := by
  have h : cQ 0 n = 0 := by unfold cQ mkQ; simp
  rw [h, zero_str]; exact qstr_int rfl rfl
theorem cQ_nz {k n : Nat} (h : ((qstr (cQ k n)).toList == [48]) = true) : k = 0 := by
  have h1 : qstr (cQ k n) = qstr 0 := by
    have h2 : (qstr (cQ k n)).data.toList = [48] := by rw [← Go.Lib.toList_data]; exact beq_iff_eq.1 h
    have h3 : qstr (0 : Rat) = ⟨#[48]⟩ := (qstr_int (q := 0) rfl rfl).trans zero_str.symm
    rw [h3]; exact ba_ext h2
  have h4 := qstr_inj h1
  unfold cQ mkQ at h4
  simp only [Bool.false_eq_true, if_false] at h4
  have h5 := (Rat.mkRat_eq_zero (n := (k : Int)) (d := 2 ^ n) (Nat.pos_iff_ne_zero.1 (Nat.pow_pos (by omega)))).1 h4
  omega
theorem cQ_is (k n : Nat) : ((qstr (cQ k n)).toList == [48]) = decide (k = 0) := by
  by_cases h : k = 0
  · subst h; rw [cQ_zero, decide_eq_true rfl]; exact lit_eq [48] _ rfl
  · rw [decide_eq_false h]
    cases hb : ((qstr (cQ k n)).toList == [48]) with
    | false => rfl
    | true => exact absurd (cQ_nz hb) h

def qHalf : Rat := ⟨1, 2, by decide, by decide⟩
theorem half_str : qstr qHalf = ⟨#[49, 47, 50]⟩ := (frac_str false 1 2 (by omega) (by omega) (by omega)).trans rfl
theorem half_ok : QOk qHalf := ⟨ok_two (n := 2) (by omega) (by decide), ok_two (n := 2) (by omega) (by decide)⟩
set_option maxHeartbeats 3200000 in
set_option maxRecDepth 100000 in
theorem count_r {q : Rat} (op : QOk q) (hpe : probE q = 0) (n : Int) (hn : n < 0 ∨ 256 < n) (w : World) (hm : ML w) :
    Calls Tryz.prog 132 #[.string (qstr q), .int .i64 n] w fun e w' => e = .returned (.tuple #[.agg #[.string ⟨#[]⟩, .string ⟨#[]⟩, .string ⟨#[]⟩, .string ⟨#[]⟩], .int .i64 2]) ∧ Below w.heap.size w w' := by
  have HP := Lib.hid (fun W (h : Below w.heap.size w W) => cparts_ok op hpe W (ml_keep hm (ml_pos hm) h))
  have HB := Lib.hid ((Below.refl w.heap.size w).alloc (Nat.le_refl _) (cObj empB empB empB empB))
  have HR := Lib.hid (CB.new w empB empB empB empB)
  generalize dstr (tp q) = t1 at *
  generalize dstr q.den = t2 at *
  generalize qstr q = s at *
  clear op hpe hm
  rcases hn with hn | hn
  · go_enter Tryz.func132, Tryz.ntmps132
    go_wp2_with fail
    refine (HP.out _ HB.out).mono ?_
    rintro e w1 ⟨rfl, hb1⟩
    have hr := HR.out.below hb1
    obtain ⟨r0, r1, r2, r3⟩ := hr.c
    have q0 := hr.f 0
    have q1 := hr.f 1
    have q2 := hr.f 2
    have q3 := hr.f 3
    have HRES := Lib.hid (And.intro hr (HB.out.trans (hb1.mono HB.out.size)))
    clear hb1 HP HR HB hr
    go_wp2_with fail
    exact bodyPost_ret ((HRES.out.1.st empB empB empB empB).resultC rfl rfl) rfl ⟨rfl, below_sc4 HRES.out.2 (Nat.le_refl _) _ _ _ _⟩
  · have h0 : ¬ n < 0 := by omega
    go_enter Tryz.func132, Tryz.ntmps132
    go_wp2_with fail
    refine (HP.out _ HB.out).mono ?_
    rintro e w1 ⟨rfl, hb1⟩
    have hr := HR.out.below hb1
    obtain ⟨r0, r1, r2, r3⟩ := hr.c
    have q0 := hr.f 0
    have q1 := hr.f 1
    have q2 := hr.f 2
    have q3 := hr.f 3
    have HRES := Lib.hid (And.intro hr (HB.out.trans (hb1.mono HB.out.size)))
    clear hb1 HP HR HB hr
    go_wp2_with fail
    exact bodyPost_ret ((HRES.out.1.st empB empB empB empB).resultC rfl rfl) rfl ⟨rfl, below_sc4 HRES.out.2 (Nat.le_refl _) _ _ _ _⟩

set_option maxHeartbeats 1600000 in
theorem Late_r {q : Rat} (op : QOk q) (hpe : probE q = 0) (n : Int) (hn : n < 0 ∨ 256 < n) (w : World) (hm : ML w) :
    Calls Tryz.prog 61 #[.string (qstr q), .int .i64 n] w fun e w' => e = .returned (.tuple #[.string ⟨#[]⟩, .int .i64 2]) ∧ Below w.heap.size w w' := by
  have HC := Lib.hid (count_r op hpe n hn w hm)
  generalize qstr q = s at *
  clear op hpe hm hn
  go_enter Tryz.func61, Tryz.ntmps61
  go_wp2_with fail
  refine HC.out.mono ?_
  rintro e w1 ⟨rfl, hb1⟩
  have HB := Lib.hid (hb1.alloc hb1.size (cObj empB empB empB empB))
  clear hb1 HC
  go_wp2_with fail
  go_ret2
  exact ⟨rfl, HB.out⟩

set_option maxHeartbeats 1600000 in
theorem Law_r {q : Rat} (op : QOk q) (hpe : probE q = 0) (n : Int) (hn : n < 0 ∨ 256 < n) (w : World) (hm : ML w) :
    Calls Tryz.prog 62 #[.string (qstr q), .int .i64 n] w fun e w' => e = .returned (.tuple #[.slice none 0 0, .int .i64 2]) ∧ Below w.heap.size w w' := by
  have HC := Lib.hid (count_r op hpe n hn w hm)
  generalize qstr q = s at *
  clear op hpe hm hn
  go_enter Tryz.func62, Tryz.ntmps62
  go_wp2_with fail
  refine HC.out.mono ?_
  rintro e w1 ⟨rfl, hb1⟩
  have HB := Lib.hid (hb1.alloc hb1.size (cObj empB empB empB empB))
  clear hb1 HC
  go_wp2_with fail
  go_ret2
  exact ⟨rfl, HB.out⟩

set_option maxHeartbeats 1600000 in
set_option maxRecDepth 100000 in
/-- Times at a text of one byte. -/
theorem times_one (c : UInt8) (n : Nat) (hn : n ≤ 1000000) (w : World) :
    Calls Tryz.prog 45 #[.string ⟨#[c]⟩, .int .i64 (n : Int)] w fun e w' => e = .returned (.string ⟨(List.replicate n c).toArray⟩) ∧ Below w.heap.size w w' := by
  obtain ⟨i0, hi, hz0, hz1, hz2⟩ := info_parts (show (Tryz.prog.info? 5).map (fun i => (i.zero, i.size, i.bytes)) = some (some (.int .u8 0), 1, 1) by kernel_rfl)
  go_enter Tryz.func45, Tryz.ntmps45
  go_wp2_with (at_make; refine wpList_make_own _ rfl _ _ 45 rfl w.heap.size 5 i0 (.int .u8 0) 1 Tryz.underlying45 hi hz0 hz1 _ _ _ n rfl rfl (by omega) (by rw [hz2]; omega) (by unfold maxLen; omega) (by simp) ?_)
  intro w1 hown1 hgrow1
  have hb1 : Below w.heap.size w w1 := (Below.refl _ _).grown hgrow1 (by simp) (fun k hk => by cases hk)
  clear hgrow1
  go_wp2_with fail
  go_loopw [5, 6] (fun s5 s6 wr => ∃ k : Nat, k ≤ n ∧ s5 = .slice (some ⟨w.heap.size, 0, none⟩) k n ∧ s6 = .int .i64 (k : Int) ∧ wr.ownsRow w.heap.size 5 1 (.slice (some ⟨w.heap.size, 0, none⟩) k n) k (List.replicate k (Value.int .u8 ((c.toNat : Nat) : Int))) ∧ Below w.heap.size w wr) (fun _ s6 _ => n - (intOf s6).toNat)
  case atStart => exact ⟨0, Nat.zero_le _, rfl, rfl, by simpa using hown1, hb1⟩
  case round =>
    obtain ⟨k, hk, rfl, rfl, hown, hbr⟩ := hrel
    clear hown1 hb1
    by_cases hlt : k < n
    · go_wp2_with (at_builtin; refine Go.Lib.wpList_append_fits_string _ rfl _ _ 45 9 rfl w.heap.size 5 i0 Tryz.underlying45 Tryz.underlying9 hi hz1 _ k n _ rfl hown ⟨#[c]⟩ rfl (by omega) (by show k + 1 ≤ n; exact hlt) ?_)
      intro w3 hown3 hgrow3
      have hb3 : Below w.heap.size w w3 := hbr.grown hgrow3 (by have := hbr.size; omega) (fun b hb => by simp [Value.ownBlock] at hb; omega)
      have e3 : w3.ownsRow w.heap.size 5 1 (.slice (some ⟨w.heap.size, 0, none⟩) (k + 1) n) (k + 1) (List.replicate (k + 1) (Value.int .u8 ((c.toNat : Nat) : Int))) := by
        rw [List.replicate_succ']; exact hown3
      have HF := Lib.hid (And.intro e3 hb3)
      clear hown3 hgrow3 hb3 e3 hown hbr
      go_wp2_with fail
      go_roundw
      case rel => exact ⟨k + 1, by omega, rfl, by go_num, HF.out.1, HF.out.2⟩
      case measure => simp [intOf]; omega
    · obtain rfl : k = n := by omega
      have hcv := run_convert_bytes_back (P := Tryz.prog) wr 45 9 5 ⟨w.heap.size, 0, none⟩ k (List.replicate k c) Tryz.underlying45 Tryz.underlying5 Tryz.underlying9 (fun j hj => by
        have hj' : j < k := by simpa using hj
        rw [Lib.add_plain, Nat.zero_add, hown.cellAt j (by omega)]
        simp [hj'])
      rw [List.length_replicate] at hcv
      have HB := Lib.hid hbr
      clear hown hbr
      go_wp2_with fail
      go_ret
      exact ⟨rfl, HB.out⟩


def qc34 : Rat := ⟨3, 4, by decide, by decide⟩
def qc32 : Rat := ⟨3, 2, by decide, by decide⟩
def qm12 : Rat := ⟨-1, 2, by decide, by decide⟩
theorem sc34 : qstr qc34 = ⟨#[51, 47, 52]⟩ := (frac_str false 3 4 (by omega) (by omega) (by omega)).trans rfl
theorem sc32 : qstr qc32 = ⟨#[51, 47, 50]⟩ := (frac_str false 3 2 (by omega) (by omega) (by omega)).trans rfl
theorem sm12 : qstr qm12 = ⟨#[45, 49, 47, 50]⟩ := (frac_str true 1 2 (by omega) (by omega) (by omega)).trans rfl
theorem small_ok {n : Nat} (h : n ≤ 4) : Ok n := ok_two (n := 2) (by omega) (by omega)
theorem qc34_ok : QOk qc34 := ⟨small_ok (by decide), small_ok (by decide)⟩
theorem qc32_ok : QOk qc32 := ⟨small_ok (by decide), small_ok (by decide)⟩
theorem qm12_ok : QOk qm12 := ⟨small_ok (by decide), small_ok (by decide)⟩
theorem q0_ok : QOk 0 := ⟨small_ok (by decide), small_ok (by decide)⟩
theorem q1_ok : QOk 1 := ⟨small_ok (by decide), small_ok (by decide)⟩
theorem small_den {n : Nat} (h : n < 10) : (dstr n).size ≤ 1000 := by rw [dstr_size, dec_small h]; simp
theorem pr_small {q : Rat} (h1 : ng q = false) (h2 : tp q ≤ q.den) (h3 : q.den < 10) : probE q = 0 := by
  unfold probE probP
  rw [h1, if_neg (by simp), if_neg (by omega), if_neg (by have := small_den h3; omega)]
theorem q0t : qstr 0 = ⟨#[48]⟩ := (qstr_int (q := 0) rfl rfl).trans zero_str.symm
theorem q1t : qstr 1 = ⟨#[49]⟩ := (qstr_int (q := 1) rfl rfl).trans one_str.symm
theorem c14 : qstr (cQ 1 2) = ⟨#[49, 47, 52]⟩ := by
  rw [show cQ 1 2 = (⟨1, 4, by decide, by decide⟩ : Rat) by decide +kernel]
  exact (frac_str false 1 4 (by omega) (by omega) (by omega)).trans rfl
theorem c12 : qstr (cQ 1 1) = ⟨#[49, 47, 50]⟩ := by
  rw [show cQ 1 1 = qHalf by decide +kernel]; exact half_str
theorem c22 : qstr (cQ 2 2) = ⟨#[49, 47, 50]⟩ := by
  rw [show cQ 2 2 = qHalf by decide +kernel]; exact half_str
theorem law13 : fltM (lawM qd13 2) = [(⟨#[48]⟩, ⟨#[49, 47, 50]⟩), (⟨#[49]⟩, ⟨#[49, 47, 52]⟩), (sLate, ⟨#[49, 47, 52]⟩)] := by
  have e : lawM qd13 2 = [(⟨#[48]⟩, qstr (cQ 2 2))] ++ ([(⟨#[49]⟩, qstr (cQ 1 2))] ++ [(sLate, qstr (cQ 1 2))]) := by
    unfold lawM
    rw [show cZero qd13 2 = 2 by decide, show cOne qd13 2 = 1 by decide, show cLate qd13 2 = 1 by decide]; rfl
  rw [e, fltM_app, fltM_app, fltM_yes (by show ((qstr (cQ 2 2)).toList == [48]) = false; rw [cQ_is]; rfl), fltM_yes (by show ((qstr (cQ 1 2)).toList == [48]) = false; rw [cQ_is]; rfl), fltM_yes (by show ((qstr (cQ 1 2)).toList == [48]) = false; rw [cQ_is]; rfl), c22, c14]
  rfl

/-- 1 / 10^1000 is too long. -/
theorem dv_ten : ∀ k, dv (49 :: List.replicate k (48 : UInt8)) = 10 ^ k
  | 0 => rfl
  | k + 1 => by
    have h := dv_ten k
    rw [List.replicate_succ', ← List.cons_append, dv_snoc, h, Nat.pow_succ]
    show 10 * 10 ^ k + 0 = _
    omega
theorem good_ten (k : Nat) : badB (49 :: List.replicate k (48 : UInt8)) = false := by
  unfold badB
  have h : ((49 :: List.replicate k (48 : UInt8)).all fun c => decide (48 ≤ c.toNat ∧ c.toNat ≤ 57)) = true := by
    rw [List.all_eq_true]
    intro c hc
    rcases List.mem_cons.1 hc with rfl | hc
    · decide
    · rw [List.eq_of_mem_replicate hc]; decide
  rw [h]; rfl
theorem ten_str (k : Nat) : dstr (10 ^ k) = ⟨(49 :: List.replicate k (48 : UInt8)).toArray⟩ := by
  have h := dstr_of_good (s := ⟨(49 :: List.replicate k (48 : UInt8)).toArray⟩) (good_ten k)
  rw [show dv (⟨(49 :: List.replicate k (48 : UInt8)).toArray⟩ : ByteArray).data.toList = 10 ^ k from dv_ten k] at h
  exact h.symm
theorem prE_ten {k : Nat} (h0 : k ≠ 0) (h1 : 1000 ≤ k) (h2 : k < 4000) : prE ((⟨#[49, 47, 49]⟩ : ByteArray) ++ ⟨(List.replicate k (48 : UInt8)).toArray⟩) = 5 := by
  have hd : (10 ^ k : Nat) ≠ 0 := Nat.pos_iff_ne_zero.1 (Nat.pow_pos (by omega))
  obtain ⟨q, e1, e2, e3⟩ := rat_of (m := false) (n := 1) (d := 10 ^ k) hd (Nat.gcd_one_left _) (by simp)
  have hsz : (dstr (10 ^ k)).size = k + 1 := by rw [ten_str, Go.Lib.size_eq]; simp
  have hne : (10 ^ k : Nat) ≠ 1 := by
    obtain ⟨j, rfl⟩ : ∃ j, k = j + 1 := ⟨k - 1, by omega⟩
    rw [Nat.pow_succ]; have : 0 < 10 ^ j := Nat.pow_pos (by omega)
    omega
  have hq : qstr q = (⟨#[49, 47, 49]⟩ : ByteArray) ++ ⟨(List.replicate k (48 : UInt8)).toArray⟩ := by
    unfold qstr
    rw [e1, e2, e3, rstr_eq, if_neg hne, ten_str]
    apply ba_ext
    rw [app_list, app_list, app_list, istr_list, dec_one]
    simp
  have op : QOk q := ⟨by rw [e2]; exact small_ok (by omega), by rw [e3]; show (decDigits (10 ^ k)).length ≤ 4000; rw [← dstr_size, hsz]; omega⟩
  rw [← hq, prE_q op]
  unfold probE probP
  rw [e1, e2, e3, if_neg (by simp), if_neg (by have := Nat.pos_of_ne_zero hd; omega), if_pos (by omega)]

/-- What a call of Draw returns. -/
abbrev DrawIs (s b : ByteArray) (d : Bool) (v u : Int) (c : Int) (w : World) : Prop :=
  Calls Tryz.prog 60 #[.string s, .string b] w fun e w' => e = .returned (.tuple #[.agg #[.bool d, .int .i64 v, .int .i64 u], .int .i64 c]) ∧ Below w.heap.size w w'
theorem draw_is {q : Rat} {b : ByteArray} {d : Bool} {v u : Nat} (op : QOk q) (hp : probE q = 0) (hb : IsBits b.data.toList) (hs : b.size ≤ 256) (hT : tossF q.den b.data.toList (tp q) 0 = (d, v, u)) (w : World) (htab : Tab w) (hm : ML w) : DrawIs (qstr q) b d (v : Nat) (u : Nat) 0 w := by
  have h := Draw_ok op hp hb hs w htab hm
  rw [hT] at h
  exact h
abbrev dObj (d : Bool) (v u : Int) : Obj := .cells #[.bool d, .int .i64 v, .int .i64 u] 61

theorem draw_bad_p {s b : ByteArray} (hs : s.size ≤ 1000000) (hp : prE s ≠ 0) (w : World) (hm : ML w) : DrawIs s b false 0 0 ((prE s : Nat) : Int) w := Draw_p hs hp w hm
theorem draw_bad_b {q : Rat} {b : ByteArray} (op : QOk q) (hp : probE q = 0) (hb : schk b ≠ 0) (hbs : b.size ≤ 140737488351232) (w : World) (hm : ML w) : DrawIs (qstr q) b false 0 0 ((schk b : Nat) : Int) w := Draw_b op hp hb hbs w hm
theorem draw_lit {q : Rat} {l : List UInt8} {d : Bool} {v u : Nat} (op : QOk q) (hp : probE q = 0) (hb : bitsB l = true) (hs : l.length ≤ 256) (hT : tossF q.den l (tp q) 0 = (d, v, u)) (w : World) (htab : Tab w) (hm : ML w) : DrawIs (qstr q) ⟨l.toArray⟩ d (v : Nat) (u : Nat) 0 w :=
  draw_is op hp (by simpa using bitsB_iff.1 hb) (by rw [Go.Lib.size_eq]; simpa using hs) (by simpa using hT) w htab hm
theorem lit_bits (l : List UInt8) : (⟨l.toArray⟩ : ByteArray).data.toList = l := by simp

set_option maxHeartbeats 12800000 in
set_option maxRecDepth 100000 in
theorem coinNames_any (w : World) (htab : Tab w) (hm : ML w) : Calls Tryz.prog 10 #[] w fun e w' => e = .returned (.bool true) ∧ Below w.heap.size w w' := by
  have HL := Lib.hid (lives4_any w htab hm)
  have hT := fun W (h : Below w.heap.size w W) => htab.below h
  have hM := fun W (h : Below w.heap.size w W) => ml_keep hm (ml_pos hm) h
  have h1 := fun W (h : Below w.heap.size w W) => draw_lit (l := [49]) (d := true) (v := 0) (u := 1) half_ok (pr_small rfl (by decide) (by decide)) (by decide) (by decide) (by decide) W (hT W h) (hM W h)
  rw [half_str] at h1
  have H1 := Lib.hid h1
  clear h1
  have h2 := fun W (h : Below w.heap.size w W) => draw_lit (q := 0) (l := [49, 49]) (d := true) (v := 0) (u := 0) q0_ok (pr_small rfl (by decide) (by decide)) (by decide) (by decide) (by decide) W (hT W h) (hM W h)
  rw [q0t] at h2
  have H2 := Lib.hid h2
  clear h2
  have h3 := fun W (h : Below w.heap.size w W) => draw_lit (q := 1) (l := []) (d := true) (v := 1) (u := 0) q1_ok (pr_small rfl (by decide) (by decide)) (by decide) (by decide) (by decide) W (hT W h) (hM W h)
  rw [q1t] at h3
  have H3 := Lib.hid h3
  clear h3
  have h4 := fun W (h : Below w.heap.size w W) => draw_lit (q := qc34) (l := [49, 48]) (d := true) (v := 1) (u := 2) qc34_ok (pr_small rfl (by decide) (by decide)) (by decide) (by decide) (by decide) W (hT W h) (hM W h)
  rw [sc34] at h4
  have H4 := Lib.hid h4
  clear h4
  have h5 := fun W (h : Below w.heap.size w W) => draw_lit (q := qc34) (l := []) (d := false) (v := 0) (u := 0) qc34_ok (pr_small rfl (by decide) (by decide)) (by decide) (by decide) (by decide) W (hT W h) (hM W h)
  rw [sc34] at h5
  have H5 := Lib.hid h5
  clear h5
  have e32 : prE ⟨#[51, 47, 50]⟩ = 2 := by rw [← sc32, prE_q qc32_ok]; rfl
  have e24 : prE ⟨#[50, 47, 52]⟩ = 3 := (prE_chk (by rw [lit_rchk (l := [50, 47, 52]) (n := 3) (by decide +kernel)]; decide)).trans (lit_rchk (l := [50, 47, 52]) (n := 3) (by decide +kernel))
  have em12 : prE ⟨#[45, 49, 47, 50]⟩ = 2 := by rw [← sm12, prE_q qm12_ok]; rfl
  have h6 := fun W (h : Below w.heap.size w W) => draw_bad_p (s := ⟨#[51, 47, 50]⟩) (b := ⟨#[48]⟩) (by decide) (by rw [e32]; decide) W (hM W h)
  rw [e32] at h6
  have H6 := Lib.hid h6
  clear h6
  have h7 := fun W (h : Below w.heap.size w W) => draw_bad_p (s := ⟨#[50, 47, 52]⟩) (b := ⟨#[48]⟩) (by decide) (by rw [e24]; decide) W (hM W h)
  rw [e24] at h7
  have H7 := Lib.hid h7
  clear h7
  have h8 := fun W (h : Below w.heap.size w W) => draw_bad_b (b := ⟨#[50]⟩) half_ok (pr_small rfl (by decide) (by decide)) (by decide) (by decide) W (hM W h)
  rw [half_str, show schk (⟨#[50]⟩ : ByteArray) = 3 from by decide] at h8
  have H8 := Lib.hid h8
  clear h8
  have h9 := fun W (h : Below w.heap.size w W) => Late_r half_ok (pr_small rfl (by decide) (by decide)) (-1) (.inl (by omega)) W (hM W h)
  rw [half_str] at h9
  have H9 := Lib.hid h9
  clear h9
  have h10 := fun W (h : Below w.heap.size w W) => Late_ok (q := qd13) (n := 2) qd13_ok qd13_p (by omega) W (hT W h) (hM W h)
  rw [sd13, show cLate qd13 2 = 1 by decide, c14] at h10
  have H10 := Lib.hid h10
  clear h10
  have h11 := fun W (h : Below w.heap.size w W) => Late_ok (q := qc34) (n := 2) qc34_ok (pr_small rfl (by decide) (by decide)) (by omega) W (hT W h) (hM W h)
  rw [sc34, show cLate qc34 2 = 0 by decide, cQ_zero] at h11
  have H11 := Lib.hid h11
  clear h11
  have h12 := fun W (h : Below w.heap.size w W) => Late_ok (q := qc34) (n := 1) qc34_ok (pr_small rfl (by decide) (by decide)) (by omega) W (hT W h) (hM W h)
  rw [sc34, show cLate qc34 1 = 1 by decide, c12] at h12
  have H12 := Lib.hid h12
  clear h12
  have h13 := fun W (h : Below w.heap.size w W) => Law_ok (q := qd13) (n := 2) qd13_ok qd13_p (by omega) W (hT W h) (hM W h)
  rw [sd13, law13] at h13
  have H13 := Lib.hid h13
  clear h13
  have h14 := fun W (h : Below w.heap.size w W) => draw_bad_p (s := ⟨#[45, 49, 47, 50]⟩) (b := ⟨#[48]⟩) (by decide) (by rw [em12]; decide) W (hM W h)
  rw [em12] at h14
  have H14 := Lib.hid h14
  clear h14
  obtain ⟨Tz, hTz⟩ : ∃ T, (⟨(List.replicate 1000 (48 : UInt8)).toArray⟩ : ByteArray) = T := ⟨_, rfl⟩
  have hTzs : Tz.size = 1000 := by rw [← hTz, Go.Lib.size_eq]; simp
  have eTz : prE ((⟨#[49, 47, 49]⟩ : ByteArray) ++ Tz) = 5 := by rw [← hTz]; exact prE_ten (by omega) (by omega) (by omega)
  have HTZS := Lib.hid hTzs
  have h15a := fun W => times_one 48 1000 (by omega) W
  rw [hTz] at h15a
  have H15a := Lib.hid h15a
  clear h15a
  have h15b := fun W (h : Below w.heap.size w W) => draw_bad_p (s := (⟨#[49, 47, 49]⟩ : ByteArray) ++ Tz) (b := ⟨#[48]⟩) (by rw [ByteArray.size_append, hTzs]; decide) (by rw [eTz]; decide) W (hM W h)
  rw [eTz] at h15b
  have H15b := Lib.hid h15b
  clear h15b
  obtain ⟨Ty, hTy⟩ : ∃ T, (⟨(List.replicate 257 (48 : UInt8)).toArray⟩ : ByteArray) = T := ⟨_, rfl⟩
  have hTyl : Ty.data.toList = List.replicate 257 (48 : UInt8) := by rw [← hTy]
  have hTys : Ty.size = 257 := by rw [Go.Lib.size_eq, hTyl, List.length_replicate]
  have eTy : schk Ty = 4 := by unfold schk; rw [hTyl, bchk_yes (fun c hc => .inl (List.eq_of_mem_replicate hc)), if_neg (by omega), if_pos (by omega)]
  have h16a := fun W => times_one 48 257 (by omega) W
  rw [hTy] at h16a
  have H16a := Lib.hid h16a
  clear h16a
  have h16b := fun W (h : Below w.heap.size w W) => draw_bad_b (b := Ty) half_ok (pr_small rfl (by decide) (by decide)) (by rw [eTy]; decide) (by omega) W (hM W h)
  rw [half_str, eTy] at h16b
  have H16b := Lib.hid h16b
  clear h16b
  have h17 := fun W (h : Below w.heap.size w W) => Law_r half_ok (pr_small rfl (by decide) (by decide)) 257 (.inr (by omega)) W (hM W h)
  rw [half_str] at h17
  have H17 := Lib.hid h17
  clear h17
  clear e32 e24 em12 hTz hTzs eTz hTy hTyl hTys eTy
  clear htab hm hT hM
  go_enter Tryz.func10, Tryz.ntmps10
  go_wp2_with fail
  refine HL.out.mono ?_
  rintro e w1 ⟨rfl, hb⟩
  have HB := Lib.hid hb
  clear hb HL
  go_wp2_with fail
  refine (H1.out _ HB.out).mono ?_
  rintro e w2 ⟨rfl, hb⟩
  have hbx := hb.alloc hb.size (dObj true 0 1)
  replace HB := Lib.hid (HB.out.trans (hbx.mono HB.out.size))
  have HD1 := Lib.hid (DB.newv w2 true 0 1)
  clear hb hbx H1
  go_wp2_with fail
  refine (H2.out _ HB.out).mono ?_
  rintro e w3 ⟨rfl, hb⟩
  have hbx := hb.alloc hb.size (dObj true 0 0)
  replace HD1 := Lib.hid (HD1.out.below hbx)
  replace HB := Lib.hid (HB.out.trans (hbx.mono HB.out.size))
  have HD2 := Lib.hid (DB.newv w3 true 0 0)
  clear hb hbx H2
  go_wp2_with fail
  refine (H3.out _ HB.out).mono ?_
  rintro e w4 ⟨rfl, hb⟩
  have hbx := hb.alloc hb.size (dObj true 1 0)
  replace HD1 := Lib.hid (HD1.out.below hbx)
  replace HD2 := Lib.hid (HD2.out.below hbx)
  replace HB := Lib.hid (HB.out.trans (hbx.mono HB.out.size))
  have HD3 := Lib.hid (DB.newv w4 true 1 0)
  clear hb hbx H3
  go_wp2_with fail
  refine (H4.out _ HB.out).mono ?_
  rintro e w5 ⟨rfl, hb⟩
  have hbx := hb.alloc hb.size (dObj true 1 2)
  replace HD1 := Lib.hid (HD1.out.below hbx)
  replace HD2 := Lib.hid (HD2.out.below hbx)
  replace HD3 := Lib.hid (HD3.out.below hbx)
  replace HB := Lib.hid (HB.out.trans (hbx.mono HB.out.size))
  have HD4 := Lib.hid (DB.newv w5 true 1 2)
  clear hb hbx H4
  go_wp2_with fail
  refine (H5.out _ HB.out).mono ?_
  rintro e w6 ⟨rfl, hb⟩
  have hbx := hb.alloc hb.size (dObj false 0 0)
  replace HD1 := Lib.hid (HD1.out.below hbx)
  replace HD2 := Lib.hid (HD2.out.below hbx)
  replace HD3 := Lib.hid (HD3.out.below hbx)
  replace HD4 := Lib.hid (HD4.out.below hbx)
  replace HB := Lib.hid (HB.out.trans (hbx.mono HB.out.size))
  have HD5 := Lib.hid (DB.newv w6 false 0 0)
  clear hb hbx H5
  go_wp2_with fail
  refine (H6.out _ HB.out).mono ?_
  rintro e w7 ⟨rfl, hb⟩
  have hbx := hb.alloc hb.size (dObj false 0 0)
  replace HD1 := Lib.hid (HD1.out.below hbx)
  replace HD2 := Lib.hid (HD2.out.below hbx)
  replace HD3 := Lib.hid (HD3.out.below hbx)
  replace HD4 := Lib.hid (HD4.out.below hbx)
  replace HD5 := Lib.hid (HD5.out.below hbx)
  replace HB := Lib.hid (HB.out.trans (hbx.mono HB.out.size))
  clear hb hbx H6
  go_wp2_with fail
  refine (H7.out _ HB.out).mono ?_
  rintro e w8 ⟨rfl, hb⟩
  have hbx := hb.alloc hb.size (dObj false 0 0)
  replace HD1 := Lib.hid (HD1.out.below hbx)
  replace HD2 := Lib.hid (HD2.out.below hbx)
  replace HD3 := Lib.hid (HD3.out.below hbx)
  replace HD4 := Lib.hid (HD4.out.below hbx)
  replace HD5 := Lib.hid (HD5.out.below hbx)
  replace HB := Lib.hid (HB.out.trans (hbx.mono HB.out.size))
  clear hb hbx H7
  go_wp2_with fail
  refine (H8.out _ HB.out).mono ?_
  rintro e w9 ⟨rfl, hb⟩
  have hbx := hb.alloc hb.size (dObj false 0 0)
  replace HD1 := Lib.hid (HD1.out.below hbx)
  replace HD2 := Lib.hid (HD2.out.below hbx)
  replace HD3 := Lib.hid (HD3.out.below hbx)
  replace HD4 := Lib.hid (HD4.out.below hbx)
  replace HD5 := Lib.hid (HD5.out.below hbx)
  replace HB := Lib.hid (HB.out.trans (hbx.mono HB.out.size))
  clear hb hbx H8
  go_wp2_with fail
  refine (H9.out _ HB.out).mono ?_
  rintro e w10 ⟨rfl, hb⟩
  replace HD1 := Lib.hid (HD1.out.below hb)
  replace HD2 := Lib.hid (HD2.out.below hb)
  replace HD3 := Lib.hid (HD3.out.below hb)
  replace HD4 := Lib.hid (HD4.out.below hb)
  replace HD5 := Lib.hid (HD5.out.below hb)
  replace HB := Lib.hid (HB.out.trans (hb.mono HB.out.size))
  clear hb H9
  go_wp2_with fail
  refine (H10.out _ HB.out).mono ?_
  rintro e w11 ⟨rfl, hb⟩
  replace HD1 := Lib.hid (HD1.out.below hb)
  replace HD2 := Lib.hid (HD2.out.below hb)
  replace HD3 := Lib.hid (HD3.out.below hb)
  replace HD4 := Lib.hid (HD4.out.below hb)
  replace HD5 := Lib.hid (HD5.out.below hb)
  replace HB := Lib.hid (HB.out.trans (hb.mono HB.out.size))
  clear hb H10
  go_wp2_with fail
  refine (H11.out _ HB.out).mono ?_
  rintro e w12 ⟨rfl, hb⟩
  replace HD1 := Lib.hid (HD1.out.below hb)
  replace HD2 := Lib.hid (HD2.out.below hb)
  replace HD3 := Lib.hid (HD3.out.below hb)
  replace HD4 := Lib.hid (HD4.out.below hb)
  replace HD5 := Lib.hid (HD5.out.below hb)
  replace HB := Lib.hid (HB.out.trans (hb.mono HB.out.size))
  clear hb H11
  go_wp2_with fail
  refine (H12.out _ HB.out).mono ?_
  rintro e w13 ⟨rfl, hb⟩
  replace HD1 := Lib.hid (HD1.out.below hb)
  replace HD2 := Lib.hid (HD2.out.below hb)
  replace HD3 := Lib.hid (HD3.out.below hb)
  replace HD4 := Lib.hid (HD4.out.below hb)
  replace HD5 := Lib.hid (HD5.out.below hb)
  replace HB := Lib.hid (HB.out.trans (hb.mono HB.out.size))
  clear hb H12
  go_wp2_with fail
  refine (H13.out _ HB.out).mono ?_
  rintro e w14 ⟨v, rfl, hrow, hb⟩
  replace HD1 := Lib.hid (HD1.out.below hb)
  replace HD2 := Lib.hid (HD2.out.below hb)
  replace HD3 := Lib.hid (HD3.out.below hb)
  replace HD4 := Lib.hid (HD4.out.below hb)
  replace HD5 := Lib.hid (HD5.out.below hb)
  replace HB := Lib.hid (HB.out.trans (hb.mono HB.out.size))
  have HROW := Lib.hid hrow
  obtain ⟨vo, vm, vc, rfl⟩ := slice_of_row hrow
  clear hrow
  clear hb H13
  go_wp2_with fail
  refine (H14.out _ HB.out).mono ?_
  rintro e w15 ⟨rfl, hb⟩
  have hbx := hb.alloc hb.size (dObj false 0 0)
  replace HD1 := Lib.hid (HD1.out.below hbx)
  replace HD2 := Lib.hid (HD2.out.below hbx)
  replace HD3 := Lib.hid (HD3.out.below hbx)
  replace HD4 := Lib.hid (HD4.out.below hbx)
  replace HD5 := Lib.hid (HD5.out.below hbx)
  replace HROW := Lib.hid (row_below2 HROW.out hbx)
  replace HB := Lib.hid (HB.out.trans (hbx.mono HB.out.size))
  clear hb hbx H14
  go_wp2_with fail
  refine (H15a.out _).mono ?_
  rintro e w16 ⟨rfl, hb⟩
  replace HD1 := Lib.hid (HD1.out.below hb)
  replace HD2 := Lib.hid (HD2.out.below hb)
  replace HD3 := Lib.hid (HD3.out.below hb)
  replace HD4 := Lib.hid (HD4.out.below hb)
  replace HD5 := Lib.hid (HD5.out.below hb)
  replace HROW := Lib.hid (row_below2 HROW.out hb)
  replace HB := Lib.hid (HB.out.trans (hb.mono HB.out.size))
  clear hb H15a
  have hts := HTZS.out
  go_wp2_with fail
  clear hts
  refine (H15b.out _ HB.out).mono ?_
  rintro e w17 ⟨rfl, hb⟩
  have hbx := hb.alloc hb.size (dObj false 0 0)
  replace HD1 := Lib.hid (HD1.out.below hbx)
  replace HD2 := Lib.hid (HD2.out.below hbx)
  replace HD3 := Lib.hid (HD3.out.below hbx)
  replace HD4 := Lib.hid (HD4.out.below hbx)
  replace HD5 := Lib.hid (HD5.out.below hbx)
  replace HROW := Lib.hid (row_below2 HROW.out hbx)
  replace HB := Lib.hid (HB.out.trans (hbx.mono HB.out.size))
  clear hb hbx H15b
  go_wp2_with fail
  refine (H16a.out _).mono ?_
  rintro e w18 ⟨rfl, hb⟩
  replace HD1 := Lib.hid (HD1.out.below hb)
  replace HD2 := Lib.hid (HD2.out.below hb)
  replace HD3 := Lib.hid (HD3.out.below hb)
  replace HD4 := Lib.hid (HD4.out.below hb)
  replace HD5 := Lib.hid (HD5.out.below hb)
  replace HROW := Lib.hid (row_below2 HROW.out hb)
  replace HB := Lib.hid (HB.out.trans (hb.mono HB.out.size))
  clear hb H16a
  go_wp2_with fail
  refine (H16b.out _ HB.out).mono ?_
  rintro e w19 ⟨rfl, hb⟩
  have hbx := hb.alloc hb.size (dObj false 0 0)
  replace HD1 := Lib.hid (HD1.out.below hbx)
  replace HD2 := Lib.hid (HD2.out.below hbx)
  replace HD3 := Lib.hid (HD3.out.below hbx)
  replace HD4 := Lib.hid (HD4.out.below hbx)
  replace HD5 := Lib.hid (HD5.out.below hbx)
  replace HROW := Lib.hid (row_below2 HROW.out hbx)
  replace HB := Lib.hid (HB.out.trans (hbx.mono HB.out.size))
  clear hb hbx H16b
  go_wp2_with fail
  refine (H17.out _ HB.out).mono ?_
  rintro e w20 ⟨rfl, hb⟩
  replace HD1 := Lib.hid (HD1.out.below hb)
  replace HD2 := Lib.hid (HD2.out.below hb)
  replace HD3 := Lib.hid (HD3.out.below hb)
  replace HD4 := Lib.hid (HD4.out.below hb)
  replace HD5 := Lib.hid (HD5.out.below hb)
  replace HROW := Lib.hid (row_below2 HROW.out hb)
  replace HB := Lib.hid (HB.out.trans (hb.mono HB.out.size))
  clear hb H17
  have hlt3 := World.ownsRow_lit (base := w20.heap.size) (e := 70) (size := 2) w20 #[.string ⟨#[48]⟩, .string ⟨#[49, 47, 50]⟩, .string ⟨#[49]⟩, .string ⟨#[49, 47, 52]⟩, .string sLate, .string ⟨#[49, 47, 52]⟩] 3 (Nat.le_refl _) (by unfold maxLen; omega) rfl
  have hal := (Below.refl w20.heap.size w20).alloc (Nat.le_refl _) (.cells #[.string ⟨#[48]⟩, .string ⟨#[49, 47, 50]⟩, .string ⟨#[49]⟩, .string ⟨#[49, 47, 52]⟩, .string sLate, .string ⟨#[49, 47, 52]⟩] 70)
  have HSM := Lib.hid (Same_mass (row_below2 HROW.out hal) hlt3 (by decide))
  obtain ⟨d10, d11, d12⟩ := HD1.out.cells
  obtain ⟨d20, d21, d22⟩ := HD2.out.cells
  obtain ⟨d30, d31, d32⟩ := HD3.out.cells
  obtain ⟨d40, d41, d42⟩ := HD4.out.cells
  obtain ⟨d50, d51, d52⟩ := HD5.out.cells
  replace HB := Lib.hid (HB.out.trans (hal.mono HB.out.size))
  clear hlt3 hal HROW
  have q1 := eq_draw true true 0 1 0 1
  have q2 := eq_draw true true 0 0 0 0
  have q3 := eq_draw true true 1 0 1 0
  have q4 := eq_draw true true 1 2 1 2
  have q5 := eq_draw false false 0 0 0 0
  go_wp2_with fail
  refine HSM.out.mono ?_
  rintro e w21 ⟨rfl, hb⟩
  replace HB := Lib.hid (HB.out.trans (hb.mono HB.out.size))
  clear hb HSM
  go_wp2_with fail
  go_ret
  exact ⟨ret_bool (by simp), HB.out⟩

end Go.Proofs.YtgeohcpmoleocaaGreatDoor
