/-
  count and share. share, possible, Late. Law. The reference's All.
-/
import Derived.Test.YteojekiocecdnaaGreatDoorKB
import Derived.Test.YteojekiocecdnaaGreatDoorBC
import Derived.Test.YteojekiocecdnaaGreatDoorB15
import Derived.Deep.RegionHeld3
import Derived.Deep.AppendLies
import Derived.Laws.OwnMore
namespace Go.Proofs.YteojekiocecdnaaGreatDoor
open Go.RowKit NV
open Go.Lib (decDigits)

/-- Block b is a counts. -/
def CB (w : World) (b : Nat) (x0 x1 x2 x3 : ByteArray) : Prop := w.heap[b]? = some (.cells #[.string x0, .string x1, .string x2, .string x3] 82 (0, 0))
theorem CB.lt {w : World} {b : Nat} {x0 x1 x2 x3 : ByteArray} (h : CB w b x0 x1 x2 x3) : b < w.heap.size := (Array.getElem?_eq_some_iff.1 h).1
theorem CB.below {w w1 : World} {b : Nat} {x0 x1 x2 x3 : ByteArray} (h : CB w b x0 x1 x2 x3) (hb : Below w.heap.size w w1) : CB w1 b x0 x1 x2 x3 := (hb.block b h.lt).trans h
theorem CB.other {w : World} {b c j : Nat} {v : Value} {x0 x1 x2 x3 : ByteArray} (h : CB w b x0 x1 x2 x3) (hne : b ≠ c) : CB (w.setCell ⟨c, j, none⟩ v) b x0 x1 x2 x3 := (heap_setCell_other w ⟨c, j, none⟩ b v hne).trans h
theorem CB.new (w : World) (x0 x1 x2 x3 : ByteArray) : CB (w.alloc (.cells #[.string x0, .string x1, .string x2, .string x3] 82)) w.heap.size x0 x1 x2 x3 := heap_alloc_new w _
theorem CB.c {w : World} {b : Nat} {x0 x1 x2 x3 : ByteArray} (h : CB w b x0 x1 x2 x3) : w.cell? ⟨b, 0, none⟩ = some (.string x0) ∧ w.cell? ⟨b, 1, none⟩ = some (.string x1) ∧ w.cell? ⟨b, 2, none⟩ = some (.string x2) ∧ w.cell? ⟨b, 3, none⟩ = some (.string x3) :=
  ⟨by rw [Lib.cell_of_heap h]; rfl, by rw [Lib.cell_of_heap h]; rfl, by rw [Lib.cell_of_heap h]; rfl, by rw [Lib.cell_of_heap h]; rfl⟩
theorem CB.f {w : World} {b : Nat} {x0 x1 x2 x3 : ByteArray} (h : CB w b x0 x1 x2 x3) (j : Nat) : w.frozen? ⟨b, j, none⟩ = false := Lib.frozen_of_heap h j
theorem CB.s0 {w : World} {b : Nat} {x0 x1 x2 x3 : ByteArray} (h : CB w b x0 x1 x2 x3) (y : ByteArray) : CB (w.setCell ⟨b, 0, none⟩ (.string y)) b y x1 x2 x3 := heap_setCell_same w b 0 _ _ _ h
theorem CB.s1 {w : World} {b : Nat} {x0 x1 x2 x3 : ByteArray} (h : CB w b x0 x1 x2 x3) (y : ByteArray) : CB (w.setCell ⟨b, 1, none⟩ (.string y)) b x0 y x2 x3 := heap_setCell_same w b 1 _ _ _ h
theorem CB.s2 {w : World} {b : Nat} {x0 x1 x2 x3 : ByteArray} (h : CB w b x0 x1 x2 x3) (y : ByteArray) : CB (w.setCell ⟨b, 2, none⟩ (.string y)) b x0 x1 y x3 := heap_setCell_same w b 2 _ _ _ h
theorem CB.s3 {w : World} {b : Nat} {x0 x1 x2 x3 : ByteArray} (h : CB w b x0 x1 x2 x3) (y : ByteArray) : CB (w.setCell ⟨b, 3, none⟩ (.string y)) b x0 x1 x2 y := heap_setCell_same w b 3 _ _ _ h
theorem info_C : (Tryz.prog.info? 82).map (·.size) = some 4 := by kernel_rfl
theorem CB.load {w : World} {b : Nat} {x0 x1 x2 x3 : ByteArray} (h : CB w b x0 x1 x2 x3) : (loadVar 82 ⟨b, 0, none⟩).run Tryz.prog w = .ok (.agg #[.string x0, .string x1, .string x2, .string x3]) w :=
  run_loadVar_row _ _ 82 82 _ (0, 0) _ h Tryz.underlying82 rfl info_C
def sc4 (w : World) (b : Nat) (x0 x1 x2 x3 : ByteArray) : World := (((w.setCell ⟨b, 0, none⟩ (.string x0)).setCell ⟨b, 1, none⟩ (.string x1)).setCell ⟨b, 2, none⟩ (.string x2)).setCell ⟨b, 3, none⟩ (.string x3)
theorem CB.st {w : World} {b : Nat} {x0 x1 x2 x3 : ByteArray} (h : CB w b x0 x1 x2 x3) (y0 y1 y2 y3 : ByteArray) : CB (sc4 w b y0 y1 y2 y3) b y0 y1 y2 y3 := (((h.s0 y0).s1 y1).s2 y2).s3 y3
theorem below_sc4 {B : Nat} {w w' : World} (h : Below B w w') {b : Nat} (hb : B ≤ b) (x0 x1 x2 x3 : ByteArray) : Below B w (sc4 w' b x0 x1 x2 x3) :=
  (((h.setCell (p := ⟨b, 0, none⟩) hb _).setCell (p := ⟨b, 1, none⟩) hb _).setCell (p := ⟨b, 2, none⟩) hb _).setCell (p := ⟨b, 3, none⟩) hb _
theorem CB.resultC {w : World} {b : Nat} {x0 x1 x2 x3 : ByteArray} {tmps : Array Value} {x : Value} (h : CB w b x0 x1 x2 x3) (ht : tmps.getD 4 undef = .pointer (some ⟨b, 0, none⟩)) (hx : tmps.getD 5 undef = x) : (results Tryz.f61 tmps).run Tryz.prog w = .ok (.tuple #[.agg #[.string x0, .string x1, .string x2, .string x3], x]) w := by
  have hl := h.load
  have ht' : tmps[4]?.getD undef = .pointer (some ⟨b, 0, none⟩) := by rw [← ht]; simp
  have hx' : tmps[5]?.getD undef = x := by rw [← hx]; simp
  simp [results, ht', hx', asAddr, hl]

/-- How many bit strings of n bits lead to 1; whether one is late; how many lead to 0. -/
def cOne (q : Rat) (n : Nat) : Nat := tp q * 2 ^ n / q.den
def cLate (q : Rat) (n : Nat) : Nat := if tp q * 2 ^ n % q.den = 0 then 0 else 1
def cZero (q : Rat) (n : Nat) : Nat := 2 ^ n - cOne q n - cLate q n
abbrev empB : ByteArray := ⟨#[]⟩
abbrev cObj (x0 x1 x2 x3 : ByteArray) : Obj := .cells #[.string x0, .string x1, .string x2, .string x3] 82
theorem counts_le {q : Rat} (hle : tp q ≤ q.den) (n : Nat) : cOne q n ≤ 2 ^ n ∧ cLate q n ≤ 2 ^ n - cOne q n := by
  have hd : 0 < q.den := q.den_pos
  have h1 : tp q * 2 ^ n ≤ q.den * 2 ^ n := Nat.mul_le_mul_right _ hle
  have h2 : cOne q n ≤ 2 ^ n := by
    unfold cOne
    have := Nat.div_le_div_right (c := q.den) h1
    rwa [Nat.mul_comm q.den, Nat.mul_div_cancel _ hd] at this
  refine ⟨h2, ?_⟩
  unfold cLate
  split
  · omega
  · rename_i hr
    have h3 := Nat.div_add_mod (tp q * 2 ^ n) q.den
    have h4 : cOne q n = tp q * 2 ^ n / q.den := rfl
    rw [← h4] at h3
    rcases Nat.lt_or_ge (cOne q n) (2 ^ n) with h5 | h5
    · omega
    · exfalso
      have h6 : cOne q n = 2 ^ n := by omega
      rw [h6] at h3; omega

theorem ok_prod {q : Rat} (hle : tp q ≤ q.den) (hs : (dstr q.den).size ≤ 1000) {n : Nat} (hn : n ≤ 256) : Ok (tp q * 2 ^ n) := by
  obtain ⟨K, hK⟩ : ∃ K, K = 1000 := ⟨_, rfl⟩
  rw [← hK, dstr_size, dec_len_le (by omega)] at hs
  have h1 : 2 ^ n < 10 ^ (n + 1) := by
    have a : 2 ^ n ≤ 10 ^ n := Nat.pow_le_pow_left (by omega) n
    have b : 10 ^ (n + 1) = 10 ^ n * 10 := by rw [Nat.pow_succ]
    have c : 0 < 10 ^ n := Nat.pow_pos (by omega)
    omega
  have h2 : tp q * 2 ^ n < 10 ^ K * 10 ^ (n + 1) := Nat.mul_lt_mul_of_lt_of_le (Nat.lt_of_le_of_lt hle hs) (Nat.le_of_lt h1) (Nat.pow_pos (by omega))
  rw [← Nat.pow_add] at h2
  exact ok_small (by omega) h2

set_option maxHeartbeats 6400000 in
set_option maxRecDepth 100000 in
theorem count_rest {q : Rat} (op : QOk q) (hp : probE q = 0) {n : Nat} (hn : n ≤ 256) (hr : tp q * 2 ^ n % q.den ≠ 0) (w : World) (htab : Tab w) (hm : ML w) :
    Calls Tryz.prog 61 #[.string (qstr q), .int .i64 (n : Int)] w fun e w' => e = .returned (.tuple #[.agg #[.string (dstr (cZero q n)), .string (dstr (cOne q n)), .string (dstr (cLate q n)), .string (dstr (2 ^ n))], .int .i64 0]) ∧ Below w.heap.size w w' := by
  obtain ⟨_, h2, h3⟩ := probE_ok hp
  obtain ⟨g1, g2⟩ := counts_le h2 n
  have okA : Ok (2 ^ n) := ok_two (n := n) (by omega) (Nat.le_refl _)
  have ok1 : Ok (cOne q n) := okA.mono g1
  have okL : Ok (cLate q n) := okA.mono (Nat.le_trans g2 (Nat.sub_le _ _))
  have okD : Ok (2 ^ n - cOne q n) := okA.mono (Nat.sub_le _ _)
  have okS := ok_prod h2 h3 hn
  have HP := Lib.hid (fun W (h : Below w.heap.size w W) => cparts_ok op hp W (ml_keep hm (ml_pos hm) h))
  have hpw := fun W (h : Below w.heap.size w W) => Pow_ok 2 n (ok_two (n := 1) (by omega) (by omega)) (by omega) okA W (htab.below h)
  rw [← two_str] at hpw
  have HPW := Lib.hid hpw
  have HMU := Lib.hid (fun W (h : Below w.heap.size w W) => Mul_ok (tp q) (2 ^ n) op.1 okA okS W (htab.below h))
  have hdm := fun W (h : Below w.heap.size w W) => DivMod_ok (tp q * 2 ^ n) q.den okS op.2 q.den_nz W (htab.below h)
  have HS1 := Lib.hid (fun W (h : Below w.heap.size w W) => Sub_ok (2 ^ n) (cOne q n) okA ok1 g1 W (htab.below h))
  have hs2 := fun W (h : Below w.heap.size w W) => Sub_ok (2 ^ n - cOne q n) (cLate q n) okD okL g2 W (htab.below h)
  rw [show 2 ^ n - cOne q n - cLate q n = cZero q n from rfl] at hs2
  rw [show tp q * 2 ^ n / q.den = cOne q n from rfl] at hdm
  have hL : cLate q n = 1 := if_neg hr
  have hz : ((dstr (tp q * 2 ^ n % q.den)).toList == [48]) = false := by rw [zero_is]; exact decide_eq_false hr
  rw [hL, ← one_str] at hs2
  rw [hL, ← one_str]
  have HDM := Lib.hid hdm
  have HS2 := Lib.hid hs2
  have hlt0 : w.heap.size < (w.alloc (cObj empB empB empB empB)).heap.size := by simp
  have HB := Lib.hid ((Below.refl w.heap.size w).alloc (Nat.le_refl _) (cObj empB empB empB empB))
  have HR := Lib.hid (CB.new w empB empB empB empB)
  have HLT := Lib.hid hlt0
  generalize dstr (cZero q n) = sz at *
  generalize dstr (cOne q n) = so at *
  generalize dstr (2 ^ n) = sa at *
  generalize dstr (2 ^ n - cOne q n) = sd at *
  generalize dstr (tp q * 2 ^ n % q.den) = sr at *
  generalize dstr (tp q * 2 ^ n) = ss at *
  generalize dstr (tp q) = st at *
  generalize dstr q.den = sb at *
  generalize qstr q = s at *
  clear op hp htab hm h2 h3 g1 g2 okA ok1 okL okD okS hpw hdm hs2 hL hr hlt0
  go_enter Tryz.func61, Tryz.ntmps61
  go_wp2_with fail
  refine (HP.out _ HB.out).mono ?_
  rintro e w1 ⟨rfl, hb1⟩
  replace HB := Lib.hid (HB.out.trans ((hb1.alloc hb1.size (cObj empB empB ⟨#[48]⟩ empB)).mono HB.out.size))
  replace HR := Lib.hid (HR.out.below (hb1.alloc hb1.size (cObj empB empB ⟨#[48]⟩ empB)))
  have HC := Lib.hid (CB.new w1 empB empB ⟨#[48]⟩ empB)
  have HN := Lib.hid (Nat.lt_of_lt_of_le HLT.out hb1.size)
  clear hb1 HP HLT
  go_wp2_with fail
  refine (HPW.out _ HB.out).mono ?_
  rintro e w2 ⟨rfl, hb2⟩
  have hc2 := HC.out.below hb2
  have hc2s := hc2.s3 sa
  obtain ⟨_, _, _, c3⟩ := hc2.c
  obtain ⟨_, _, _, d3⟩ := hc2s.c
  have f3 := hc2.f 3
  replace HR := Lib.hid ((HR.out.below hb2).other (c := w1.heap.size) (j := 3) (v := .string sa) (Nat.ne_of_lt HN.out))
  replace HB := Lib.hid ((HB.out.trans (hb2.mono HB.out.size)).setCell (p := ⟨w1.heap.size, 3, none⟩) (Nat.le_of_lt HN.out) (.string sa))
  replace HC := Lib.hid hc2s
  clear hb2 HPW hc2 hc2s
  go_wp2_with fail
  refine (HMU.out _ HB.out).mono ?_
  rintro e w3 ⟨rfl, hb3⟩
  replace HC := Lib.hid (HC.out.below hb3)
  replace HR := Lib.hid (HR.out.below hb3)
  replace HB := Lib.hid (HB.out.trans (hb3.mono HB.out.size))
  clear hb3 HMU c3 d3 f3
  go_wp2_with fail
  refine (HDM.out _ HB.out).mono ?_
  rintro e w4 ⟨rfl, hb4⟩
  have hc4 := HC.out.below hb4
  have hc5 := hc4.s2 ⟨#[49]⟩
  have hc6 := hc5.s1 so
  obtain ⟨_, _, c2, _⟩ := hc4.c
  obtain ⟨_, d1, _, _⟩ := hc5.c
  obtain ⟨_, e1, _, e3⟩ := hc6.c
  have f2 := hc4.f 2
  have f1 := hc5.f 1
  replace HR := Lib.hid (((HR.out.below hb4).other (c := w1.heap.size) (j := 2) (v := .string ⟨#[49]⟩) (Nat.ne_of_lt HN.out)).other (c := w1.heap.size) (j := 1) (v := .string so) (Nat.ne_of_lt HN.out))
  replace HB := Lib.hid (((HB.out.trans (hb4.mono HB.out.size)).setCell (p := ⟨w1.heap.size, 2, none⟩) (Nat.le_of_lt HN.out) (.string ⟨#[49]⟩)).setCell (p := ⟨w1.heap.size, 1, none⟩) (Nat.le_of_lt HN.out) (.string so))
  replace HC := Lib.hid hc6
  clear hb4 HDM hc4 hc5 hc6
  go_wp2_with fail
  refine (HS1.out _ HB.out).mono ?_
  rintro e w5 ⟨rfl, hb5⟩
  have hc7 := HC.out.below hb5
  have hc8 := hc7.s0 sd
  obtain ⟨i0, _, _, _⟩ := hc7.c
  obtain ⟨j0, _, j2, _⟩ := hc8.c
  have f0 := hc7.f 0
  replace HR := Lib.hid ((HR.out.below hb5).other (c := w1.heap.size) (j := 0) (v := .string sd) (Nat.ne_of_lt HN.out))
  replace HB := Lib.hid ((HB.out.trans (hb5.mono HB.out.size)).setCell (p := ⟨w1.heap.size, 0, none⟩) (Nat.le_of_lt HN.out) (.string sd))
  replace HC := Lib.hid hc8
  clear hb5 HS1 hc7 hc8 c2 f2 d1 e1 e3 f1
  go_wp2_with fail
  refine (HS2.out _ HB.out).mono ?_
  rintro e w6 ⟨rfl, hb6⟩
  have hc9 := HC.out.below hb6
  have hc10 := hc9.s0 sz
  obtain ⟨k0, _, _, _⟩ := hc9.c
  obtain ⟨l0, l1, l2, l3⟩ := hc10.c
  have g0 := hc9.f 0
  have hr := (HR.out.below hb6).other (c := w1.heap.size) (j := 0) (v := .string sz) (Nat.ne_of_lt HN.out)
  obtain ⟨r0, r1, r2, r3⟩ := hr.c
  have q0 := hr.f 0
  have q1 := hr.f 1
  have q2 := hr.f 2
  have q3 := hr.f 3
  have HRES := Lib.hid (And.intro hr ((HB.out.trans (hb6.mono HB.out.size)).setCell (p := ⟨w1.heap.size, 0, none⟩) (Nat.le_of_lt HN.out) (.string sz)))
  clear hb6 HS2 hc9 hc10 i0 j0 j2 f0 hr HR HB HC
  go_wp2_with fail
  exact bodyPost_ret ((HRES.out.1.st sz so ⟨#[49]⟩ sa).resultC rfl rfl) rfl ⟨rfl, below_sc4 HRES.out.2 (Nat.le_refl _) _ _ _ _⟩

set_option maxHeartbeats 6400000 in
set_option maxRecDepth 100000 in
theorem count_even {q : Rat} (op : QOk q) (hp : probE q = 0) {n : Nat} (hn : n ≤ 256) (hr : tp q * 2 ^ n % q.den = 0) (w : World) (htab : Tab w) (hm : ML w) :
    Calls Tryz.prog 61 #[.string (qstr q), .int .i64 (n : Int)] w fun e w' => e = .returned (.tuple #[.agg #[.string (dstr (cZero q n)), .string (dstr (cOne q n)), .string (dstr (cLate q n)), .string (dstr (2 ^ n))], .int .i64 0]) ∧ Below w.heap.size w w' := by
  obtain ⟨_, h2, h3⟩ := probE_ok hp
  obtain ⟨g1, g2⟩ := counts_le h2 n
  have okA : Ok (2 ^ n) := ok_two (n := n) (by omega) (Nat.le_refl _)
  have ok1 : Ok (cOne q n) := okA.mono g1
  have okL : Ok (cLate q n) := okA.mono (Nat.le_trans g2 (Nat.sub_le _ _))
  have okD : Ok (2 ^ n - cOne q n) := okA.mono (Nat.sub_le _ _)
  have okS := ok_prod h2 h3 hn
  have HP := Lib.hid (fun W (h : Below w.heap.size w W) => cparts_ok op hp W (ml_keep hm (ml_pos hm) h))
  have hpw := fun W (h : Below w.heap.size w W) => Pow_ok 2 n (ok_two (n := 1) (by omega) (by omega)) (by omega) okA W (htab.below h)
  rw [← two_str] at hpw
  have HPW := Lib.hid hpw
  have HMU := Lib.hid (fun W (h : Below w.heap.size w W) => Mul_ok (tp q) (2 ^ n) op.1 okA okS W (htab.below h))
  have hdm := fun W (h : Below w.heap.size w W) => DivMod_ok (tp q * 2 ^ n) q.den okS op.2 q.den_nz W (htab.below h)
  have HS1 := Lib.hid (fun W (h : Below w.heap.size w W) => Sub_ok (2 ^ n) (cOne q n) okA ok1 g1 W (htab.below h))
  have hs2 := fun W (h : Below w.heap.size w W) => Sub_ok (2 ^ n - cOne q n) (cLate q n) okD okL g2 W (htab.below h)
  rw [show 2 ^ n - cOne q n - cLate q n = cZero q n from rfl] at hs2
  rw [show tp q * 2 ^ n / q.den = cOne q n from rfl] at hdm
  have hL : cLate q n = 0 := if_pos hr
  have hz : ((dstr (tp q * 2 ^ n % q.den)).toList == [48]) = true := by rw [zero_is]; exact decide_eq_true hr
  rw [hL, ← zero_str] at hs2
  rw [hL, ← zero_str]
  have HDM := Lib.hid hdm
  have HS2 := Lib.hid hs2
  have hlt0 : w.heap.size < (w.alloc (cObj empB empB empB empB)).heap.size := by simp
  have HB := Lib.hid ((Below.refl w.heap.size w).alloc (Nat.le_refl _) (cObj empB empB empB empB))
  have HR := Lib.hid (CB.new w empB empB empB empB)
  have HLT := Lib.hid hlt0
  generalize dstr (cZero q n) = sz at *
  generalize dstr (cOne q n) = so at *
  generalize dstr (2 ^ n) = sa at *
  generalize dstr (2 ^ n - cOne q n) = sd at *
  generalize dstr (tp q * 2 ^ n % q.den) = sr at *
  generalize dstr (tp q * 2 ^ n) = ss at *
  generalize dstr (tp q) = st at *
  generalize dstr q.den = sb at *
  generalize qstr q = s at *
  clear op hp htab hm h2 h3 g1 g2 okA ok1 okL okD okS hpw hdm hs2 hL hr hlt0
  go_enter Tryz.func61, Tryz.ntmps61
  go_wp2_with fail
  refine (HP.out _ HB.out).mono ?_
  rintro e w1 ⟨rfl, hb1⟩
  replace HB := Lib.hid (HB.out.trans ((hb1.alloc hb1.size (cObj empB empB ⟨#[48]⟩ empB)).mono HB.out.size))
  replace HR := Lib.hid (HR.out.below (hb1.alloc hb1.size (cObj empB empB ⟨#[48]⟩ empB)))
  have HC := Lib.hid (CB.new w1 empB empB ⟨#[48]⟩ empB)
  have HN := Lib.hid (Nat.lt_of_lt_of_le HLT.out hb1.size)
  clear hb1 HP HLT
  go_wp2_with fail
  refine (HPW.out _ HB.out).mono ?_
  rintro e w2 ⟨rfl, hb2⟩
  have hc2 := HC.out.below hb2
  have hc2s := hc2.s3 sa
  obtain ⟨_, _, _, c3⟩ := hc2.c
  obtain ⟨_, _, _, d3⟩ := hc2s.c
  have f3 := hc2.f 3
  replace HR := Lib.hid ((HR.out.below hb2).other (c := w1.heap.size) (j := 3) (v := .string sa) (Nat.ne_of_lt HN.out))
  replace HB := Lib.hid ((HB.out.trans (hb2.mono HB.out.size)).setCell (p := ⟨w1.heap.size, 3, none⟩) (Nat.le_of_lt HN.out) (.string sa))
  replace HC := Lib.hid hc2s
  clear hb2 HPW hc2 hc2s
  go_wp2_with fail
  refine (HMU.out _ HB.out).mono ?_
  rintro e w3 ⟨rfl, hb3⟩
  replace HC := Lib.hid (HC.out.below hb3)
  replace HR := Lib.hid (HR.out.below hb3)
  replace HB := Lib.hid (HB.out.trans (hb3.mono HB.out.size))
  clear hb3 HMU c3 d3 f3
  go_wp2_with fail
  refine (HDM.out _ HB.out).mono ?_
  rintro e w4 ⟨rfl, hb4⟩
  have hc4 := HC.out.below hb4
  have hc6 := hc4.s1 so
  obtain ⟨_, d1, _, _⟩ := hc4.c
  obtain ⟨_, e1, _, e3⟩ := hc6.c
  have f1 := hc4.f 1
  replace HR := Lib.hid ((HR.out.below hb4).other (c := w1.heap.size) (j := 1) (v := .string so) (Nat.ne_of_lt HN.out))
  replace HB := Lib.hid ((HB.out.trans (hb4.mono HB.out.size)).setCell (p := ⟨w1.heap.size, 1, none⟩) (Nat.le_of_lt HN.out) (.string so))
  replace HC := Lib.hid hc6
  clear hb4 HDM hc4 hc6
  go_wp2_with fail
  refine (HS1.out _ HB.out).mono ?_
  rintro e w5 ⟨rfl, hb5⟩
  have hc7 := HC.out.below hb5
  have hc8 := hc7.s0 sd
  obtain ⟨i0, _, _, _⟩ := hc7.c
  obtain ⟨j0, _, j2, _⟩ := hc8.c
  have f0 := hc7.f 0
  replace HR := Lib.hid ((HR.out.below hb5).other (c := w1.heap.size) (j := 0) (v := .string sd) (Nat.ne_of_lt HN.out))
  replace HB := Lib.hid ((HB.out.trans (hb5.mono HB.out.size)).setCell (p := ⟨w1.heap.size, 0, none⟩) (Nat.le_of_lt HN.out) (.string sd))
  replace HC := Lib.hid hc8
  clear hb5 HS1 hc7 hc8 d1 e1 e3 f1
  go_wp2_with fail
  refine (HS2.out _ HB.out).mono ?_
  rintro e w6 ⟨rfl, hb6⟩
  have hc9 := HC.out.below hb6
  have hc10 := hc9.s0 sz
  obtain ⟨k0, _, _, _⟩ := hc9.c
  obtain ⟨l0, l1, l2, l3⟩ := hc10.c
  have g0 := hc9.f 0
  have hr := (HR.out.below hb6).other (c := w1.heap.size) (j := 0) (v := .string sz) (Nat.ne_of_lt HN.out)
  obtain ⟨r0, r1, r2, r3⟩ := hr.c
  have q0 := hr.f 0
  have q1 := hr.f 1
  have q2 := hr.f 2
  have q3 := hr.f 3
  have HRES := Lib.hid (And.intro hr ((HB.out.trans (hb6.mono HB.out.size)).setCell (p := ⟨w1.heap.size, 0, none⟩) (Nat.le_of_lt HN.out) (.string sz)))
  clear hb6 HS2 hc9 hc10 i0 j0 j2 f0 hr HR HB HC
  go_wp2_with fail
  exact bodyPost_ret ((HRES.out.1.st sz so ⟨#[48]⟩ sa).resultC rfl rfl) rfl ⟨rfl, below_sc4 HRES.out.2 (Nat.le_refl _) _ _ _ _⟩

theorem count_ok {q : Rat} (op : QOk q) (hp : probE q = 0) {n : Nat} (hn : n ≤ 256) (w : World) (htab : Tab w) (hm : ML w) :
    Calls Tryz.prog 61 #[.string (qstr q), .int .i64 (n : Int)] w fun e w' => e = .returned (.tuple #[.agg #[.string (dstr (cZero q n)), .string (dstr (cOne q n)), .string (dstr (cLate q n)), .string (dstr (2 ^ n))], .int .i64 0]) ∧ Below w.heap.size w w' := by
  by_cases h : tp q * 2 ^ n % q.den = 0
  · exact count_even op hp hn h w htab hm
  · exact count_rest op hp hn h w htab hm

open Go.RowKit NV
open Go.Lib (decDigits)

set_option maxHeartbeats 1600000 in
theorem share_ok {x0 x1 x2 : ByteArray} {k n : Nat} (hn : n ≤ 256) (hk : k ≤ 2 ^ n) (w : World) (htab : Tab w) :
    Calls Tryz.prog 62 #[.agg #[.string x0, .string x1, .string x2, .string (dstr (2 ^ n))], .string (dstr k)] w fun e w' => e = .returned (.string (qstr (cQ k n))) ∧ Below w.heap.size w w' := by
  have HM := Lib.hid (fun W (h : Below w.heap.size w W) => makeC hn hk W (htab.below h))
  have HB := Lib.hid ((Below.refl w.heap.size w).alloc (Nat.le_refl _) (cObj x0 x1 x2 (dstr (2 ^ n))))
  obtain ⟨_, _, _, c3⟩ := (CB.new w x0 x1 x2 (dstr (2 ^ n))).c
  generalize dstr (2 ^ n) = sa at *
  generalize dstr k = sk at *
  generalize qstr (cQ k n) = sq at *
  clear htab hn hk
  go_enter Tryz.func62, Tryz.ntmps62
  go_wp2_with fail
  refine (HM.out _ HB.out).mono ?_
  rintro e w1 ⟨rfl, hb1⟩
  replace HB := Lib.hid (HB.out.trans (hb1.mono HB.out.size))
  clear hb1 HM
  go_wp2_with fail
  go_ret
  exact ⟨rfl, HB.out⟩

/-- Outcomes with their probabilities, as cells; those that are possible. -/
def cellsM (l : List (ByteArray × ByteArray)) : List Value := l.flatMap (fun m => [.string m.1, .string m.2])
def fltM (l : List (ByteArray × ByteArray)) : List (ByteArray × ByteArray) := l.filter (fun m => !(m.2.toList == [48]))
theorem cellsM_app (l m : List (ByteArray × ByteArray)) : cellsM (l ++ m) = cellsM l ++ cellsM m := by unfold cellsM; rw [List.flatMap_append]
theorem cellsM_len : ∀ (l : List (ByteArray × ByteArray)), (cellsM l).length = l.length * 2
  | [] => rfl
  | a :: l => by
    have h := cellsM_len l
    have e : cellsM (a :: l) = [.string a.1, .string a.2] ++ cellsM l := by unfold cellsM; rw [List.flatMap_cons]
    rw [e, List.length_append, h, List.length_cons]; simp; omega
theorem cellsM_get : ∀ (l : List (ByteArray × ByteArray)) (k : Nat) (m : ByteArray × ByteArray), l[k]? = some m → (cellsM l)[k * 2]? = some (.string m.1) ∧ (cellsM l)[k * 2 + 1]? = some (.string m.2)
  | [], k, m, h => by simp at h
  | a :: l, 0, m, h => by
    have e : cellsM (a :: l) = [.string a.1, .string a.2] ++ cellsM l := by unfold cellsM; rw [List.flatMap_cons]
    obtain rfl : a = m := by simpa using h
    rw [e]; exact ⟨rfl, rfl⟩
  | a :: l, k + 1, m, h => by
    have e : cellsM (a :: l) = [.string a.1, .string a.2] ++ cellsM l := by unfold cellsM; rw [List.flatMap_cons]
    have h2 := cellsM_get l k m (by simpa using h)
    rw [e, Nat.succ_mul]
    exact h2
theorem fltM_app (l m : List (ByteArray × ByteArray)) : fltM (l ++ m) = fltM l ++ fltM m := by unfold fltM; rw [List.filter_append]
theorem fltM_yes {m : ByteArray × ByteArray} (h : (m.2.toList == [48]) = false) : fltM [m] = [m] := by unfold fltM; simp only [List.filter_cons, h]; rfl
theorem fltM_no {m : ByteArray × ByteArray} (h : (m.2.toList == [48]) = true) : fltM [m] = [] := by unfold fltM; simp only [List.filter_cons, h]; rfl
theorem fltM_len (l : List (ByteArray × ByteArray)) : (fltM l).length ≤ l.length := List.length_filter_le _ _

theorem infoMass : (Tryz.prog.info? 38).map (fun i => (i.zero, i.size, i.bytes)) = some (some (.agg #[.string ⟨#[]⟩, .string ⟨#[]⟩]), 2, 32) := by kernel_rfl
abbrev mObj (x y : ByteArray) : Obj := .cells #[.string x, .string y] 38

theorem row_cells {w : World} {g : Nat} {l : List (ByteArray × ByteArray)} {e : TypeId} (h : w.heap[g]? = some (.cells (cellsM l).toArray e (0, 0))) {k : Nat} {m : ByteArray × ByteArray} (hk : l[k]? = some m) :
    w.cell? ⟨g, k * 2, none⟩ = some (.string m.1) ∧ w.cell? ⟨g, k * 2 + 1, none⟩ = some (.string m.2) := by
  obtain ⟨h1, h2⟩ := cellsM_get l k m hk
  constructor
  · rw [cell_of_row w g (k * 2) _ _ _ h]; simpa using h1
  · rw [cell_of_row w g (k * 2 + 1) _ _ _ h]; simpa using h2

theorem row_below2 {w w' : World} {base n sz : Nat} {v : Value} {xs : List Value} {e : TypeId} (h : w.ownsRow base e sz v n xs) (hb : Below w.heap.size w w') : w'.ownsRow base e sz v n xs :=
  h.kept (row := none) ⟨hb.os, hb.tape, hb.output, hb.size, fun k hk _ => hb.block k hk⟩ (Classical.em _)
theorem row_base {w : World} {base base' n sz : Nat} {v : Value} {xs : List Value} {e : TypeId} (h : w.ownsRow base e sz v n xs) (hb : base' ≤ base) : w.ownsRow base' e sz v n xs := by
  refine ⟨h.1, ?_⟩
  rcases h.2 with hn | ⟨g, cap, cur, hv, hg, rest⟩
  · exact .inl hn
  · exact .inr ⟨g, cap, cur, hv, Nat.le_trans hb hg, rest⟩

set_option maxHeartbeats 3200000 in
set_option maxRecDepth 100000 in
theorem possible_any {g : Nat} {l : List (ByteArray × ByteArray)} (hl : l.length ≤ 1000) (w : World) (h : w.heap[g]? = some (.cells (cellsM l).toArray 38 (0, 0))) :
    Calls Tryz.prog 67 #[.slice (some ⟨g, 0, none⟩) l.length l.length] w fun e w' => ∃ v, e = .returned v ∧ w'.ownsRow w.heap.size 38 2 v (fltM l).length (cellsM (fltM l)) ∧ Below w.heap.size w w' := by
  obtain ⟨i0, hi, hz0, hz1, hz2⟩ := info_parts infoMass
  have HG := Lib.hid (And.intro h (Array.getElem?_eq_some_iff.1 h).1)
  obtain ⟨N, hN⟩ : ∃ N, l.length = N := ⟨_, rfl⟩
  rw [hN] at hl ⊢
  have HN := Lib.hid hN
  clear h hN
  go_enter Tryz.func67, Tryz.ntmps67
  go_wp2_with fail
  go_loopw [8, 3] (fun i dv wr => ∃ k : Nat, k ≤ N ∧ i = .int .i64 (k : Int) ∧ wr.ownsRow w.heap.size 38 2 dv (fltM (l.take k)).length (cellsM (fltM (l.take k))) ∧ Below w.heap.size w wr) (fun i _ _ => N - (intOf i).toNat)
  case atStart => exact ⟨0, Nat.zero_le _, rfl, World.ownsRow_nil _ _ _ _, Below.refl _ _⟩
  case round =>
    obtain ⟨k, hk, rfl, hrow, hb⟩ := hrel
    by_cases hlt : k < N
    · obtain ⟨m, hm⟩ : ∃ m, l[k]? = some m := ⟨l[k]'(by rw [HN.out]; exact hlt), List.getElem?_eq_getElem _⟩
      obtain ⟨x, y⟩ := m
      have htk : l.take (k + 1) = l.take k ++ [(x, y)] := by rw [List.take_add_one, hm]; rfl
      obtain ⟨c0, c1⟩ := row_cells ((hb.block _ HG.out.2).trans HG.out.1) hm
      have HFL := Lib.hid (show (fltM (l.take k)).length ≤ k from Nat.le_trans (fltM_len _) (by rw [List.length_take]; omega))
      obtain ⟨so, sm, sc, rfl⟩ := slice_of_row hrow
      have hw1 : (wr.alloc (mObj x y)).heap[wr.heap.size]? = some (.cells #[.string x, .string y] 38 (0, 0)) := heap_alloc_new wr _
      have d0 : (wr.alloc (mObj x y)).cell? ⟨wr.heap.size, 0, none⟩ = some (.string x) := by rw [Lib.cell_of_heap hw1]; rfl
      have d1 : (wr.alloc (mObj x y)).cell? ⟨wr.heap.size, 1, none⟩ = some (.string y) := by rw [Lib.cell_of_heap hw1]; rfl
      have HB := Lib.hid hb
      have HROW := Lib.hid hrow
      have HTK := Lib.hid htk
      clear hrow hb htk hw1 hm
      by_cases hz : (y.toList == [48]) = true
      · have HZ := Lib.hid (show fltM (l.take (k + 1)) = fltM (l.take k) by rw [HTK.out, fltM_app, fltM_no hz, List.append_nil])
        go_wp2_with fail
        go_roundw
        case rel => exact ⟨k + 1, by omega, by go_num, by rw [HZ.out]; exact HROW.out.alloc _, HB.out.alloc HB.out.size _⟩
        case measure => simp [intOf]; omega
      · have hz : (y.toList == [48]) = false := by simpa using hz
        have HZ := Lib.hid (show fltM (l.take (k + 1)) = fltM (l.take k) ++ [(x, y)] by rw [HTK.out, fltM_app, fltM_yes hz])
        go_wp2_with (at_builtin; refine wpList_append_own _ rfl _ _ 33 rfl w.heap.size 38 i0 (.agg #[.string ⟨#[]⟩, .string ⟨#[]⟩]) 2 32 Tryz.underlying33 hi hz0 hz1 hz2 rfl (by decide) _ _ _ rfl ((HROW.out.alloc (mObj x y)).alloc (mObj x y)) ⟨(wr.alloc (mObj x y)).heap.size, 0, none⟩ 1 1 [.string x, .string y] ?hx rfl ?n1 ?c2 ?c3 ?c4 ?c5 ?_)
        case c2 => exact ⟨rfl, rfl⟩
        case c3 => unfold maxLen; have := HFL.out; omega
        case c4 => have := HFL.out; omega
        case c5 => have := HB.out.size; first | omega | (simp; omega)
        intro v' w6 hown' hgrow _
        have hlt5 := HROW.out.lt
        have HF := Lib.hid (And.intro hown' (((HB.out.alloc HB.out.size (mObj x y)).alloc (Nat.le_trans HB.out.size (by simp)) (mObj x y)).grown hgrow (by have := HB.out.size; simp; omega) (fun q hq => (hlt5 q hq).1)))
        obtain ⟨ao', m', c', rfl⟩ := slice_of_row hown'
        clear hown' hgrow hlt5 HROW d0 d1 c0 c1
        go_wp2_with fail
        go_roundw
        case rel => exact ⟨k + 1, by omega, by go_num, by rw [HZ.out, cellsM_app, List.length_append]; exact HF.out.1, HF.out.2⟩
        case measure => simp [intOf]; omega
    · obtain rfl : k = N := by omega
      rw [show l.take k = l by rw [← HN.out, List.take_length]] at hrow
      obtain ⟨so, sm, sc, rfl⟩ := slice_of_row hrow
      have HF := Lib.hid (And.intro hrow hb)
      clear hrow hb
      go_wp2_with fail
      go_ret
      exact ⟨_, rfl, HF.out.1, HF.out.2⟩

set_option maxHeartbeats 1600000 in
theorem Late_ok {q : Rat} (op : QOk q) (hp : probE q = 0) {n : Nat} (hn : n ≤ 256) (w : World) (htab : Tab w) (hm : ML w) :
    Calls Tryz.prog 13 #[.string (qstr q), .int .i64 (n : Int)] w fun e w' => e = .returned (.tuple #[.string (qstr (cQ (cLate q n) n)), .int .i64 0]) ∧ Below w.heap.size w w' := by
  obtain ⟨g1, g2⟩ := counts_le (probE_ok hp).2.1 n
  have HC := Lib.hid (count_ok op hp hn w htab hm)
  have HS := Lib.hid (fun W (h : Below w.heap.size w W) => share_ok (x0 := dstr (cZero q n)) (x1 := dstr (cOne q n)) (x2 := dstr (cLate q n)) (k := cLate q n) hn (Nat.le_trans g2 (Nat.sub_le _ _)) W (htab.below h))
  generalize qstr (cQ (cLate q n) n) = sl at *
  generalize dstr (cZero q n) = sz at *
  generalize dstr (cOne q n) = so at *
  generalize dstr (cLate q n) = sL at *
  generalize dstr (2 ^ n) = sa at *
  generalize qstr q = s at *
  clear op hp hn htab hm g1 g2
  go_enter Tryz.func13, Tryz.ntmps13
  go_wp2_with fail
  refine HC.out.mono ?_
  rintro e w1 ⟨rfl, hb1⟩
  have HB := Lib.hid (hb1.alloc hb1.size (cObj sz so sL sa))
  obtain ⟨c0, c1, c2, c3⟩ := (CB.new w1 sz so sL sa).c
  clear hb1 HC
  go_wp2_with fail
  refine (HS.out _ HB.out).mono ?_
  rintro e w2 ⟨rfl, hb2⟩
  replace HB := Lib.hid (HB.out.trans (hb2.mono HB.out.size))
  clear hb2 HS
  go_wp2_with fail
  go_ret2
  exact ⟨rfl, HB.out⟩

open Go.RowKit NV
open Go.Lib (decDigits)

abbrev sLate : ByteArray := ⟨#[108, 97, 116, 101]⟩
/-- The three outcomes with their probabilities. -/
def lawM (q : Rat) (n : Nat) : List (ByteArray × ByteArray) := [(⟨#[48]⟩, qstr (cQ (cZero q n) n)), (⟨#[49]⟩, qstr (cQ (cOne q n) n)), (sLate, qstr (cQ (cLate q n) n))]

theorem lift_sh {f : Nat} {args : Array Value} {w0 W : World} {v : Value} (h0 : Below w0.heap.size w0 W) (hc : Calls Tryz.prog f args W fun e w' => e = .returned v ∧ Below W.heap.size W w') :
    Calls Tryz.prog f args W fun e w' => e = .returned v ∧ Below W.heap.size W w' ∧ Below w0.heap.size w0 w' :=
  hc.mono fun _ _ ⟨h1, h3⟩ => ⟨h1, h3, h0.trans (h3.mono h0.size)⟩

set_option maxHeartbeats 6400000 in
set_option maxRecDepth 100000 in
theorem Law_ok {q : Rat} (op : QOk q) (hp : probE q = 0) {n : Nat} (hn : n ≤ 256) (w : World) (htab : Tab w) (hm : ML w) :
    Calls Tryz.prog 15 #[.string (qstr q), .int .i64 (n : Int)] w fun e w' => ∃ v, e = .returned (.tuple #[v, .int .i64 0]) ∧ w'.ownsRow w.heap.size 38 2 v (fltM (lawM q n)).length (cellsM (fltM (lawM q n))) ∧ Below w.heap.size w w' := by
  obtain ⟨g1, g2⟩ := counts_le (probE_ok hp).2.1 n
  have g0 : cZero q n ≤ 2 ^ n := Nat.le_trans (Nat.sub_le _ _) (Nat.sub_le _ _)
  have HC := Lib.hid (count_ok op hp hn w htab hm)
  have okA : Ok (2 ^ n) := ok_two (n := n) (by omega) (Nat.le_refl _)
  obtain ⟨pm, hpm⟩ : ∃ pm : ByteArray → ByteArray, ∀ k, pm (dstr k) = qstr (cQ k n) := ⟨fun x => qstr (cQ (dv x.data.toList) n), fun k => by simp only [dstr_list, dv_dec]⟩
  have hs0 := fun W (h : Below w.heap.size w W) => share_ok (x0 := dstr (cZero q n)) (x1 := dstr (cOne q n)) (x2 := dstr (cLate q n)) (k := cZero q n) hn g0 W (htab.below h)
  have hs1 := fun W (h : Below w.heap.size w W) => share_ok (x0 := dstr (cZero q n)) (x1 := dstr (cOne q n)) (x2 := dstr (cLate q n)) (k := cOne q n) hn g1 W (htab.below h)
  have hs2 := fun W (h : Below w.heap.size w W) => share_ok (x0 := dstr (cZero q n)) (x1 := dstr (cOne q n)) (x2 := dstr (cLate q n)) (k := cLate q n) hn (Nat.le_trans g2 (Nat.sub_le _ _)) W (htab.below h)
  rw [← hpm] at hs0 hs1 hs2
  have HPO := Lib.hid (fun W g (h : W.heap[g]? = some (.cells (cellsM (lawM q n)).toArray 38 (0, 0))) => possible_any (g := g) (l := lawM q n) (by show 3 ≤ _; omega) W h)
  have hcl : (cellsM (lawM q n)).toArray = #[.string ⟨#[48]⟩, .string (qstr (cQ (cZero q n) n)), .string ⟨#[49]⟩, .string (qstr (cQ (cOne q n) n)), .string sLate, .string (qstr (cQ (cLate q n) n))] := rfl
  rw [hcl, show (lawM q n).length = 3 from rfl, ← hpm, ← hpm, ← hpm] at HPO
  generalize fltM (lawM q n) = L at *
  generalize dstr (cZero q n) = sz at *
  generalize dstr (cOne q n) = so at *
  generalize dstr (cLate q n) = sL at *
  generalize dstr (2 ^ n) = sa at *
  generalize qstr q = s at *
  have HSH := Lib.hid (fun W x (h : Below w.heap.size w W) (hx : x = sz ∨ x = so ∨ x = sL) => (by
    rcases hx with rfl | rfl | rfl
    · exact hs0 W h
    · exact hs1 W h
    · exact hs2 W h : Calls Tryz.prog 62 #[.agg #[.string sz, .string so, .string sL, .string sa], .string x] W fun e w' => e = .returned (.string (pm x)) ∧ Below W.heap.size W w'))
  clear op hp hn htab hm g0 g1 g2 hcl hs0 hs1 hs2 okA hpm
  go_enter Tryz.func15, Tryz.ntmps15
  go_wp2_with fail
  refine HC.out.mono ?_
  rintro e w1 ⟨rfl, hb1⟩
  have hb2 := hb1.alloc hb1.size (cObj sz so sL sa)
  have hcb := CB.new w1 sz so sL sa
  have HLT := Lib.hid (show w1.heap.size < (w1.alloc (cObj sz so sL sa)).heap.size by simp)
  clear hb1 HC
  go_wp2_with fail
  generalize w1.alloc (cObj sz so sL sa) = w2 at hb2 hcb HLT ⊢
  have HB := Lib.hid hb2
  have HS := Lib.hid (show ∀ W, Below w2.heap.size w2 W → W.cell? ⟨w1.heap.size, 0, none⟩ = some (.string sz) ∧ W.cell? ⟨w1.heap.size, 1, none⟩ = some (.string so) ∧ W.cell? ⟨w1.heap.size, 2, none⟩ = some (.string sL) ∧ W.cell? ⟨w1.heap.size, 3, none⟩ = some (.string sa) from fun W h => (hcb.below h).c)
  have HR := Lib.hid (fun W x (h : Below w2.heap.size w2 W) (hx : x = sz ∨ x = so ∨ x = sL) => HSH.out W x (hb2.trans (h.mono hb2.size)) hx)
  clear hb2 hcb HSH
  have hD0 := (Below.refl w2.heap.size w2).drew
  go_region_held3 (fun W => W.cell? ⟨w1.heap.size, 0, none⟩ = some (.string sz) ∧ W.cell? ⟨w1.heap.size, 1, none⟩ = some (.string so) ∧ W.cell? ⟨w1.heap.size, 2, none⟩ = some (.string sL) ∧ W.cell? ⟨w1.heap.size, 3, none⟩ = some (.string sa))
    (first | with_reducible exact HS.out _ hD0 | with_reducible exact HS.out _ (by assumption) | exact HS.out _ (hB1.alloc hB1.size _))
    (first
      | (go_at_call 62; refine (lift_sh (w0 := w2) (by assumption) (HR.out _ _ (by assumption) (by simp))).mono ?_; rintro e u1 ⟨rfl, hb1, hB1⟩)
      | (go_at_call 67; refine (HPO.out _ _ (heap_alloc_new _ _)).mono ?_; rintro e u4 ⟨v, rfl, hrow, hb4⟩; have hB4 : Below w2.heap.size w2 u4 := Below.trans (hB1.alloc hB1.size _) (hb4.mono (Nat.le_trans hB1.size (by simp))); have HF := Lib.hid (And.intro hrow hB4); obtain ⟨ao, m, cc, rfl⟩ := slice_of_row hrow))
  have HZ := Lib.hid (Nat.le_trans (Nat.le_trans HB.out.size hB1.size) (show u1.heap.size ≤ _ from Nat.le_succ _))
  clear hb1 hB1 hrow hb4 hB4
  go_wp2_with fail
  go_ret2
  exact ⟨_, rfl, row_base HF.out.1 (by have := HZ.out; simp; omega), HB.out.trans (HF.out.2.mono HB.out.size)⟩

open Go.RowKit NV
open Go.Lib (decDigits)

theorem wstr_listK (k n : Nat) : (wstr k n).data.toList = wbits k n := by unfold wstr; simp
theorem wbits_one {i j : Nat} (hi : i < 2 ^ j) : wbits (2 * i) (j + 1) = wbits i j ++ [48] ∧ wbits (2 * i + 1) (j + 1) = wbits i j ++ [49] := by
  have hp : 2 ^ (j + 1) = 2 ^ j * 2 := Nat.pow_succ ..
  have key : ∀ c : UInt8, (c = 48 ∨ c = 49) → wbits (2 * i + (c.toNat - 48)) (j + 1) = wbits i j ++ [c] := by
    intro c hc
    apply bv_inj
    · exact wbits_bits _ _
    · intro x hx
      rcases List.mem_append.1 hx with hx | hx
      · exact wbits_bits _ _ x hx
      · rw [List.mem_singleton] at hx; rw [hx]; exact hc
    · rw [List.length_append, wbits_len, wbits_len]; rfl
    · have hlt : 2 * i + (c.toNat - 48) < 2 ^ (j + 1) := by
        rcases hc with rfl | rfl
        · show 2 * i + 0 < _; omega
        · show 2 * i + 1 < _; omega
      rw [bv_append, wbits_val hi, wbits_val hlt]
      have h1 : bv [c] = c.toNat - 48 := by
        show 2 * 0 + (c.toNat - 48) = _; omega
      rw [h1]; simp; omega
  exact ⟨key 48 (.inl rfl), key 49 (.inr rfl)⟩
theorem wstr_one {i j : Nat} (hi : i < 2 ^ j) : wstr i j ++ (⟨#[48]⟩ : ByteArray) = wstr (2 * i) (j + 1) ∧ wstr i j ++ (⟨#[49]⟩ : ByteArray) = wstr (2 * i + 1) (j + 1) := by
  obtain ⟨h1, h2⟩ := wbits_one hi
  constructor
  · apply ba_ext; rw [app_list, wstr_listK, wstr_listK, h1]
  · apply ba_ext; rw [app_list, wstr_listK, wstr_listK, h2]

/-- The first k words of j bits. -/
def wsL (j k : Nat) : List Value := (List.range k).map (fun i => Value.string (wstr i j))
theorem wsL_get {j k i : Nat} (h : i < k) : (wsL j k)[i]? = some (.string (wstr i j)) := by unfold wsL; simp [h]
theorem wsL_two (j i : Nat) (hi : i < 2 ^ j) : wsL (j + 1) (2 * (i + 1)) = wsL (j + 1) (2 * i) ++ [.string (wstr i j ++ (⟨#[48]⟩ : ByteArray)), .string (wstr i j ++ (⟨#[49]⟩ : ByteArray))] := by
  obtain ⟨h1, h2⟩ := wstr_one hi
  rw [h1, h2]
  unfold wsL
  rw [show 2 * (i + 1) = 2 * i + 1 + 1 by omega, List.range_succ, List.range_succ, List.map_append, List.map_append, List.append_assoc]
  rfl

theorem row_form {w : World} {base N : Nat} {v : Value} {xs : List Value} (h : w.ownsRow base 23 1 v N xs) (h0 : N ≠ 0) : ∃ g cap, v = .slice (some ⟨g, 0, none⟩) N cap ∧ base ≤ g ∧ g < w.heap.size := by
  rcases h.2 with ⟨_, h1⟩ | ⟨g, cap, cur, h1, hb, hg, _⟩
  · exact absurd h1 h0
  · exact ⟨g, cap, h1, hb, (Array.getElem?_eq_some_iff.1 hg).1⟩

set_option maxHeartbeats 6400000 in
set_option maxRecDepth 100000 in
theorem rAll_ok (n : Nat) (hn : n ≤ 12) (w : World) :
    Calls Tryz.prog 45 #[.int .i64 (n : Int)] w fun e w' => ∃ v, e = .returned (.tuple #[v, .int .i64 0]) ∧ w'.ownsRow w.heap.size 23 1 v (2 ^ n) (wsL n (2 ^ n)) ∧ Below w.heap.size w w' := by
  obtain ⟨i0, hi, hz0, hz1, hz2⟩ := info_parts infoBits
  have hr0 : (w.alloc (.cells #[.string ⟨#[]⟩] 23)).ownsRow w.heap.size 23 1 (.slice (some ⟨w.heap.size, 0, none⟩) 1 1) 1 (wsL 0 1) := World.ownsRow_lit w #[.string ⟨#[]⟩] 1 (Nat.le_refl _) (by unfold maxLen; omega) rfl
  have HR0 := Lib.hid (And.intro hr0 ((Below.refl w.heap.size w).alloc (Nat.le_refl _) (.cells #[.string ⟨#[]⟩] 23)))
  clear hr0
  go_enter Tryz.func45, Tryz.ntmps45
  go_wp2_with fail
  go_loopw [0, 4] (fun nv ov wr => ∃ j : Nat, j ≤ n ∧ nv = .int .i64 ((n : Int) - (j : Int)) ∧ wr.ownsRow w.heap.size 23 1 ov (2 ^ j) (wsL j (2 ^ j)) ∧ Below w.heap.size w wr) (fun nv _ _ => (intOf nv).toNat)
  case atStart => exact ⟨0, Nat.zero_le _, by simp, HR0.out.1, HR0.out.2⟩
  case round =>
    obtain ⟨j, hj, rfl, hrow, hb⟩ := hrel
    clear HR0
    obtain ⟨N, hN⟩ : ∃ N, N = 2 ^ j := ⟨_, rfl⟩
    have hN0 : N ≠ 0 := by rw [hN]; exact Nat.pos_iff_ne_zero.1 (Nat.pow_pos (by omega))
    have hN4 : N ≤ 4096 := by
      rw [hN]; exact Nat.le_trans (Nat.pow_le_pow_right (n := 2) (by omega) (show j ≤ 12 by omega)) (by decide)
    have HN := Lib.hid hN
    rw [← hN] at hrow
    obtain ⟨g, cap, rfl, _, hg⟩ := row_form hrow hN0
    by_cases hjn : j < n
    · have hpos : (0 : Int) < (n : Int) - (j : Int) := by omega
      have HCELL := Lib.hid (show ∀ i, i < N → wr.cell? ⟨g, i, none⟩ = some (.string (wstr i j)) from fun i hi => by
        have := hrow.cells (g := g) rfl i (.string (wstr i j)) (wsL_get hi)
        rw [Addr.add_lit, Nat.zero_add] at this; exact this)
      have HB := Lib.hid (And.intro hb hg)
      clear hrow hb hg
      clear hN
      go_wp2_with fail
      obtain ⟨wo, rfl⟩ : ∃ wo, wo = wr := ⟨_, rfl⟩
      go_loopw [6, 5] (fun iv nx wr => ∃ k : Nat, k ≤ N ∧ iv = .int .i64 (k : Int) ∧ wr.ownsRow wo.heap.size 23 1 nx (2 * k) (wsL (j + 1) (2 * k)) ∧ Below wo.heap.size wo wr) (fun iv _ _ => N - (intOf iv).toNat)
      case atStart => exact ⟨0, Nat.zero_le _, rfl, World.ownsRow_nil _ _ _ _, Below.refl _ _⟩
      case round =>
        obtain ⟨k, hk, rfl, hrn, hb2⟩ := hrel
        by_cases hlt : k < N
        · have HT := Lib.hid (wsL_two j k (by rw [← HN.out]; exact hlt))
          have c0 : wr.cell? ⟨g, k, none⟩ = some (.string (wstr k j)) := (hb2.cell (p := ⟨g, k, none⟩) HB.out.2).trans (HCELL.out k hlt)
          have hxs : (wstr k j).size ≤ 12 := by rw [Go.Lib.size_eq, wstr_listK, wbits_len]; omega
          generalize hX : wstr k j = X at hxs c0 HT
          have HX := Lib.hid hX
          have hx1 : X.size < 9223372036854775807 := by omega
          have hx2 : X.size + 1 ≤ 9223372036854775807 := by omega
          have hx3 : ¬ 9223372036854775807 < X.size + 1 := by omega
          have hx48 : ∀ W : World, (Op.stringOp .add X ⟨#[48]⟩).run Tryz.prog W = .ok (.string (X ++ (⟨#[48]⟩ : ByteArray))) W := fun W => run_string_add_sum W X _ hx2
          have hx49 : ∀ W : World, (Op.stringOp .add X ⟨#[49]⟩).run Tryz.prog W = .ok (.string (X ++ (⟨#[49]⟩ : ByteArray))) W := fun W => run_string_add_sum W X _ hx2
          clear hX
          obtain ⟨xo, xm, xc, rfl⟩ := slice_of_row hrn
          have HKP := Lib.hid (show ∀ W, Below wo.heap.size wo W → W.cell? ⟨g, k, none⟩ = some (.string X) from fun W h => HX.out ▸ (h.cell (p := ⟨g, k, none⟩) HB.out.2).trans (HCELL.out k hlt))
          have HROW := Lib.hid (show wr.ownsRow wo.heap.size 23 1 (.slice xo xm xc) (2 * k) (wsL (j + 1) (2 * k)) from hrn)
          have HB2 := Lib.hid hb2
          clear hrn hb2
          go_wp2_with fail
          go_region_held3 (fun W => W.cell? ⟨g, k, none⟩ = some (.string X))
            (first | exact c0 | assumption | exact HKP.out _ (HB2.out.alloc HB2.out.size _).drew | exact HKP.out _ (HB2.out.alloc HB2.out.size _))
            (first
              | (refine step_append_lies _ rfl _ _ _ rfl wo.heap.size 23 i0 (.string ⟨#[]⟩) 1 16 Tryz.underlying56 hi hz0 hz1 hz2 rfl (by decide) _ _ _ rfl (HROW.out.alloc _) ⟨_, 0, none⟩ 2 2 [.string (X ++ (⟨#[48]⟩ : ByteArray)), .string (X ++ (⟨#[49]⟩ : ByteArray))] rfl rfl (World.news_of_block (heap_alloc_new _ _)) (fun u hu => by simp at hu; rcases hu with rfl | rfl <;> rfl) (by omega) (by unfold maxLen; omega) (by omega) (by have := HB2.out.size; simp; omega) _ rfl ?_; intro gg cc w6 hown hgrow hat hlt6; have hlt5 := HROW.out.lt; have hbf := ((HB2.out.alloc HB2.out.size _).drew).grown hgrow (by have := HB2.out.size; simp; omega) (fun q hq => (hlt5 q hq).1); have hk6 : w6.cell? ⟨g, k, none⟩ = some (.string X) := HKP.out _ hbf))
          have HF := Lib.hid (And.intro hown hbf)
          clear hown hgrow hat hlt6 hlt5 hbf hk6 HROW c0
          go_wp2_with fail
          go_roundw
          case rel => exact ⟨k + 1, by omega, by go_num, by rw [HT.out, show 2 * (k + 1) = 2 * k + 2 by omega]; exact HF.out.1, HF.out.2⟩
          case measure => simp [intOf]; omega
        · obtain rfl : k = N := by omega
          obtain ⟨xo, xm, xc, rfl⟩ := slice_of_row hrn
          have HF := Lib.hid (And.intro hrn hb2)
          clear hrn hb2
          go_wp2_with fail
          go_roundw
          case rel => exact ⟨j + 1, by omega, by go_num, by rw [show 2 ^ (j + 1) = 2 * k by rw [HN.out, Nat.pow_succ]; omega]; exact row_base HF.out.1 HB.out.1.size, HB.out.1.trans (HF.out.2.mono HB.out.1.size)⟩
          case measure => simp [intOf]; omega
    · obtain rfl : j = n := by omega
      have hpos : ¬ (0 : Int) < (j : Int) - (j : Int) := by omega
      have HF := Lib.hid (And.intro hrow hb)
      clear hrow hb
      go_wp2_with fail
      go_ret2
      exact ⟨_, rfl, by rw [← HN.out]; exact HF.out.1, HF.out.2⟩

end Go.Proofs.YteojekiocecdnaaGreatDoor
