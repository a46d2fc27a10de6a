/-
  The parts of a probability. Draw. lives of layer 4.
-/
import Derived.Test.YteojekiocecdnaaGreatDoorHG
import Derived.Test.YteojekiocecdnaaGreatDoorKA
import Derived.Test.YteojekiocecdnaaGreatDoorBC
import Derived.Laws.StructEq
namespace Go.Proofs.YteojekiocecdnaaGreatDoor
open Go.RowKit NV
open Go.Lib (decDigits)

/-- The integer above the line, as a rational number. -/
def topQ (q : Rat) : Rat := ⟨q.num, 1, by decide, by simp⟩
theorem topQ_ng (q : Rat) : ng (topQ q) = ng q := rfl
theorem topQ_tp (q : Rat) : tp (topQ q) = tp q := rfl
theorem topQ_str (q : Rat) : qstr (topQ q) = istr (ng q) (tp q) := by
  unfold qstr
  rw [rstr_eq, if_pos (show (topQ q).den = 1 from rfl)]; rfl
theorem topQ_ok {q : Rat} (h : QOk q) : QOk (topQ q) := ⟨h.1, ok_two (n := 1) (by omega) (by show 1 ≤ _; omega)⟩

/-- The error of a probability; 0 where there is none. -/
def probP (m : Bool) (n d : Nat) : Nat := if m then 2 else if d < n then 2 else if 1000 < (dstr d).size then 5 else 0
def probE (q : Rat) : Nat := probP (ng q) (tp q) q.den
theorem probE_ok {q : Rat} (h : probE q = 0) : ng q = false ∧ tp q ≤ q.den ∧ (dstr q.den).size ≤ 1000 := by
  unfold probE probP at h
  cases hn : ng q with
  | true => rw [hn] at h; simp at h
  | false =>
    rw [hn] at h
    simp only [Bool.false_eq_true, if_false] at h
    split at h
    · omega
    · split at h
      · omega
      · exact ⟨rfl, by omega, by omega⟩

set_option maxHeartbeats 1600000 in
theorem cparts_err {s : ByteArray} (w : World) (hs : s.size ≤ 1000000) (hm : ML w) {c : Nat} (hc : rchk s = c) (h0 : c ≠ 0) :
    Calls Tryz.prog 54 #[.string s] w fun e w' => e = .returned (.tuple #[.string ⟨#[]⟩, .string ⟨#[]⟩, .int .i64 ((c : Nat) : Int)]) ∧ Below w.heap.size w w' := by
  have HK := Lib.hid (Parts_err1 w hs hm hc h0)
  have hne := errne h0
  clear hc h0 hs hm
  go_enter Tryz.func54, Tryz.ntmps54
  go_wp2_with fail
  refine HK.out.mono ?_
  rintro e w1 ⟨rfl, hb1⟩
  have HB := Lib.hid hb1
  clear hb1 HK
  go_wp2_with fail
  go_ret3
  exact ⟨rfl, HB.out⟩

set_option maxHeartbeats 1600000 in
theorem cparts_neg {q : Rat} (op : QOk q) (hn : ng q = true) (w : World) (hm : ML w) :
    Calls Tryz.prog 54 #[.string (qstr q)] w fun e w' => e = .returned (.tuple #[.string ⟨#[]⟩, .string ⟨#[]⟩, .int .i64 2]) ∧ Below w.heap.size w w' := by
  have HK := Lib.hid (Parts_q q op w hm)
  have hsg := fun W (h : Below w.heap.size w W) => Sign_q (topQ q) (topQ_ok op) W (ml_keep hm (ml_pos hm) h)
  rw [topQ_str] at hsg
  have HSG := Lib.hid hsg
  have hneg : sgnQ (topQ q) < 0 := (sgn_neg_iff _).2 hn
  generalize istr (ng q) (tp q) = s1 at *
  generalize dstr q.den = s2 at *
  generalize qstr q = s at *
  generalize sgnQ (topQ q) = sg at *
  clear op hn hm hsg
  go_enter Tryz.func54, Tryz.ntmps54
  go_wp2_with fail
  refine HK.out.mono ?_
  rintro e w1 ⟨rfl, hb1⟩
  have HB := Lib.hid hb1
  clear hb1 HK
  go_wp2_with fail
  refine (HSG.out _ HB.out).mono ?_
  rintro e w2 ⟨rfl, hb2⟩
  replace HB := Lib.hid (HB.out.trans (hb2.mono HB.out.size))
  clear hb2 HSG
  go_wp2_with fail
  go_ret3
  exact ⟨rfl, HB.out⟩

set_option maxHeartbeats 1600000 in
theorem cparts_pos {q : Rat} (op : QOk q) (hn : ng q = false) (w : World) (hm : ML w) :
    Calls Tryz.prog 54 #[.string (qstr q)] w fun e w' => e = .returned (.tuple (if q.den < tp q then #[.string ⟨#[]⟩, .string ⟨#[]⟩, .int .i64 2] else if 1000 < (dstr q.den).size then #[.string ⟨#[]⟩, .string ⟨#[]⟩, .int .i64 5] else #[.string (dstr (tp q)), .string (dstr q.den), .int .i64 0])) ∧ Below w.heap.size w w' := by
  have hk := Parts_q q op w hm
  have hi : istr (ng q) (tp q) = dstr (tp q) := by rw [hn]; rfl
  rw [hi] at hk
  have HK := Lib.hid hk
  have hsg := fun W (h : Below w.heap.size w W) => Sign_q (topQ q) (topQ_ok op) W (ml_keep hm (ml_pos hm) h)
  rw [topQ_str, hi] at hsg
  have HSG := Lib.hid hsg
  have hneg : ¬ sgnQ (topQ q) < 0 := fun h => by rw [sgn_neg_iff, topQ_ng, hn] at h; cases h
  have HC := Lib.hid (fun W => Cmp_ok (tp q) q.den op.1 op.2 W)
  have hgt : (0 < cmpN (tp q) q.den) ↔ q.den < tp q := by
    unfold cmpN
    split
    · constructor <;> intro h <;> omega
    · split
      · rename_i h1 h2; exact ⟨fun _ => h2, fun _ => by omega⟩
      · rename_i h1 h2; exact ⟨fun h => by omega, fun h => absurd h h2⟩
  by_cases h1 : q.den < tp q
  · have hgt1 := hgt.2 h1
    rw [if_pos h1]
    generalize dstr (tp q) = s1 at *
    generalize dstr q.den = s2 at *
    generalize qstr q = s at *
    generalize sgnQ (topQ q) = sg at *
    generalize cmpN (tp q) q.den = cm at *
    clear op hn hm hsg hgt h1 hk hi
    go_enter Tryz.func54, Tryz.ntmps54
    go_wp2_with fail
    refine HK.out.mono ?_
    rintro e w1 ⟨rfl, hb1⟩
    have HB := Lib.hid hb1
    clear hb1 HK
    go_wp2_with fail
    refine (HSG.out _ HB.out).mono ?_
    rintro e w2 ⟨rfl, hb2⟩
    replace HB := Lib.hid (HB.out.trans (hb2.mono HB.out.size))
    clear hb2 HSG
    go_wp2_with fail
    refine (HC.out _).mono ?_
    rintro e w3 ⟨rfl, hb3⟩
    replace HB := Lib.hid (HB.out.trans (hb3.mono HB.out.size))
    clear hb3 HC
    go_wp2_with fail
    go_ret3
    exact ⟨rfl, HB.out⟩
  · have hgt1 : ¬ 0 < cmpN (tp q) q.den := fun h => h1 (hgt.1 h)
    rw [if_neg h1]
    by_cases h2 : 1000 < (dstr q.den).size
    · rw [if_pos h2]
      generalize dstr (tp q) = s1 at *
      generalize dstr q.den = s2 at *
      generalize qstr q = s at *
      generalize sgnQ (topQ q) = sg at *
      generalize cmpN (tp q) q.den = cm at *
      clear op hn hm hsg hgt h1 hk hi
      go_enter Tryz.func54, Tryz.ntmps54
      go_wp2_with fail
      refine HK.out.mono ?_
      rintro e w1 ⟨rfl, hb1⟩
      have HB := Lib.hid hb1
      clear hb1 HK
      go_wp2_with fail
      refine (HSG.out _ HB.out).mono ?_
      rintro e w2 ⟨rfl, hb2⟩
      replace HB := Lib.hid (HB.out.trans (hb2.mono HB.out.size))
      clear hb2 HSG
      go_wp2_with fail
      refine (HC.out _).mono ?_
      rintro e w3 ⟨rfl, hb3⟩
      replace HB := Lib.hid (HB.out.trans (hb3.mono HB.out.size))
      clear hb3 HC
      go_wp2_with fail
      go_ret3
      exact ⟨rfl, HB.out⟩
    · rw [if_neg h2]
      generalize dstr (tp q) = s1 at *
      generalize dstr q.den = s2 at *
      generalize qstr q = s at *
      generalize sgnQ (topQ q) = sg at *
      generalize cmpN (tp q) q.den = cm at *
      clear op hn hm hsg hgt h1 hk hi
      go_enter Tryz.func54, Tryz.ntmps54
      go_wp2_with fail
      refine HK.out.mono ?_
      rintro e w1 ⟨rfl, hb1⟩
      have HB := Lib.hid hb1
      clear hb1 HK
      go_wp2_with fail
      refine (HSG.out _ HB.out).mono ?_
      rintro e w2 ⟨rfl, hb2⟩
      replace HB := Lib.hid (HB.out.trans (hb2.mono HB.out.size))
      clear hb2 HSG
      go_wp2_with fail
      refine (HC.out _).mono ?_
      rintro e w3 ⟨rfl, hb3⟩
      replace HB := Lib.hid (HB.out.trans (hb3.mono HB.out.size))
      clear hb3 HC
      go_wp2_with fail
      go_ret3
      exact ⟨rfl, HB.out⟩

theorem cparts_ok {q : Rat} (op : QOk q) (h : probE q = 0) (w : World) (hm : ML w) :
    Calls Tryz.prog 54 #[.string (qstr q)] w fun e w' => e = .returned (.tuple #[.string (dstr (tp q)), .string (dstr q.den), .int .i64 0]) ∧ Below w.heap.size w w' := by
  obtain ⟨h1, h2, h3⟩ := probE_ok h
  have := cparts_pos op h1 w hm
  rw [if_neg (by omega), if_neg (by omega)] at this
  exact this

/-- The error of a text as a probability. -/
def prE (s : ByteArray) : Nat := if rchk s ≠ 0 then rchk s else probP (minusB (numS s)) (dv (restS (numS s)).data.toList) (dv (denS s).data.toList)
theorem prE_q {q : Rat} (op : QOk q) : prE (qstr q) = probE q := by
  unfold prE
  rw [if_neg (by rw [qstr_chk op]; simp)]
  obtain ⟨_, _, h3, _, h5, h6⟩ := qstr_parts q
  rw [h3, h5, h6]; rfl
theorem prE_chk {s : ByteArray} (h : rchk s ≠ 0) : prE s = rchk s := if_pos h

/-- A text is a probability, or it has an error. -/
theorem prob_cases {s : ByteArray} (h : prE s = 0) : ∃ q : Rat, s = qstr q ∧ QOk q ∧ ng q = false ∧ tp q ≤ q.den ∧ (dstr q.den).size ≤ 1000 ∧ probE q = 0 := by
  by_cases h0 : rchk s = 0
  · obtain ⟨q, rfl, op⟩ := rchk_rat h0
    rw [prE_q op] at h
    obtain ⟨h1, h2, h3⟩ := probE_ok h
    exact ⟨q, rfl, op, h1, h2, h3, h⟩
  · rw [prE_chk h0] at h; exact absurd h h0

theorem cparts_no {s : ByteArray} (hs : s.size ≤ 1000000) (h : prE s ≠ 0) (w : World) (hm : ML w) :
    Calls Tryz.prog 54 #[.string s] w fun e w' => e = .returned (.tuple #[.string ⟨#[]⟩, .string ⟨#[]⟩, .int .i64 ((prE s : Nat) : Int)]) ∧ Below w.heap.size w w' := by
  by_cases h0 : rchk s = 0
  · obtain ⟨q, rfl, op⟩ := rchk_rat h0
    rw [prE_q op] at h ⊢
    cases hn : ng q with
    | true =>
      have : probE q = 2 := by unfold probE probP; rw [hn]; rfl
      rw [this]
      exact cparts_neg op hn w hm
    | false =>
      have hp := cparts_pos op hn w hm
      unfold probE probP at h ⊢
      rw [hn] at h ⊢
      simp only [Bool.false_eq_true, if_false] at h ⊢
      by_cases h1 : q.den < tp q
      · rw [if_pos h1] at hp ⊢; exact hp
      · rw [if_neg h1] at hp h ⊢
        by_cases h2 : 1000 < (dstr q.den).size
        · rw [if_pos h2] at hp ⊢; exact hp
        · rw [if_neg h2] at h; exact absurd rfl h
  · rw [prE_chk h0]
    exact cparts_err w hs hm rfl h0

open Go.RowKit NV
open Go.Lib (decDigits)

theorem DB.resultD {w : World} {b : Nat} {d : Bool} {v u : Int} {tmps : Array Value} {x : Value} (h : DB w b d v u) (ht : tmps.getD 4 undef = .pointer (some ⟨b, 0, none⟩)) (hx : tmps.getD 5 undef = x) : (results Tryz.f11 tmps).run Tryz.prog w = .ok (.tuple #[.agg #[.bool d, .int .i64 v, .int .i64 u], x]) w := by
  have hl := h.load
  have ht' : tmps[4]?.getD undef = .pointer (some ⟨b, 0, none⟩) := by rw [← ht]; simp
  have hx' : tmps[5]?.getD undef = x := by rw [← hx]; simp
  simp [results, ht', hx', asAddr, hl]

theorem DB.new (w : World) : DB (w.alloc (.cells #[.bool false, .int .i64 0, .int .i64 0] 26)) w.heap.size false 0 0 := heap_alloc_new w _
theorem DB.below {w w1 : World} {b : Nat} {d : Bool} {v u : Int} (h : DB w b d v u) (hb : Below w.heap.size w w1) : DB w1 b d v u := (hb.block b h.lt).trans h

theorem pow_twice {n k : Nat} (h : n < 10 ^ k) : n + n < 10 ^ (k + 1) := by rw [Nat.pow_succ]; omega
theorem ok_small {n k : Nat} (hk : k ≤ 4000) (h : n < 10 ^ k) : Ok n := by
  obtain ⟨K, hK⟩ : ∃ K, K = 4000 := ⟨_, rfl⟩
  have h1 := ok_iff n
  rw [← hK] at h1 hk
  exact h1.2 (Nat.lt_of_lt_of_le h (Nat.pow_le_pow_right (by omega) hk))
theorem ok_twice {D : Nat} (h : (dstr D).size ≤ 1000) : Ok (D + D) := by
  obtain ⟨K, hK⟩ : ∃ K, K = 1000 := ⟨_, rfl⟩
  rw [← hK, dstr_size, dec_len_le (by omega)] at h
  exact ok_small (k := K + 1) (by omega) (pow_twice h)

set_option maxHeartbeats 3200000 in
set_option maxRecDepth 100000 in
theorem Draw_ok {q : Rat} {b : ByteArray} (op : QOk q) (hp : probE q = 0) (hb : IsBits b.data.toList) (hs : b.size ≤ 256) (w : World) (htab : Tab w) (hm : ML w) :
    Calls Tryz.prog 11 #[.string (qstr q), .string b] w fun e w' => e = .returned (.tuple #[tossR (tossF q.den b.data.toList (tp q) 0), .int .i64 0]) ∧ Below w.heap.size w w' := by
  obtain ⟨_, h2, h3⟩ := probE_ok hp
  have HP := Lib.hid (fun W (h : Below w.heap.size w W) => cparts_ok op hp W (ml_keep hm (ml_pos hm) h))
  have HN := Lib.hid (fun W (h : Below w.heap.size w W) => Number_ok hb hs W (htab.below h))
  have HT := Lib.hid (fun W (h : Below w.heap.size w W) => tossed_any h2 (ok_twice h3) hb hs W (htab.below h))
  have HB := Lib.hid ((Below.refl w.heap.size w).alloc (Nat.le_refl _) (.cells #[.bool false, .int .i64 0, .int .i64 0] 26))
  have HD := Lib.hid (DB.new w)
  generalize tossF q.den b.data.toList (tp q) 0 = T at *
  generalize dstr (tp q) = t1 at *
  generalize dstr q.den = t2 at *
  generalize dstr (bv b.data.toList) = t3 at *
  generalize qstr q = s at *
  clear op hp hb hs htab hm h2 h3
  go_enter Tryz.func11, Tryz.ntmps11
  go_wp2_with fail
  refine (HP.out _ HB.out).mono ?_
  rintro e w1 ⟨rfl, hb1⟩
  replace HB := Lib.hid (HB.out.trans (hb1.mono HB.out.size))
  replace HD := Lib.hid (HD.out.below hb1)
  clear hb1 HP
  go_wp2_with fail
  refine (HN.out _ HB.out).mono ?_
  rintro e w2 ⟨rfl, hb2⟩
  replace HB := Lib.hid (HB.out.trans (hb2.mono HB.out.size))
  replace HD := Lib.hid (HD.out.below hb2)
  clear hb2 HN
  go_wp2_with fail
  refine (HT.out _ HB.out).mono ?_
  rintro e w3 ⟨rfl, hb3⟩
  replace HB := Lib.hid (HB.out.trans (hb3.mono HB.out.size))
  have hd := HD.out.below hb3
  clear hb3 HT HD
  have d0 : w3.cell? ⟨w.heap.size, 0, none⟩ = some (.bool false) := by rw [Lib.cell_of_heap hd]; rfl
  have d1 : w3.cell? ⟨w.heap.size, 1, none⟩ = some (.int .i64 0) := by rw [Lib.cell_of_heap hd]; rfl
  have d2 : w3.cell? ⟨w.heap.size, 2, none⟩ = some (.int .i64 0) := by rw [Lib.cell_of_heap hd]; rfl
  have g0 : w3.frozen? ⟨w.heap.size, 0, none⟩ = false := Lib.frozen_of_heap hd 0
  have g1 : w3.frozen? ⟨w.heap.size, 1, none⟩ = false := Lib.frozen_of_heap hd 1
  have g2 : w3.frozen? ⟨w.heap.size, 2, none⟩ = false := Lib.frozen_of_heap hd 2
  have HD := Lib.hid hd
  clear hd
  go_wp2_with fail
  exact bodyPost_ret ((HD.out.st T.1 ((T.2.1 : Nat) : Int) ((T.2.2 : Nat) : Int)).resultD rfl rfl) rfl ⟨rfl, below_sd3 HB.out (Nat.le_refl _) _ _ _⟩

set_option maxHeartbeats 3200000 in
set_option maxRecDepth 100000 in
theorem Draw_p {s b : ByteArray} (hs : s.size ≤ 1000000) (hp : prE s ≠ 0) (w : World) (hm : ML w) :
    Calls Tryz.prog 11 #[.string s, .string b] w fun e w' => e = .returned (.tuple #[tossR (false, 0, 0), .int .i64 ((prE s : Nat) : Int)]) ∧ Below w.heap.size w w' := by
  have HP := Lib.hid (fun W (h : Below w.heap.size w W) => cparts_no hs hp W (ml_keep hm (ml_pos hm) h))
  have HB := Lib.hid ((Below.refl w.heap.size w).alloc (Nat.le_refl _) (.cells #[.bool false, .int .i64 0, .int .i64 0] 26))
  have HD := Lib.hid (DB.new w)
  have hne := errne hp
  generalize prE s = c at *
  clear hs hp hm
  go_enter Tryz.func11, Tryz.ntmps11
  go_wp2_with fail
  refine (HP.out _ HB.out).mono ?_
  rintro e w3 ⟨rfl, hb3⟩
  replace HB := Lib.hid (HB.out.trans (hb3.mono HB.out.size))
  have hd := HD.out.below hb3
  clear hb3 HP HD
  have d0 : w3.cell? ⟨w.heap.size, 0, none⟩ = some (.bool false) := by rw [Lib.cell_of_heap hd]; rfl
  have d1 : w3.cell? ⟨w.heap.size, 1, none⟩ = some (.int .i64 0) := by rw [Lib.cell_of_heap hd]; rfl
  have d2 : w3.cell? ⟨w.heap.size, 2, none⟩ = some (.int .i64 0) := by rw [Lib.cell_of_heap hd]; rfl
  have g0 : w3.frozen? ⟨w.heap.size, 0, none⟩ = false := Lib.frozen_of_heap hd 0
  have g1 : w3.frozen? ⟨w.heap.size, 1, none⟩ = false := Lib.frozen_of_heap hd 1
  have g2 : w3.frozen? ⟨w.heap.size, 2, none⟩ = false := Lib.frozen_of_heap hd 2
  have HD := Lib.hid hd
  clear hd
  go_wp2_with fail
  exact bodyPost_ret ((HD.out.st false 0 0).resultD rfl rfl) rfl ⟨rfl, below_sd3 HB.out (Nat.le_refl _) _ _ _⟩

set_option maxHeartbeats 3200000 in
set_option maxRecDepth 100000 in
theorem Draw_b {q : Rat} {b : ByteArray} (op : QOk q) (hp : probE q = 0) (hb : schk b ≠ 0) (hbs : b.size ≤ 140737488351232) (w : World) (hm : ML w) :
    Calls Tryz.prog 11 #[.string (qstr q), .string b] w fun e w' => e = .returned (.tuple #[tossR (false, 0, 0), .int .i64 ((schk b : Nat) : Int)]) ∧ Below w.heap.size w w' := by
  have HP := Lib.hid (fun W (h : Below w.heap.size w W) => cparts_ok op hp W (ml_keep hm (ml_pos hm) h))
  have HN := Lib.hid (fun W => Number_err (s := b) rfl hb hbs W)
  have HB := Lib.hid ((Below.refl w.heap.size w).alloc (Nat.le_refl _) (.cells #[.bool false, .int .i64 0, .int .i64 0] 26))
  have HD := Lib.hid (DB.new w)
  have hne := errne hb
  generalize dstr (tp q) = t1 at *
  generalize dstr q.den = t2 at *
  generalize qstr q = s at *
  generalize schk b = c at *
  clear op hp hb hbs hm
  go_enter Tryz.func11, Tryz.ntmps11
  go_wp2_with fail
  refine (HP.out _ HB.out).mono ?_
  rintro e w1 ⟨rfl, hb1⟩
  replace HB := Lib.hid (HB.out.trans (hb1.mono HB.out.size))
  replace HD := Lib.hid (HD.out.below hb1)
  clear hb1 HP
  go_wp2_with fail
  refine (HN.out _).mono ?_
  rintro e w3 ⟨rfl, hb3⟩
  replace HB := Lib.hid (HB.out.trans (hb3.mono HB.out.size))
  have hd := HD.out.below hb3
  clear hb3 HN HD
  have d0 : w3.cell? ⟨w.heap.size, 0, none⟩ = some (.bool false) := by rw [Lib.cell_of_heap hd]; rfl
  have d1 : w3.cell? ⟨w.heap.size, 1, none⟩ = some (.int .i64 0) := by rw [Lib.cell_of_heap hd]; rfl
  have d2 : w3.cell? ⟨w.heap.size, 2, none⟩ = some (.int .i64 0) := by rw [Lib.cell_of_heap hd]; rfl
  have g0 : w3.frozen? ⟨w.heap.size, 0, none⟩ = false := Lib.frozen_of_heap hd 0
  have g1 : w3.frozen? ⟨w.heap.size, 1, none⟩ = false := Lib.frozen_of_heap hd 1
  have g2 : w3.frozen? ⟨w.heap.size, 2, none⟩ = false := Lib.frozen_of_heap hd 2
  have HD := Lib.hid hd
  clear hd
  go_wp2_with fail
  exact bodyPost_ret ((HD.out.st false 0 0).resultD rfl rfl) rfl ⟨rfl, below_sd3 HB.out (Nat.le_refl _) _ _ _⟩

open Go.RowKit NV
open Go.Lib (decDigits)

def qd13 : Rat := ⟨1, 3, by decide, by decide⟩
theorem sd13 : qstr qd13 = ⟨#[49, 47, 51]⟩ := (frac_str false 1 3 (by omega) (by omega) (by omega)).trans rfl
theorem qd13_ok : QOk qd13 := ⟨ok_two (n := 2) (by omega) (by decide), ok_two (n := 2) (by omega) (by decide)⟩
theorem qd13_p : probE qd13 = 0 := by
  unfold probE probP
  rw [if_neg (by decide), if_neg (by decide), if_neg (by rw [dstr_size]; show ¬ 1000 < (decDigits 3).length; rw [dec_small (by omega)]; decide)]
theorem bits_lit {l : List UInt8} (h : bitsB l = true) : IsBits l := bitsB_iff.1 h

theorem DB.newv (w : World) (d : Bool) (v u : Int) : DB (w.alloc (.cells #[.bool d, .int .i64 v, .int .i64 u] 26)) w.heap.size d v u := heap_alloc_new w _
theorem DB.cells {w : World} {b : Nat} {d : Bool} {v u : Int} (h : DB w b d v u) : w.cell? ⟨b, 0, none⟩ = some (.bool d) ∧ w.cell? ⟨b, 1, none⟩ = some (.int .i64 v) ∧ w.cell? ⟨b, 2, none⟩ = some (.int .i64 u) :=
  ⟨by rw [Lib.cell_of_heap h]; rfl, by rw [Lib.cell_of_heap h]; rfl, by rw [Lib.cell_of_heap h]; rfl⟩
theorem held_draw : Tryz.prog.stoodInHeld 26 = false := by kernel_rfl
theorem struct_draw : Tryz.prog.underlying 26 = some (.struct (Tryz.prog.fieldsOf 26)) := by kernel_rfl
def fieldsD : List (String × Nat × Nat) := [("Done", 4, 0), ("Value", 3, 1), ("Used", 3, 2)]
theorem fields_draw : (Tryz.prog.fieldsOf 26).toList.map (fun f => (f.name, f.type, f.offset)) = fieldsD := by kernel_rfl
theorem part_bool (cs : Array Value) (off : Nat) (v : Value) (h : cs[off]? = some v) (W : World) : (part 4 cs off).run Tryz.prog W = .ok v W := by
  simp [part, isAgg, run_underlying Tryz.underlying4, h]
theorem part_int (cs : Array Value) (off : Nat) (v : Value) (h : cs[off]? = some v) (W : World) : (part 3 cs off).run Tryz.prog W = .ok v W := by
  simp [part, isAgg, run_underlying Tryz.underlying3, h]
theorem list_three {α : Type} {l : List α} (h : l.length = 3) : ∃ a b c, l = [a, b, c] := by
  match l, h with
  | [a, b, c], _ => exact ⟨a, b, c, rfl⟩
theorem eqIn_draw (d e : Bool) (u v x y : Int) (W : World) : (Op.equalIn 10000 26 (.agg #[.bool d, .int .i64 u, .int .i64 v]) (.agg #[.bool e, .int .i64 x, .int .i64 y])).run Tryz.prog W = .ok (d == e && (u == x && v == y)) W := by
  rw [run_equalIn_agg W 9999 _ _ _ struct_draw held_draw]
  have hf := fields_draw
  generalize (Tryz.prog.fieldsOf 26).toList = l at hf ⊢
  unfold fieldsD at hf
  obtain ⟨f0, f1, f2, rfl⟩ := list_three (show l.length = 3 by have := congrArg List.length hf; simpa using this)
  simp only [List.map_cons, List.map_nil, List.cons.injEq, Prod.mk.injEq, and_true] at hf
  obtain ⟨⟨n0, t0, o0⟩, ⟨n1, t1, o1⟩, ⟨n2, t2, o2⟩⟩ := hf
  simp only [Op.eqFields, n0, t0, o0, n1, t1, o1, n2, t2, o2]
  simp [Sem.run_bind, part_bool #[.bool d, .int .i64 u, .int .i64 v] 0 (.bool d) rfl, part_bool #[.bool e, .int .i64 x, .int .i64 y] 0 (.bool e) rfl,
    part_int #[.bool d, .int .i64 u, .int .i64 v] 1 (.int .i64 u) rfl, part_int #[.bool e, .int .i64 x, .int .i64 y] 1 (.int .i64 x) rfl,
    part_int #[.bool d, .int .i64 u, .int .i64 v] 2 (.int .i64 v) rfl, part_int #[.bool e, .int .i64 x, .int .i64 y] 2 (.int .i64 y) rfl,
    run_equalIn_bool' _ _ _ _ _ Tryz.underlying4, run_equalIn_int _ _ _ _ _ _ _ Tryz.underlying3]
  by_cases h0 : d = e <;> by_cases h1 : u = x <;> by_cases h2 : v = y <;> simp [h0, h1, h2]
theorem eq_draw (d e : Bool) (u v x y : Int) (W : World) : (binOp .eql 26 (.agg #[.bool d, .int .i64 u, .int .i64 v]) (.agg #[.bool e, .int .i64 x, .int .i64 y])).run Tryz.prog W = .ok (.bool (d == e && (u == x && v == y))) W := by
  rw [run_eql_struct, eqIn_draw]; rfl

set_option maxHeartbeats 3200000 in
set_option maxRecDepth 100000 in
theorem lives4_any (w : World) (htab : Tab w) (hm : ML w) : Calls Tryz.prog 10 #[] w fun e w' => e = .returned (.bool true) ∧ Below w.heap.size w w' := by
  have h1 := fun W (h : Below w.heap.size w W) => Draw_ok (b := ⟨#[48, 48, 49]⟩) qd13_ok qd13_p (bits_lit (by decide)) (by decide) W (htab.below h) (ml_keep hm (ml_pos hm) h)
  have h2 := fun W (h : Below w.heap.size w W) => Draw_ok (b := ⟨#[48, 49]⟩) qd13_ok qd13_p (bits_lit (by decide)) (by decide) W (htab.below h) (ml_keep hm (ml_pos hm) h)
  rw [show tossF qd13.den (⟨#[48, 48, 49]⟩ : ByteArray).data.toList (tp qd13) 0 = (true, 1, 2) by decide, sd13] at h1
  rw [show tossF qd13.den (⟨#[48, 49]⟩ : ByteArray).data.toList (tp qd13) 0 = (false, 0, 2) by decide, sd13] at h2
  have H1 := Lib.hid h1
  have H2 := Lib.hid h2
  clear h1 h2 htab hm
  go_enter Tryz.func10, Tryz.ntmps10
  go_wp2_with fail
  refine (H1.out _ (Below.refl _ _)).mono ?_
  rintro e w1 ⟨rfl, hb1⟩
  have HB := Lib.hid (hb1.alloc hb1.size (.cells #[.bool true, .int .i64 1, .int .i64 2] 26))
  have HD := Lib.hid (DB.newv w1 true 1 2)
  clear hb1 H1
  go_wp2_with fail
  refine (H2.out _ HB.out).mono ?_
  rintro e w2 ⟨rfl, hb2⟩
  have hD2 := (DB.newv w2 false 0 2).cells
  have hD1 := (HD.out.below (hb2.alloc hb2.size (.cells #[.bool false, .int .i64 0, .int .i64 2] 26))).cells
  obtain ⟨c0, c1, c2⟩ := hD1
  obtain ⟨d0, d1, d2⟩ := hD2
  replace HB := Lib.hid (HB.out.trans ((hb2.alloc hb2.size (.cells #[.bool false, .int .i64 0, .int .i64 2] 26)).mono HB.out.size))
  clear hb2 H2 HD
  have he1 := eq_draw true true 1 2 1 2
  have he2 := eq_draw false false 0 2 0 2
  go_wp2_with fail
  go_ret
  exact ⟨rfl, HB.out⟩

end Go.Proofs.YteojekiocecdnaaGreatDoor
