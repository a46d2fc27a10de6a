/-
  Number and Word.
-/
import Derived.Test.YtpkbppfgmpcpcaaGreatDoorBC
namespace Go.Proofs.YtpkbppfgmpcpcaaGreatDoor
open Go.RowKit NV
open Go.Lib (decDigits)

theorem bv_cons (c : UInt8) (l : List UInt8) : bv (c :: l) = (c.toNat - 48) * 2 ^ l.length + bv l := by
  have h := bvF_eq l (2 * 0 + (c.toNat - 48))
  have h2 : bv (c :: l) = bvF (2 * 0 + (c.toNat - 48)) l := rfl
  rw [h2, h]; simp

theorem bv_inj : ∀ (l m : List UInt8), IsBits l → IsBits m → l.length = m.length → bv l = bv m → l = m
  | [], [], _, _, _, _ => rfl
  | [], _ :: _, _, _, h, _ => by simp at h
  | _ :: _, [], _, _, h, _ => by simp at h
  | c :: l, d :: m, hl, hm, h, e => by
    have h1 : l.length = m.length := by simpa using h
    have hl2 : IsBits l := fun x hx => hl x (List.mem_cons_of_mem _ hx)
    have hm2 : IsBits m := fun x hx => hm x (List.mem_cons_of_mem _ hx)
    have b1 := bv_lt l hl2
    have b2 := bv_lt m hm2
    rw [bv_cons, bv_cons, h1] at e
    rw [h1] at b1
    have hc := hl c (List.mem_cons_self ..)
    have hd := hm d (List.mem_cons_self ..)
    generalize 2 ^ m.length = P at *
    rcases hc with rfl | rfl <;> rcases hd with rfl | rfl
    · rw [bv_inj l m hl2 hm2 h1 (by simpa using e)]
    · exfalso; simp at e; omega
    · exfalso; simp at e; omega
    · rw [bv_inj l m hl2 hm2 h1 (by simp at e; omega)]

theorem wbits_split {k n : Nat} (hn : 60 < n) (hk : k < 2 ^ n) : wbits k n = wbits (k / 2 ^ 60) (n - 60) ++ wbits (k % 2 ^ 60) 60 := by
  have hm : k % 2 ^ 60 < 2 ^ 60 := Nat.mod_lt _ (Nat.pow_pos (by omega))
  have hd : k / 2 ^ 60 < 2 ^ (n - 60) := by
    rw [Nat.div_lt_iff_lt_mul (Nat.pow_pos (by omega)), ← Nat.pow_add, show n - 60 + 60 = n by omega]; exact hk
  apply bv_inj
  · exact wbits_bits _ _
  · intro c hc
    rcases List.mem_append.1 hc with hc | hc
    · exact wbits_bits _ _ c hc
    · exact wbits_bits _ _ c hc
  · rw [List.length_append, wbits_len, wbits_len, wbits_len]; omega
  · rw [bv_append, wbits_val hk, wbits_val hd, wbits_val hm, wbits_len]
    have := Nat.div_add_mod k (2 ^ 60)
    rw [Nat.mul_comm] at this
    exact this.symm

theorem BuilderAt_below {T e : TypeId} {B b : Nat} {p : Value} {bs : List Value} {w W : World} (h : Lib.BuilderAt T e B b p bs w) (hw : Below w.heap.size w W) : Lib.BuilderAt T e B b p bs W := by
  have hlt := h.lt
  obtain ⟨hB, v, hb, hown, hne⟩ := h
  exact ⟨hB, v, (hw.block b hlt).trans hb, hown.kept (row := none) ⟨hw.os, hw.tape, hw.output, hw.size, fun k hk _ => hw.block k hk⟩ (Classical.em _), hne⟩
theorem Wr.below {B b : Nat} {bs : List Value} {w W : World} (h : Wr B b bs w) (hw : Below w.heap.size w W) : Wr B b bs W := by
  rcases h with h | h
  · exact .inl (BuilderAt_below h hw)
  · exact .inr (BuilderAt_below h hw)
theorem Wr.lt {B b : Nat} {bs : List Value} {w : World} (h : Wr B b bs w) : b < w.heap.size := by
  rcases h with h | h <;> exact h.lt

set_option maxHeartbeats 3200000 in
set_option maxRecDepth 100000 in
theorem writeNum_base (B b k n : Nat) (l : List UInt8) (w : World) (h : Wr B b (Lib.byteCells l) w) (hn : n ≤ 60) (hk : k < 2 ^ n) (hl : l.length ≤ 1000) (hBw : B ≤ w.heap.size) :
    Calls Tryz.prog 99 #[.pointer (some ⟨b, 0, none⟩), .string (dstr k), .int .i64 (n : Int)] w fun e w' =>
      e = .returned (.tuple #[]) ∧ Wr B b (Lib.byteCells (l ++ wbits k n)) w' ∧ (n = 0 → w'.heap[b]? = w.heap[b]?) ∧ Below B w w' := by
  have hk2 : k < 2 ^ 60 := Nat.lt_of_lt_of_le hk (Nat.pow_le_pow_right (by omega) hn)
  have HT := Lib.hid (ToInt_ok k (by omega) w)
  have hlt := h.lt
  have HW := Lib.hid (fun (W : World) (hw : Below w.heap.size w W) => writeLast_any B b k n l W (h.below hw) (by omega) (by omega) (by omega) (Nat.le_trans hBw hw.size))
  have HK := Lib.hid (fun (W : World) (hw : Below w.heap.size w W) => hw.block b hlt)
  have HBW := Lib.hid hBw
  generalize dstr k = t at *
  clear h hk hk2 hlt hl
  go_enter Tryz.func99, Tryz.ntmps99
  go_wp2_with fail
  refine HT.out.mono ?_
  rintro e w1 ⟨rfl, hb1⟩
  have HB1 := Lib.hid hb1
  clear hb1 HT
  go_wp2_with fail
  refine (HW.out _ HB1.out).mono ?_
  rintro e w2 ⟨rfl, hw2, hn2, hb2⟩
  have HF := Lib.hid (And.intro hw2 (And.intro (fun e => (by rw [hn2 e]; exact HK.out _ HB1.out : w2.heap[b]? = w.heap[b]?)) ((HB1.out.mono HBW.out).trans hb2)))
  clear hw2 hn2 hb2 HW
  go_wp2_with fail
  go_end0
  exact ⟨rfl, HF.out⟩

set_option maxHeartbeats 3200000 in
set_option maxRecDepth 100000 in
theorem writeNum_any (B b : Nat) : ∀ (m k n : Nat) (l : List UInt8) (w : World), n ≤ 60 * m → Wr B b (Lib.byteCells l) w → n ≤ 256 → k < 2 ^ n → l.length + n ≤ 1000 → B ≤ w.heap.size → (∀ W, Below B w W → Tab W) →
    Calls Tryz.prog 99 #[.pointer (some ⟨b, 0, none⟩), .string (dstr k), .int .i64 (n : Int)] w fun e w' =>
      e = .returned (.tuple #[]) ∧ Wr B b (Lib.byteCells (l ++ wbits k n)) w' ∧ (n = 0 → w'.heap[b]? = w.heap[b]?) ∧ Below B w w'
  | 0, k, n, l, w, hm, h, _, hk, hl, hBw, _ => writeNum_base B b k n l w h (by omega) hk (by omega) hBw
  | m + 1, k, n, l, w, hm, h, hn, hk, hl, hBw, ht => by
    by_cases h60 : n ≤ 60
    · exact writeNum_base B b k n l w h h60 hk (by omega) hBw
    · have HP := Lib.hid (power_n 60 (by omega) w (ht w (Below.refl _ _)))
      have okk : Ok k := ok_two (n := n) (by omega) (Nat.le_of_lt hk)
      have okp : Ok (2 ^ 60) := ok_two (n := 60) (by omega) (Nat.le_refl _)
      have HD := Lib.hid (fun W (hW : Below w.heap.size w W) => DivMod_ok k (2 ^ 60) okk okp (by omega) W (ht W (hW.mono hBw)))
      have hd : k / 2 ^ 60 < 2 ^ (n - 60) := by
        rw [Nat.div_lt_iff_lt_mul (Nat.pow_pos (by omega)), ← Nat.pow_add, show n - 60 + 60 = n by omega]; exact hk
      have hr : k % 2 ^ 60 < 2 ^ 60 := Nat.mod_lt _ (Nat.pow_pos (by omega))
      have HREC := Lib.hid (fun W (hW : Below w.heap.size w W) => writeNum_any B b m (k / 2 ^ 60) (n - 60) l W (by omega) (h.below hW) (by omega) hd (by omega) (Nat.le_trans hBw hW.size) (fun X hX => ht X ((hW.mono hBw).trans hX)))
      have HTI := Lib.hid (fun W => ToInt_ok (k % 2 ^ 60) (by omega) W)
      have HWL := Lib.hid (fun (W : World) (hw : Wr B b (Lib.byteCells (l ++ wbits (k / 2 ^ 60) (n - 60))) W) (hB : B ≤ W.heap.size) => writeLast_any B b (k % 2 ^ 60) 60 _ W hw (by omega) (by omega) (by rw [List.length_append, wbits_len]; omega) hB)
      have HS := Lib.hid (wbits_split (by omega) hk)
      have HBW := Lib.hid hBw
      have e60 : ((n : Int) - 60) = ((n - 60 : Nat) : Int) := by omega
      have HE := Lib.hid e60
      have hn0 : n ≠ 0 := by omega
      have HN0 := Lib.hid hn0
      clear h hk hl ht okk okp hd e60 hn0
      generalize dstr k = t1 at *
      generalize dstr (2 ^ 60) = t2 at *
      generalize dstr (k / 2 ^ 60) = t3 at *
      generalize dstr (k % 2 ^ 60) = t4 at *
      go_enter Tryz.func99, Tryz.ntmps99
      go_wp2_with fail
      refine HP.out.mono ?_
      rintro e w1 ⟨rfl, hb1⟩
      have HB := Lib.hid hb1
      clear hb1 HP
      go_wp2_with fail
      refine (HD.out _ HB.out).mono ?_
      rintro e w2 ⟨rfl, hb2⟩
      replace HB := Lib.hid (HB.out.trans (hb2.mono HB.out.size))
      clear hb2 HD
      go_wp2_with fail
      rw [HE.out]
      refine (HREC.out _ HB.out).mono ?_
      rintro e w3 ⟨rfl, hw3, _, hb3⟩
      have HW3 := Lib.hid hw3
      have HB3 := Lib.hid ((HB.out.mono HBW.out).trans hb3)
      clear hw3 hb3 HREC
      go_wp2_with fail
      refine (HTI.out _).mono ?_
      rintro e w4 ⟨rfl, hb4⟩
      have HW4 := Lib.hid (HW3.out.below hb4)
      have HB4 := Lib.hid (HB3.out.trans (hb4.mono (Nat.le_trans HBW.out HB3.out.size)))
      clear hb4 HTI
      go_wp2_with fail
      refine (HWL.out _ HW4.out (Nat.le_trans HBW.out HB4.out.size)).mono ?_
      rintro e w5 ⟨rfl, hw5, _, hb5⟩
      have HW5 := Lib.hid hw5
      have HB5 := Lib.hid (HB4.out.trans hb5)
      clear hw5 hb5 HWL
      go_wp2_with fail
      go_end0
      exact ⟨rfl, by rw [HS.out, ← List.append_assoc]; exact HW5.out, fun e => absurd e HN0.out, HB5.out⟩

/-- A text without error is a numeral. -/
theorem text_of_chkB {s : ByteArray} (h : chk s.data.toList = 0) : ∃ a, s = dstr a ∧ Ok a := by
  obtain ⟨h1, h2⟩ := dec_of_chk h
  exact ⟨dv s.data.toList, dstr_of h1.symm, by unfold Ok; rw [h1]; exact h2⟩

set_option maxHeartbeats 800000 in
theorem Number_ok {s : ByteArray} (hb : IsBits s.data.toList) (hs : s.size ≤ 256) (w : World) (htab : Tab w) :
    Calls Tryz.prog 15 #[.string s] w fun e w' => e = .returned (.tuple #[.string (dstr (bv s.data.toList)), .int .i64 0]) ∧ Below w.heap.size w w' := by
  have hc := checkShort_any s w (by omega)
  rw [schk_ok hb hs] at hc
  have HC := Lib.hid hc
  have HN := Lib.hid (number_any hb hs w htab)
  generalize dstr (bv s.data.toList) = t at *
  clear hb hc htab
  go_enter Tryz.func15, Tryz.ntmps15
  go_wp2_with fail
  refine HC.out.mono ?_
  rintro e w1 ⟨rfl, rfl⟩
  clear HC
  go_wp2_with fail
  refine HN.out.mono ?_
  rintro e w2 ⟨rfl, hb2⟩
  have HB := Lib.hid hb2
  clear hb2 HN
  go_wp2_with fail
  go_ret2
  exact ⟨rfl, HB.out⟩

set_option maxHeartbeats 800000 in
theorem Number_err {s : ByteArray} {c : Nat} (hc : schk s = c) (h0 : c ≠ 0) (hs : s.size ≤ 140737488351232) (w : World) :
    Calls Tryz.prog 15 #[.string s] w fun e w' => e = .returned (.tuple #[.string ⟨#[]⟩, .int .i64 ((c : Nat) : Int)]) ∧ Below w.heap.size w w' := by
  have h := checkShort_any s w hs
  rw [hc] at h
  have HC := Lib.hid h
  have hne : (((c : Nat) : Int) != 0) = true := by rw [bne_iff_ne]; omega
  clear h hc h0
  go_enter Tryz.func15, Tryz.ntmps15
  go_wp2_with fail
  refine HC.out.mono ?_
  rintro e w1 ⟨rfl, rfl⟩
  clear HC
  go_wp2_with fail
  go_ret2
  exact ⟨rfl, Below.refl _ _⟩

theorem cmpN_ltB {a b : Nat} (h : a < b) : ¬ (0 : Int) ≤ cmpN a b := by unfold cmpN; rw [if_pos h]; omega
theorem cmpN_geB {a b : Nat} (h : ¬ a < b) : (0 : Int) ≤ cmpN a b := by unfold cmpN; rw [if_neg h]; split <;> omega

set_option maxHeartbeats 3200000 in
set_option maxRecDepth 100000 in
theorem Word_ok {a n : Nat} (hn : n ≤ 256) (ha : a < 2 ^ n) (w : World) (htab : Tab w) :
    Calls Tryz.prog 19 #[.string (dstr a), .int .i64 (n : Int)] w fun e w' => e = .returned (.tuple #[.string (wstr a n), .int .i64 0]) ∧ Below w.heap.size w w' := by
  have oa : Ok a := ok_two (n := n) (by omega) (Nat.le_of_lt ha)
  have op : Ok (2 ^ n) := ok_two (n := n) (by omega) (Nat.le_refl _)
  have hck := check_any (dstr a) w (small_str oa)
  rw [dstr_list, oa.chk] at hck
  have HC := Lib.hid hck
  have HP := Lib.hid (power_n n hn w htab)
  have HM := Lib.hid (fun W => Cmp_ok a (2 ^ n) oa op W)
  have hc := cmpN_ltB ha
  have HWN := Lib.hid (fun (W : World) (hb : Below w.heap.size w W) => writeNum_any W.heap.size W.heap.size 5 a n [] (W.alloc (.cells #[.pointer none, .slice none 0 0] 93)) (by omega) (writer_new W) hn ha (by simp; omega) (by simp)
    (fun X hX => htab.below (hb.trans ((((Below.refl W.heap.size W).alloc (Nat.le_refl _) _).trans hX).mono hb.size))))
  have HNN := Lib.hid hn
  generalize cmpN a (2 ^ n) = c at *
  generalize dstr (2 ^ n) = t2 at *
  have HT := Lib.hid (fun (W w2 : World) (hw : Wr W.heap.size W.heap.size (Lib.byteCells (wbits a n)) w2) (hz : n = 0 → w2.heap[W.heap.size]? = some (.cells #[.pointer none, .slice none 0 0] 93 (0, 0))) => (by
    by_cases h0 : n = 0
    · have h2 := hz h0
      subst h0
      refine (text_fresh W.heap.size w2 h2).mono ?_
      rintro e w' ⟨rfl, hbl⟩
      exact ⟨rfl, hbl.mono (Nat.le_of_lt hw.lt)⟩
    · exact text_w W.heap.size W.heap.size (wbits a n) w2 hw (fun e => h0 (by have := wbits_len a n; rw [e] at this; simpa using this.symm)) :
      Calls Tryz.prog 100 #[.pointer (some ⟨W.heap.size, 0, none⟩)] w2 fun e w' => e = .returned (.string (wstr a n)) ∧ Below W.heap.size w2 w'))
  generalize dstr a = t1 at *
  clear oa op hck htab ha
  go_enter Tryz.func19, Tryz.ntmps19
  go_wp2_with fail
  refine HC.out.mono ?_
  rintro e w1 ⟨rfl, rfl⟩
  clear HC
  go_wp2_with fail
  refine HP.out.mono ?_
  rintro e w2 ⟨rfl, hb2⟩
  have HB := Lib.hid hb2
  clear hb2 HP
  go_wp2_with fail
  refine (HM.out _).mono ?_
  rintro e w3 ⟨rfl, hb3⟩
  replace HB := Lib.hid (HB.out.trans (hb3.mono HB.out.size))
  clear hb3 HM
  go_wp2_with fail
  refine (HWN.out w3 HB.out).mono ?_
  rintro e w4 ⟨rfl, hw4, hz4, hb4⟩
  rw [List.nil_append] at hw4
  have HT4 := Lib.hid (HT.out w3 w4 hw4 (fun e => (hz4 e).trans (heap_alloc_new w3 _)))
  have HB4 := Lib.hid (((Below.refl w3.heap.size w3).alloc (Nat.le_refl _) (.cells #[.pointer none, .slice none 0 0] 93)).trans hb4)
  clear hw4 hz4 hb4 HWN HT
  go_wp2_with fail
  refine HT4.out.mono ?_
  rintro e w5 ⟨rfl, hb5⟩
  have HB5 := Lib.hid (HB.out.trans ((HB4.out.trans hb5).mono HB.out.size))
  clear hb5 HT4
  go_wp2_with fail
  go_ret2
  exact ⟨rfl, HB5.out⟩

set_option maxHeartbeats 800000 in
theorem Word_form {s : ByteArray} (hc : chk s.data.toList ≠ 0) (hs : s.size ≤ 140737488351232) (n : Int) (w : World) :
    Calls Tryz.prog 19 #[.string s, .int .i64 n] w fun e w' => e = .returned (.tuple #[.string ⟨#[]⟩, .int .i64 ((chk s.data.toList : Nat) : Int)]) ∧ Below w.heap.size w w' := by
  have HC := Lib.hid (check_any s w hs)
  have hne : (((chk s.data.toList : Nat) : Int) != 0) = true := by rw [bne_iff_ne]; omega
  generalize chk s.data.toList = c at *
  clear hc
  go_enter Tryz.func19, Tryz.ntmps19
  go_wp2_with fail
  refine HC.out.mono ?_
  rintro e w1 ⟨rfl, rfl⟩
  clear HC
  go_wp2_with fail
  go_ret2
  exact ⟨rfl, Below.refl _ _⟩

set_option maxHeartbeats 1600000 in
theorem Word_far {a : Nat} (oa : Ok a) (n : Int) (hn : n < 0 ∨ 256 < n) (w : World) :
    Calls Tryz.prog 19 #[.string (dstr a), .int .i64 n] w fun e w' => e = .returned (.tuple #[.string ⟨#[]⟩, .int .i64 2]) ∧ Below w.heap.size w w' := by
  have hck := check_any (dstr a) w (small_str oa)
  rw [dstr_list, oa.chk] at hck
  have HC := Lib.hid hck
  generalize dstr a = t1 at *
  clear oa hck
  rcases hn with hn | hn
  · go_enter Tryz.func19, Tryz.ntmps19
    go_wp2_with fail
    refine HC.out.mono ?_
    rintro e w1 ⟨rfl, rfl⟩
    clear HC
    go_wp2_with fail
    go_ret2
    exact ⟨rfl, Below.refl _ _⟩
  · have h0 : ¬ n < 0 := by omega
    go_enter Tryz.func19, Tryz.ntmps19
    go_wp2_with fail
    refine HC.out.mono ?_
    rintro e w1 ⟨rfl, rfl⟩
    clear HC
    go_wp2_with fail
    go_ret2
    exact ⟨rfl, Below.refl _ _⟩

set_option maxHeartbeats 1600000 in
theorem Word_great {a n : Nat} (oa : Ok a) (hn : n ≤ 256) (ha : ¬ a < 2 ^ n) (w : World) (htab : Tab w) :
    Calls Tryz.prog 19 #[.string (dstr a), .int .i64 (n : Int)] w fun e w' => e = .returned (.tuple #[.string ⟨#[]⟩, .int .i64 2]) ∧ Below w.heap.size w w' := by
  have op : Ok (2 ^ n) := ok_two (n := n) (by omega) (Nat.le_refl _)
  have hck := check_any (dstr a) w (small_str oa)
  rw [dstr_list, oa.chk] at hck
  have HC := Lib.hid hck
  have HP := Lib.hid (power_n n hn w htab)
  have HM := Lib.hid (fun W => Cmp_ok a (2 ^ n) oa op W)
  have hc := cmpN_geB ha
  generalize cmpN a (2 ^ n) = c at *
  generalize dstr (2 ^ n) = t2 at *
  generalize dstr a = t1 at *
  clear oa op hck htab ha
  go_enter Tryz.func19, Tryz.ntmps19
  go_wp2_with fail
  refine HC.out.mono ?_
  rintro e w1 ⟨rfl, rfl⟩
  clear HC
  go_wp2_with fail
  refine HP.out.mono ?_
  rintro e w2 ⟨rfl, hb2⟩
  have HB := Lib.hid hb2
  clear hb2 HP
  go_wp2_with fail
  refine (HM.out _).mono ?_
  rintro e w3 ⟨rfl, hb3⟩
  replace HB := Lib.hid (HB.out.trans (hb3.mono HB.out.size))
  clear hb3 HM
  go_wp2_with fail
  go_ret2
  exact ⟨rfl, HB.out⟩

end Go.Proofs.YtpkbppfgmpcpcaaGreatDoor
