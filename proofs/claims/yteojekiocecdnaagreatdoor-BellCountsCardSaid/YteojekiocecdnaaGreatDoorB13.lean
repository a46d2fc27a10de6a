/-
  Number and Word.
-/
import Derived.Test.YteojekiocecdnaaGreatDoorBC
namespace Go.Proofs.YteojekiocecdnaaGreatDoor
open Go.RowKit NV
open Go.Lib (decDigits)

theorem bv_cons (c : UInt8) (l : List UInt8) : bv (c :: l) = (c.toNat - 48) * 2 ^ l.length + bv l := by
  have h := bvF_eq l (2 * 0 + (c.toNat - 48))
  have h2 : bv (c :: l) = bvF (2 * 0 + (c.toNat - 48)) l := rfl
  rw [h2, h]; simp

theorem bv_inj : ∀ (l m : List UInt8), IsBits l → IsBits m → l.length = m.length → bv l = bv m → l = m
  | [], [], _, _, _, _ => rfl
  | [], _ :: _, _, _, h, _ => by simp at h
  | _ :: _, [], _, _, h, _ => by simp at h
  | c :: l, d :: m, hl, hm, h, e => by
    have h1 : l.length = m.length := by simpa using h
    have hl2 : IsBits l := fun x hx => hl x (List.mem_cons_of_mem _ hx)
    have hm2 : IsBits m := fun x hx => hm x (List.mem_cons_of_mem _ hx)
    have b1 := bv_lt l hl2
    have b2 := bv_lt m hm2
    rw [bv_cons, bv_cons, h1] at e
    rw [h1] at b1
    have hc := hl c (List.mem_cons_self ..)
    have hd := hm d (List.mem_cons_self ..)
    generalize 2 ^ m.length = P at *
    rcases hc with rfl | rfl <;> rcases hd with rfl | rfl
    · rw [bv_inj l m hl2 hm2 h1 (by simpa using e)]
    · exfalso; simp at e; omega
    · exfalso; simp at e; omega
    · rw [bv_inj l m hl2 hm2 h1 (by simp at e; omega)]

theorem wbits_split {k n : Nat} (hn : 60 < n) (hk : k < 2 ^ n) : wbits k n = wbits (k / 2 ^ 60) (n - 60) ++ wbits (k % 2 ^ 60) 60 := by
  have hm : k % 2 ^ 60 < 2 ^ 60 := Nat.mod_lt _ (Nat.pow_pos (by omega))
  have hd : k / 2 ^ 60 < 2 ^ (n - 60) := by
    rw [Nat.div_lt_iff_lt_mul (Nat.pow_pos (by omega)), ← Nat.pow_add, show n - 60 + 60 = n by omega]; exact hk
  apply bv_inj
  · exact wbits_bits _ _
  · intro c hc
    rcases List.mem_append.1 hc with hc | hc
    · exact wbits_bits _ _ c hc
    · exact wbits_bits _ _ c hc
  · rw [List.length_append, wbits_len, wbits_len, wbits_len]; omega
  · rw [bv_append, wbits_val hk, wbits_val hd, wbits_val hm, wbits_len]
    have := Nat.div_add_mod k (2 ^ 60)
    rw [Nat.mul_comm] at this
    exact this.symm

theorem BuilderAt_below {T e : TypeId} {B b : Nat} {p : Value} {bs : List Value} {w W : World} (h : Lib.BuilderAt T e B b p bs w) (hw : Below w.heap.size w W) : Lib.BuilderAt T e B b p bs W := by
  have hlt := h.lt
  obtain ⟨hB, v, hb, hown, hne⟩ := h
  exact ⟨hB, v, (hw.block b hlt).trans hb, hown.kept (row := none) ⟨hw.os, hw.tape, hw.output, hw.size, fun k hk _ => hw.block k hk⟩ (Classical.em _), hne⟩
/-- A text without error is a numeral. -/
theorem text_of_chkB {s : ByteArray} (h : chk s.data.toList = 0) : ∃ a, s = dstr a ∧ Ok a := by
  obtain ⟨h1, h2⟩ := dec_of_chk h
  exact ⟨dv s.data.toList, dstr_of h1.symm, by unfold Ok; rw [h1]; exact h2⟩

set_option maxHeartbeats 800000 in
theorem Number_ok {s : ByteArray} (hb : IsBits s.data.toList) (hs : s.size ≤ 256) (w : World) (htab : Tab w) :
    Calls Tryz.prog 55 #[.string s] w fun e w' => e = .returned (.tuple #[.string (dstr (bv s.data.toList)), .int .i64 0]) ∧ Below w.heap.size w w' := by
  have hc := checkShort_any s w (by omega)
  rw [schk_ok hb hs] at hc
  have HC := Lib.hid hc
  have HN := Lib.hid (number_any hb hs w htab)
  generalize dstr (bv s.data.toList) = t at *
  clear hb hc htab
  go_enter Tryz.func55, Tryz.ntmps55
  go_wp2_with fail
  refine HC.out.mono ?_
  rintro e w1 ⟨rfl, rfl⟩
  clear HC
  go_wp2_with fail
  refine HN.out.mono ?_
  rintro e w2 ⟨rfl, hb2⟩
  have HB := Lib.hid hb2
  clear hb2 HN
  go_wp2_with fail
  go_ret2
  exact ⟨rfl, HB.out⟩

set_option maxHeartbeats 800000 in
theorem Number_err {s : ByteArray} {c : Nat} (hc : schk s = c) (h0 : c ≠ 0) (hs : s.size ≤ 140737488351232) (w : World) :
    Calls Tryz.prog 55 #[.string s] w fun e w' => e = .returned (.tuple #[.string ⟨#[]⟩, .int .i64 ((c : Nat) : Int)]) ∧ Below w.heap.size w w' := by
  have h := checkShort_any s w hs
  rw [hc] at h
  have HC := Lib.hid h
  have hne : (((c : Nat) : Int) != 0) = true := by rw [bne_iff_ne]; omega
  clear h hc h0
  go_enter Tryz.func55, Tryz.ntmps55
  go_wp2_with fail
  refine HC.out.mono ?_
  rintro e w1 ⟨rfl, rfl⟩
  clear HC
  go_wp2_with fail
  go_ret2
  exact ⟨rfl, Below.refl _ _⟩

theorem cmpN_ltB {a b : Nat} (h : a < b) : ¬ (0 : Int) ≤ cmpN a b := by unfold cmpN; rw [if_pos h]; omega
theorem cmpN_geB {a b : Nat} (h : ¬ a < b) : (0 : Int) ≤ cmpN a b := by unfold cmpN; rw [if_neg h]; split <;> omega

end Go.Proofs.YteojekiocecdnaaGreatDoor
