/-
  The statements' own helpers of layer 2: sum, product, valid, lives. The statements' own helper of layer 2: lives.
-/
import Derived.Test.YtgeohcpmoleocaaGreatDoorHI
import Derived.Test.YtgeohcpmoleocaaGreatDoorP25
namespace Go.Proofs.YtgeohcpmoleocaaGreatDoor
open Go.RowKit NV
open Go.Lib (decDigits)

/-- Is the text a number of at most d bytes? -/
def vld2 (d : Nat) (s : ByteArray) : Bool := decide (rchk s = 0 ∧ s.size ≤ d)
def allV2 (d : Nat) (ss : List ByteArray) : Bool := ss.all (vld2 d)

theorem all2_no {d : Nat} {ss : List ByteArray} {s : ByteArray} (h : s ∈ ss) (hv : ¬ (rchk s = 0 ∧ s.size ≤ d)) : false = allV2 d ss := by
  unfold allV2
  symm
  rw [List.all_eq_false]
  exact ⟨s, h, by simpa [vld2] using hv⟩

theorem all2_yes {d : Nat} {ss : List ByteArray} (h : ∀ s ∈ ss, rchk s = 0 ∧ s.size ≤ d) : true = allV2 d ss := by
  unfold allV2
  symm
  rw [List.all_eq_true]
  intro s hs
  simpa [vld2] using h s hs

theorem three_cells {w : World} (s t u : ByteArray) (e : TypeId) : ∀ j, j < [s, t, u].length → (w.alloc (.cells #[.string s, .string t, .string u] e)).cell? ⟨w.heap.size, j, none⟩ = some (.string ([s, t, u].getD j ByteArray.empty)) := by
  intro j hj
  rw [Lib.cell_of_heap (heap_alloc_new w _)]
  match j, hj with
  | 0, _ => rfl
  | 1, _ => rfl
  | 2, _ => rfl

theorem one_cell2 {w : World} (s : ByteArray) (e : TypeId) : ∀ j, j < [s].length → (w.alloc (.cells #[.string s] e)).cell? ⟨w.heap.size, j, none⟩ = some (.string ([s].getD j ByteArray.empty)) := by
  intro j hj
  rw [Lib.cell_of_heap (heap_alloc_new w _)]
  match j, hj with
  | 0, _ => rfl

theorem Sz.qok {k : Nat} {q : Rat} (h : Sz k q) (hk0 : 0 < k) (hk : k ≤ 4000) : QOk q :=
  ⟨Nat.le_trans ((dec_len_le hk0).2 h.1) hk, Nat.le_trans ((dec_len_le hk0).2 h.2) hk⟩

theorem qstr_sizes (q : Rat) : (decDigits (tp q)).length ≤ (qstr q).size ∧ (decDigits q.den).length ≤ (qstr q).size := by
  have hi : (istr (ng q) (tp q)).size = (if ng q then 1 else 0) + (decDigits (tp q)).length := by
    rw [Go.Lib.size_eq, istr_list]; cases ng q <;> simp <;> omega
  have hd := dec_len_pos (tp q)
  unfold qstr
  rw [rstr_eq]
  by_cases h : q.den = 1
  · rw [if_pos h, hi, h, dec_one]
    constructor
    · omega
    · show 1 ≤ _; omega
  · rw [if_neg h, ByteArray.size_append, ByteArray.size_append, hi, dstr_size]
    have : (⟨#[47]⟩ : ByteArray).size = 1 := rfl
    omega

/-- What valid has said. -/
theorem valid2_parts {d : Nat} {ss : List ByteArray} (hd0 : 0 < d) (h : allV2 d ss = true) {s : ByteArray} (hs : s ∈ ss) : ∃ q : Rat, s = qstr q ∧ QOk q ∧ Sz d q := by
  unfold allV2 at h
  have := List.all_eq_true.1 h s hs
  simp [vld2] at this
  obtain ⟨h1, h2⟩ := this
  obtain ⟨q, rfl, ho⟩ := rchk_rat h1
  obtain ⟨s1, s2⟩ := qstr_sizes q
  exact ⟨q, rfl, ho, (dec_len_le hd0).1 (by omega), (dec_len_le hd0).1 (by omega)⟩

open Go.RowKit NV
open Go.Lib (decDigits)

theorem rq_done {f : Nat} {args : Array Value} {w : World} {q r : Rat} (h : Calls Tryz.prog f args w (RQ q w)) (hr : q = r) (ho : QOk r) :
    Calls Tryz.prog f args w fun e w' => e = .returned (.tuple #[.string (qstr r), .int .i64 0]) ∧ Below w.heap.size w w' := by
  subst hr
  exact h.mono fun e w' ⟨h1, h2⟩ => ⟨by rw [h1, wQ_ok ho]; rfl, h2⟩

theorem qstr_parts_lit {q : Rat} {m : Bool} {n d : Nat} (h1 : ng q = m) (h2 : tp q = n) (h3 : q.den = d) {s : ByteArray} (h : rstr m n d = s) : qstr q = s := by
  unfold qstr; rw [h1, h2, h3]; exact h

theorem digit_str {n : Nat} (h : n < 10) : dstr n = ⟨#[UInt8.ofNat (48 + n)]⟩ := by rw [dstr, dec_small h]

def q12 : Rat := ⟨1, 2, by decide, by decide⟩
def q13 : Rat := ⟨1, 3, by decide, by decide⟩
def q56 : Rat := ⟨5, 6, by decide, by decide⟩
def q32m : Rat := ⟨-3, 2, by decide, by decide⟩
def q23 : Rat := ⟨2, 3, by decide, by decide⟩
def q32 : Rat := ⟨3, 2, by decide, by decide⟩
def q94 : Rat := ⟨9, 4, by decide, by decide⟩

theorem frac_str (m : Bool) (n d : Nat) (hn : n < 10) (hd : d < 10) (h1 : d ≠ 1) : rstr m n d = ⟨((if m then [45] else []) ++ [UInt8.ofNat (48 + n), 47, UInt8.ofNat (48 + d)]).toArray⟩ := by
  apply ba_ext
  rw [rstr_eq, if_neg h1, app_list, app_list, istr_list, dstr_list, dec_small hn, dec_small hd]
  cases m <;> simp

theorem s12 : qstr q12 = ⟨#[49, 47, 50]⟩ := (frac_str false 1 2 (by omega) (by omega) (by omega)).trans rfl
theorem s13 : qstr q13 = ⟨#[49, 47, 51]⟩ := (frac_str false 1 3 (by omega) (by omega) (by omega)).trans rfl
theorem s56 : qstr q56 = ⟨#[53, 47, 54]⟩ := (frac_str false 5 6 (by omega) (by omega) (by omega)).trans rfl
theorem s32m : qstr q32m = ⟨#[45, 51, 47, 50]⟩ := (frac_str true 3 2 (by omega) (by omega) (by omega)).trans rfl
theorem s23 : qstr q23 = ⟨#[50, 47, 51]⟩ := (frac_str false 2 3 (by omega) (by omega) (by omega)).trans rfl
theorem s94 : qstr q94 = ⟨#[57, 47, 52]⟩ := (frac_str false 9 4 (by omega) (by omega) (by omega)).trans rfl

theorem small_qok {q : Rat} (h1 : tp q < 10) (h2 : q.den < 10) : QOk q := by
  constructor
  · unfold Ok; rw [dec_small h1]; simp
  · unfold Ok; rw [dec_small h2]; simp

theorem lit_eq (l : List UInt8) (s : ByteArray) (h : s.data.toList = l) : (s.toList == l) = true := by
  rw [Go.Lib.toList_data, h]; exact beq_self_eq_true _

theorem chk64 : chkI ⟨#[45, 54]⟩ = 0 := by
  unfold chkI
  rw [toList_eq]
  rfl

theorem make64 : mkQ (minusB ⟨#[45, 54]⟩) (dv (restS ⟨#[45, 54]⟩).data.toList) (dv (⟨#[52]⟩ : ByteArray).data.toList) = q32m := by
  rw [rest_list, show minusB ⟨#[45, 54]⟩ = true from rfl, show dv (Lib.trimPrefix (⟨#[45, 54]⟩ : ByteArray).data.toList [45]) = 6 from rfl, show dv (⟨#[52]⟩ : ByteArray).data.toList = 4 from rfl]
  decide +kernel

set_option maxHeartbeats 3200000 in
set_option maxRecDepth 100000 in
/-- lives returns true. -/
theorem lives2_any (w : World) (htab : Tab w) (hm : ML w) : Calls Tryz.prog 15 #[] w fun e w' => e = .returned (.bool true) ∧ Below w.heap.size w w' := by
  have HA := Lib.hid (fun W (h : Below w.heap.size w W) => rq_done (r := q56) (Add_q q12 q13 (small_qok (by decide) (by decide)) (small_qok (by decide) (by decide)) W (htab.below h) (ml_keep hm (ml_pos hm) h)) (by decide +kernel) (small_qok (by decide) (by decide)))
  have HM := Lib.hid (fun W (h : Below w.heap.size w W) => rq_done (r := q32m) (Make_ok ⟨#[45, 54]⟩ ⟨#[52]⟩ W (htab.below h) chk64 rfl (by rw [show dv (⟨#[52]⟩ : ByteArray).data.toList = 4 from rfl]; omega)) make64 (small_qok (by decide) (by decide)))
  have HP := Lib.hid (fun W (h : Below w.heap.size w W) => rq_done (r := q94) (Pow_neg q23 (small_qok (by decide) (by decide)) 2 (by omega) (by omega) W (htab.below h) (ml_keep hm (ml_pos hm) h) (by decide +kernel) q32 (by decide +kernel)) (by decide +kernel) (small_qok (by decide) (by decide)))
  rw [s12, s13] at HA
  rw [s23] at HP
  have e1 := lit_eq [53, 47, 54] (qstr q56) (by rw [s56])
  have e2 := lit_eq [45, 51, 47, 50] (qstr q32m) (by rw [s32m])
  have e3 := lit_eq [57, 47, 52] (qstr q94) (by rw [s94])
  generalize qstr q56 = t1 at *
  generalize qstr q32m = t2 at *
  generalize qstr q94 = t3 at *
  have HB := Lib.hid (Below.refl w.heap.size w)
  clear htab hm
  go_enter Tryz.func15, Tryz.ntmps15
  go_wp2_with fail
  refine (HA.out _ HB.out).mono ?_
  rintro e w1 ⟨rfl, hb1⟩
  replace HB := Lib.hid (HB.out.trans (hb1.mono HB.out.size))
  clear hb1 HA
  go_wp2_with fail
  refine (HM.out _ HB.out).mono ?_
  rintro e w2 ⟨rfl, hb2⟩
  replace HB := Lib.hid (HB.out.trans (hb2.mono HB.out.size))
  clear hb2 HM
  go_wp2_with fail
  refine (HP.out _ HB.out).mono ?_
  rintro e w3 ⟨rfl, hb3⟩
  replace HB := Lib.hid (HB.out.trans (hb3.mono HB.out.size))
  clear hb3 HP
  go_wp2_with fail
  go_ret
  exact ⟨rfl, HB.out⟩

end Go.Proofs.YtgeohcpmoleocaaGreatDoor
