/-
  The statements' own helpers of layer 2: sum, product, valid, lives. The statements' own helper of layer 2: lives.
-/
import Derived.Test.YteojekiocecdnaaGreatDoorHI
import Derived.Test.YteojekiocecdnaaGreatDoorHH
namespace Go.Proofs.YteojekiocecdnaaGreatDoor
open Go.RowKit NV
open Go.Lib (decDigits)

/-- Is the text a number of at most d bytes? -/
def vld2 (d : Nat) (s : ByteArray) : Bool := decide (rchk s = 0 ∧ s.size ≤ d)
def allV2 (d : Nat) (ss : List ByteArray) : Bool := ss.all (vld2 d)

theorem all2_no {d : Nat} {ss : List ByteArray} {s : ByteArray} (h : s ∈ ss) (hv : ¬ (rchk s = 0 ∧ s.size ≤ d)) : false = allV2 d ss := by
  unfold allV2
  symm
  rw [List.all_eq_false]
  exact ⟨s, h, by simpa [vld2] using hv⟩

theorem all2_yes {d : Nat} {ss : List ByteArray} (h : ∀ s ∈ ss, rchk s = 0 ∧ s.size ≤ d) : true = allV2 d ss := by
  unfold allV2
  symm
  rw [List.all_eq_true]
  intro s hs
  simpa [vld2] using h s hs

theorem three_cells {w : World} (s t u : ByteArray) (e : TypeId) : ∀ j, j < [s, t, u].length → (w.alloc (.cells #[.string s, .string t, .string u] e)).cell? ⟨w.heap.size, j, none⟩ = some (.string ([s, t, u].getD j ByteArray.empty)) := by
  intro j hj
  rw [Lib.cell_of_heap (heap_alloc_new w _)]
  match j, hj with
  | 0, _ => rfl
  | 1, _ => rfl
  | 2, _ => rfl

theorem one_cell2 {w : World} (s : ByteArray) (e : TypeId) : ∀ j, j < [s].length → (w.alloc (.cells #[.string s] e)).cell? ⟨w.heap.size, j, none⟩ = some (.string ([s].getD j ByteArray.empty)) := by
  intro j hj
  rw [Lib.cell_of_heap (heap_alloc_new w _)]
  match j, hj with
  | 0, _ => rfl

theorem Sz.qok {k : Nat} {q : Rat} (h : Sz k q) (hk0 : 0 < k) (hk : k ≤ 4000) : QOk q :=
  ⟨Nat.le_trans ((dec_len_le hk0).2 h.1) hk, Nat.le_trans ((dec_len_le hk0).2 h.2) hk⟩

theorem qstr_sizes (q : Rat) : (decDigits (tp q)).length ≤ (qstr q).size ∧ (decDigits q.den).length ≤ (qstr q).size := by
  have hi : (istr (ng q) (tp q)).size = (if ng q then 1 else 0) + (decDigits (tp q)).length := by
    rw [Go.Lib.size_eq, istr_list]; cases ng q <;> simp <;> omega
  have hd := dec_len_pos (tp q)
  unfold qstr
  rw [rstr_eq]
  by_cases h : q.den = 1
  · rw [if_pos h, hi, h, dec_one]
    constructor
    · omega
    · show 1 ≤ _; omega
  · rw [if_neg h, ByteArray.size_append, ByteArray.size_append, hi, dstr_size]
    have : (⟨#[47]⟩ : ByteArray).size = 1 := rfl
    omega

/-- What valid has said. -/
theorem valid2_parts {d : Nat} {ss : List ByteArray} (hd0 : 0 < d) (h : allV2 d ss = true) {s : ByteArray} (hs : s ∈ ss) : ∃ q : Rat, s = qstr q ∧ QOk q ∧ Sz d q := by
  unfold allV2 at h
  have := List.all_eq_true.1 h s hs
  simp [vld2] at this
  obtain ⟨h1, h2⟩ := this
  obtain ⟨q, rfl, ho⟩ := rchk_rat h1
  obtain ⟨s1, s2⟩ := qstr_sizes q
  exact ⟨q, rfl, ho, (dec_len_le hd0).1 (by omega), (dec_len_le hd0).1 (by omega)⟩

open Go.RowKit NV
open Go.Lib (decDigits)

theorem rq_done {f : Nat} {args : Array Value} {w : World} {q r : Rat} (h : Calls Tryz.prog f args w (RQ q w)) (hr : q = r) (ho : QOk r) :
    Calls Tryz.prog f args w fun e w' => e = .returned (.tuple #[.string (qstr r), .int .i64 0]) ∧ Below w.heap.size w w' := by
  subst hr
  exact h.mono fun e w' ⟨h1, h2⟩ => ⟨by rw [h1, wQ_ok ho]; rfl, h2⟩

theorem qstr_parts_lit {q : Rat} {m : Bool} {n d : Nat} (h1 : ng q = m) (h2 : tp q = n) (h3 : q.den = d) {s : ByteArray} (h : rstr m n d = s) : qstr q = s := by
  unfold qstr; rw [h1, h2, h3]; exact h

theorem digit_str {n : Nat} (h : n < 10) : dstr n = ⟨#[UInt8.ofNat (48 + n)]⟩ := by rw [dstr, dec_small h]

def q12 : Rat := ⟨1, 2, by decide, by decide⟩
def q13 : Rat := ⟨1, 3, by decide, by decide⟩
def q56 : Rat := ⟨5, 6, by decide, by decide⟩
def q32m : Rat := ⟨-3, 2, by decide, by decide⟩
def q23 : Rat := ⟨2, 3, by decide, by decide⟩
def q32 : Rat := ⟨3, 2, by decide, by decide⟩
def q94 : Rat := ⟨9, 4, by decide, by decide⟩

theorem frac_str (m : Bool) (n d : Nat) (hn : n < 10) (hd : d < 10) (h1 : d ≠ 1) : rstr m n d = ⟨((if m then [45] else []) ++ [UInt8.ofNat (48 + n), 47, UInt8.ofNat (48 + d)]).toArray⟩ := by
  apply ba_ext
  rw [rstr_eq, if_neg h1, app_list, app_list, istr_list, dstr_list, dec_small hn, dec_small hd]
  cases m <;> simp

theorem s12 : qstr q12 = ⟨#[49, 47, 50]⟩ := (frac_str false 1 2 (by omega) (by omega) (by omega)).trans rfl
theorem s13 : qstr q13 = ⟨#[49, 47, 51]⟩ := (frac_str false 1 3 (by omega) (by omega) (by omega)).trans rfl
theorem s56 : qstr q56 = ⟨#[53, 47, 54]⟩ := (frac_str false 5 6 (by omega) (by omega) (by omega)).trans rfl
theorem s32m : qstr q32m = ⟨#[45, 51, 47, 50]⟩ := (frac_str true 3 2 (by omega) (by omega) (by omega)).trans rfl
theorem s23 : qstr q23 = ⟨#[50, 47, 51]⟩ := (frac_str false 2 3 (by omega) (by omega) (by omega)).trans rfl
theorem s94 : qstr q94 = ⟨#[57, 47, 52]⟩ := (frac_str false 9 4 (by omega) (by omega) (by omega)).trans rfl

theorem small_qok {q : Rat} (h1 : tp q < 10) (h2 : q.den < 10) : QOk q := by
  constructor
  · unfold Ok; rw [dec_small h1]; simp
  · unfold Ok; rw [dec_small h2]; simp

theorem lit_eq (l : List UInt8) (s : ByteArray) (h : s.data.toList = l) : (s.toList == l) = true := by
  rw [Go.Lib.toList_data, h]; exact beq_self_eq_true _

theorem chk64 : chkI ⟨#[45, 54]⟩ = 0 := by
  unfold chkI
  rw [toList_eq]
  rfl

theorem make64 : mkQ (minusB ⟨#[45, 54]⟩) (dv (restS ⟨#[45, 54]⟩).data.toList) (dv (⟨#[52]⟩ : ByteArray).data.toList) = q32m := by
  rw [rest_list, show minusB ⟨#[45, 54]⟩ = true from rfl, show dv (Lib.trimPrefix (⟨#[45, 54]⟩ : ByteArray).data.toList [45]) = 6 from rfl, show dv (⟨#[52]⟩ : ByteArray).data.toList = 4 from rfl]
  decide +kernel

end Go.Proofs.YteojekiocecdnaaGreatDoor
