/-
  Cut, for every text and int.
-/
import Derived.Test.YtpkbppfgmpcpcaaGreatDoorB16
namespace Go.Proofs.YtpkbppfgmpcpcaaGreatDoor
open Go.RowKit NV
open Go.Lib (decDigits)

/-- v is a slice of N texts: f. -/
def SRow (w : World) (v : Value) (N : Nat) (f : Nat → ByteArray) : Prop :=
  (v = .slice none 0 0 ∧ N = 0) ∨ ∃ g cap, v = .slice (some ⟨g, 0, none⟩) N cap ∧ g < w.heap.size ∧ ∀ j, j < N → w.cell? ⟨g, j, none⟩ = some (.string (f j))
theorem SRow.below {w w' : World} {v : Value} {N : Nat} {f : Nat → ByteArray} (h : SRow w v N f) (hb : Below w.heap.size w w') : SRow w' v N f := by
  rcases h with h | ⟨g, cap, h1, h2, h3⟩
  · exact .inl h
  · exact .inr ⟨g, cap, h1, Nat.lt_of_lt_of_le h2 hb.size, fun j hj => (hb.cell (p := ⟨g, j, none⟩) h2).trans (h3 j hj)⟩
theorem SRow.form {w : World} {v : Value} {N : Nat} {f : Nat → ByteArray} (h : SRow w v N f) : ∃ ao c, v = .slice ao N c := by
  rcases h with ⟨h, rfl⟩ | ⟨g, cap, h1, _⟩
  · exact ⟨_, _, h⟩
  · exact ⟨_, _, h1⟩
theorem SRow.of_row {w : World} {base N : Nat} {v : Value} {xs : List Value} {f : Nat → ByteArray} (h : w.ownsRow base 22 1 v N xs) (hx : ∀ j, j < N → xs[j]? = some (.string (f j))) : SRow w v N f := by
  rcases h.2 with ⟨h1, h2⟩ | ⟨g, cap, cur, h1, hb, hg, rest⟩
  · exact .inl ⟨h1, h2⟩
  · refine .inr ⟨g, cap, h1, (Array.getElem?_eq_some_iff.1 hg).1, fun j hj => ?_⟩
    have := h.cells (g := g) (by rw [h1]; rfl) j (.string (f j)) (by rw [hx j hj])
    by_cases h0 : j = 0
    · subst h0; simpa [Addr.add] using this
    · simpa [Addr.add, h0] using this
theorem pcs_get {s : ByteArray} {c k j : Nat} (h : j < k) : (pcs s c k)[j]? = some (.string (piece s c j)) := by
  unfold pcs; simp [h]

theorem np_exact {c n : Nat} (hc : 0 < c) (h : n % c = 0) : np c n * c = n := by
  have h1 := Nat.div_add_mod n c
  rw [h, Nat.add_zero, Nat.mul_comm] at h1
  obtain ⟨q, hq⟩ : ∃ q, q = n / c := ⟨_, rfl⟩
  rw [← hq] at h1
  have : np c n = q := by
    unfold np
    rw [← h1, show q * c + c - 1 = (c - 1) + c * q by rw [Nat.mul_comm]; omega, Nat.add_mul_div_left _ _ hc, Nat.div_eq_of_lt (by omega)]; omega
  rw [this, h1]
theorem np_le {c n : Nat} (hc : 0 < c) : np c n ≤ n := by
  rcases Nat.lt_or_ge n (np c n) with h | h
  · have h2 := (np_lt hc).1 h
    have : n * 1 ≤ n * c := Nat.mul_le_mul_left n hc
    omega
  · exact h

set_option maxHeartbeats 1600000 in
theorem Cut_ok {b : ByteArray} {n : Nat} (hb : IsBits b.data.toList) (hs : b.size ≤ 900000) (h1 : 1 ≤ n) (h2 : n ≤ 256) (hd : b.size % n = 0) (w : World) :
    Calls Tryz.prog 24 #[.string b, .int .i64 (n : Int)] w fun e w' => ∃ v, e = .returned (.tuple #[v, .int .i64 0]) ∧ SRow w' v (np n b.size) (fun j => piece b n j) ∧ Below w.heap.size w w' := by
  have hc := bCheck_any b w (by omega)
  rw [bchk_yes hb] at hc
  have HC := Lib.hid hc
  have HP := Lib.hid (pieces_any b n w)
  have hnp : np n b.size ≤ 999999 := Nat.le_trans (np_le (by omega)) (by omega)
  have HF := Lib.hid (fun (W : World) (hp : PSt w.heap.size (w.heap.size + 1) b n 0 W) => fold_cut (bB := w.heap.size) (bN := w.heap.size + 1) (by omega) (by omega) (by omega) (by omega) hnp hp)
  have hmod : (((b.size : Nat) : Int) % (n : Int) != 0) = false := by
    have : ((b.size : Nat) : Int) % (n : Int) = 0 := by rw [← Int.natCast_emod, hd]; rfl
    rw [this]; rfl
  clear hb hc hd hnp
  go_enter Tryz.func24, Tryz.ntmps24
  go_wp2_with fail
  refine HC.out.mono ?_
  rintro e w1 ⟨rfl, rfl⟩
  clear HC
  go_wp2_with fail
  refine HP.out.mono ?_
  rintro e w2 ⟨rfl, hp, hb2⟩
  have HB := Lib.hid hb2
  have HG := Lib.hid (HF.out _ hp)
  clear hp hb2 HF HP
  go_wp2_with fail
  refine HG.out.mono ?_
  rintro e w3 ⟨v, rfl, hrow, hch⟩
  have HR := Lib.hid (SRow.of_row (f := fun j => piece b n j) hrow (fun j hj => pcs_get hj))
  have HB3 := Lib.hid (HB.out.trans (hch.to_below HB.out.size (fun j hj => by omega)))
  obtain ⟨ao, m, cc, rfl⟩ := slice_of_row hrow
  clear hrow hch HG
  go_wp2_with fail
  go_ret2
  exact ⟨_, rfl, HR.out, HB3.out⟩

theorem Cut_form {b : ByteArray} (hs : b.size ≤ 140737488351232) (hb : ¬ IsBits b.data.toList) (n : Int) (w : World) :
    Calls Tryz.prog 24 #[.string b, .int .i64 n] w fun e w' => e = .returned (.tuple #[.slice none 0 0, .int .i64 3]) ∧ w = w' := by
  have hc := bCheck_any b w hs
  rw [bchk_no hb] at hc
  have HC := Lib.hid hc
  clear hb hc
  go_enter Tryz.func24, Tryz.ntmps24
  go_wp2_with fail
  refine HC.out.mono ?_
  rintro e w1 ⟨rfl, rfl⟩
  clear HC
  go_wp2_with fail
  go_ret2
  exact ⟨rfl, rfl⟩

theorem Cut_range {b : ByteArray} (hs : b.size ≤ 140737488351232) (hb : IsBits b.data.toList) (n : Int) (hn : n < 1 ∨ 256 < n) (w : World) :
    Calls Tryz.prog 24 #[.string b, .int .i64 n] w fun e w' => e = .returned (.tuple #[.slice none 0 0, .int .i64 2]) ∧ w = w' := by
  have hc := bCheck_any b w hs
  rw [bchk_yes hb] at hc
  have HC := Lib.hid hc
  clear hb hc
  by_cases h1 : n < 1
  · go_enter Tryz.func24, Tryz.ntmps24
    go_wp2_with fail
    refine HC.out.mono ?_
    rintro e w1 ⟨rfl, rfl⟩
    clear HC
    go_wp2_with fail
    go_ret2
    exact ⟨rfl, rfl⟩
  · have h2 : 256 < n := by omega
    go_enter Tryz.func24, Tryz.ntmps24
    go_wp2_with fail
    refine HC.out.mono ?_
    rintro e w1 ⟨rfl, rfl⟩
    clear HC
    go_wp2_with fail
    go_ret2
    exact ⟨rfl, rfl⟩

theorem Cut_short {b : ByteArray} (hs : b.size ≤ 140737488351232) (hb : IsBits b.data.toList) (n : Nat) (h1 : 1 ≤ n) (h2 : n ≤ 256) (hd : b.size % n ≠ 0) (w : World) :
    Calls Tryz.prog 24 #[.string b, .int .i64 (n : Int)] w fun e w' => e = .returned (.tuple #[.slice none 0 0, .int .i64 16]) ∧ w = w' := by
  have hc := bCheck_any b w hs
  rw [bchk_yes hb] at hc
  have HC := Lib.hid hc
  have hmod : (((b.size : Nat) : Int) % (n : Int) != 0) = true := by
    rw [bne_iff_ne, ← Int.natCast_emod]; omega
  clear hb hc hd
  go_enter Tryz.func24, Tryz.ntmps24
  go_wp2_with fail
  refine HC.out.mono ?_
  rintro e w1 ⟨rfl, rfl⟩
  clear HC
  go_wp2_with fail
  go_ret2
  exact ⟨rfl, rfl⟩

/-- The error of Cut; 0 where there is none. -/
def cutE (b : ByteArray) (n : Int) : Nat := if bchk b.data.toList ≠ 0 then 3 else if n < 1 ∨ 256 < n then 2 else if b.size % n.toNat ≠ 0 then 16 else 0
theorem bits_of_chk {l : List UInt8} (h : ¬ bchk l ≠ 0) : IsBits l := Classical.byContradiction fun hb => h (by rw [bchk_no hb]; decide)
theorem cutE_ok {b : ByteArray} {n : Int} (h : cutE b n = 0) : IsBits b.data.toList ∧ 1 ≤ n ∧ n ≤ 256 ∧ b.size % n.toNat = 0 := by
  unfold cutE at h
  split at h
  · omega
  · rename_i hb
    split at h
    · omega
    · split at h
      · omega
      · exact ⟨bits_of_chk hb, by omega, by omega, by omega⟩
theorem Cut_no (b : ByteArray) (n : Int) (hs : b.size ≤ 140737488351232) (h : cutE b n ≠ 0) (w : World) :
    Calls Tryz.prog 24 #[.string b, .int .i64 n] w fun e w' => e = .returned (.tuple #[.slice none 0 0, .int .i64 (cutE b n : Nat)]) ∧ w = w' := by
  unfold cutE at h ⊢
  by_cases hb : bchk b.data.toList ≠ 0
  · rw [if_pos hb]
    exact Cut_form hs (fun e => hb (bchk_yes e)) n w
  · rw [if_neg hb] at h ⊢
    have hb2 := bits_of_chk hb
    by_cases hn : n < 1 ∨ 256 < n
    · rw [if_pos hn]; exact Cut_range hs hb2 n hn w
    · rw [if_neg hn] at h ⊢
      by_cases hd : b.size % n.toNat ≠ 0
      · rw [if_pos hd]
        obtain ⟨m, rfl⟩ : ∃ m : Nat, n = (m : Int) := ⟨n.toNat, by omega⟩
        exact Cut_short hs hb2 m (by omega) (by omega) (by simpa using hd) w
      · rw [if_neg hd] at h; exact absurd rfl h

end Go.Proofs.YtpkbppfgmpcpcaaGreatDoor
