/-
  What PickNames asks: errors of weights, distributions of small weights.
-/
import Derived.Test.YtgnmhijffppkoaaGreatDoorEE
import Derived.Test.YtgnmhijffppkoaaGreatDoorHL
import Derived.Room.AppendFits
import Derived.WalkSmall
namespace Go.Proofs.YtgnmhijffppkoaaGreatDoor
open Go.RowKit NV
open Go.Lib (decDigits)

theorem dv_tenP : ∀ k, dv (49 :: List.replicate k (48 : UInt8)) = 10 ^ k
  | 0 => rfl
  | k + 1 => by
    have h := dv_tenP k
    rw [List.replicate_succ', ← List.cons_append, dv_snoc, h, Nat.pow_succ]
    show 10 * 10 ^ k + 0 = _
    omega
theorem good_tenP (k : Nat) : badB (49 :: List.replicate k (48 : UInt8)) = false := by
  unfold badB
  have h : ((49 :: List.replicate k (48 : UInt8)).all fun c => decide (48 ≤ c.toNat ∧ c.toNat ≤ 57)) = true := by
    rw [List.all_eq_true]
    intro c hc
    rcases List.mem_cons.1 hc with rfl | hc
    · decide
    · rw [List.eq_of_mem_replicate hc]; decide
  rw [h]; rfl
set_option maxHeartbeats 1600000 in
set_option maxRecDepth 100000 in
/-- Times at a text of one byte. -/
theorem times_oneP (c : UInt8) (n : Nat) (hn : n ≤ 1000000) (w : World) :
    Calls Tryz.prog 42 #[.string ⟨#[c]⟩, .int .i64 (n : Int)] w fun e w' => e = .returned (.string ⟨(List.replicate n c).toArray⟩) ∧ Below w.heap.size w w' := by
  obtain ⟨i0, hi, hz0, hz1, hz2⟩ := info_parts (show (Tryz.prog.info? 5).map (fun i => (i.zero, i.size, i.bytes)) = some (some (.int .u8 0), 1, 1) by kernel_rfl)
  go_enter Tryz.func42, Tryz.ntmps42
  go_wp2_with (at_make; refine wpList_make_own _ rfl _ _ 24 rfl w.heap.size 5 i0 (.int .u8 0) 1 Tryz.underlying24 hi hz0 hz1 _ _ _ n rfl rfl (by omega) (by rw [hz2]; omega) (by unfold maxLen; omega) (by simp) ?_)
  intro w1 hown1 hgrow1
  have hb1 : Below w.heap.size w w1 := (Below.refl _ _).grown hgrow1 (by simp) (fun k hk => by cases hk)
  clear hgrow1
  go_wp2_with fail
  go_loopw [5, 6] (fun s5 s6 wr => ∃ k : Nat, k ≤ n ∧ s5 = .slice (some ⟨w.heap.size, 0, none⟩) k n ∧ s6 = .int .i64 (k : Int) ∧ wr.ownsRow w.heap.size 5 1 (.slice (some ⟨w.heap.size, 0, none⟩) k n) k (List.replicate k (Value.int .u8 ((c.toNat : Nat) : Int))) ∧ Below w.heap.size w wr) (fun _ s6 _ => n - (intOf s6).toNat)
  case atStart => exact ⟨0, Nat.zero_le _, rfl, rfl, by simpa using hown1, hb1⟩
  case round =>
    obtain ⟨k, hk, rfl, rfl, hown, hbr⟩ := hrel
    clear hown1 hb1
    by_cases hlt : k < n
    · go_wp2_with (at_builtin; refine Go.Lib.wpList_append_fits_string _ rfl _ _ 24 9 rfl w.heap.size 5 i0 Tryz.underlying24 Tryz.underlying9 hi hz1 _ k n _ rfl hown ⟨#[c]⟩ rfl (by omega) (by show k + 1 ≤ n; exact hlt) ?_)
      intro w3 hown3 hgrow3
      have hb3 : Below w.heap.size w w3 := hbr.grown hgrow3 (by have := hbr.size; omega) (fun b hb => by simp [Value.ownBlock] at hb; omega)
      have e3 : w3.ownsRow w.heap.size 5 1 (.slice (some ⟨w.heap.size, 0, none⟩) (k + 1) n) (k + 1) (List.replicate (k + 1) (Value.int .u8 ((c.toNat : Nat) : Int))) := by
        rw [List.replicate_succ']; exact hown3
      have HF := Lib.hid (And.intro e3 hb3)
      clear hown3 hgrow3 hb3 e3 hown hbr
      go_wp2_with fail
      go_roundw
      case rel => exact ⟨k + 1, by omega, rfl, by go_num, HF.out.1, HF.out.2⟩
      case measure => simp [intOf]; omega
    · obtain rfl : k = n := by omega
      have hcv := run_convert_bytes_back (P := Tryz.prog) wr 24 9 5 ⟨w.heap.size, 0, none⟩ k (List.replicate k c) Tryz.underlying24 Tryz.underlying5 Tryz.underlying9 (fun j hj => by
        have hj' : j < k := by simpa using hj
        rw [Lib.add_plain, Nat.zero_add, hown.cellAt j (by omega)]
        simp [hj'])
      rw [List.length_replicate] at hcv
      have HB := Lib.hid hbr
      clear hown hbr
      go_wp2_with fail
      go_ret
      exact ⟨rfl, HB.out⟩

theorem w111 : WOk (lF ([1, 1, 1].map dstr)) 3 ∧ ∀ j, j < 3 → wN (lF ([1, 1, 1].map dstr)) j = [1, 1, 1].getD j 0 := WOk.lit (l := [1, 1, 1]) (by decide) (by decide) (by decide) (by decide)
theorem w111s : ∀ i, i ≤ 3 → wsum (wN (lF ([1, 1, 1].map dstr))) i = wsum (fun j => [1, 1, 1].getD j 0) i := fun i hi => wsum_congr (fun j hj => w111.2 j (show j < 3 by omega))
theorem w050 : WOk (lF ([0, 5, 0].map dstr)) 3 ∧ ∀ j, j < 3 → wN (lF ([0, 5, 0].map dstr)) j = [0, 5, 0].getD j 0 := WOk.lit (l := [0, 5, 0]) (by decide) (by decide) (by decide) (by decide)
theorem w050s : ∀ i, i ≤ 3 → wsum (wN (lF ([0, 5, 0].map dstr))) i = wsum (fun j => [0, 5, 0].getD j 0) i := fun i hi => wsum_congr (fun j hj => w050.2 j (show j < 3 by omega))
theorem w121n : ∀ j, j < 3 → wN (lF ([1, 2, 1].map dstr)) j = [1, 2, 1].getD j 0 := (WOk.lit (l := [1, 2, 1]) (by decide) (by decide) (by decide) (by decide)).2
theorem c111 : lCells ([1, 1, 1].map dstr) = [.string ⟨#[49]⟩, .string ⟨#[49]⟩, .string ⟨#[49]⟩] := by
  unfold lCells
  simp only [List.map_cons, List.map_nil]
  rw [digit_strP (n := 1) (by omega)]; rfl
theorem c050 : lCells ([0, 5, 0].map dstr) = [.string ⟨#[48]⟩, .string ⟨#[53]⟩, .string ⟨#[48]⟩] := by
  unfold lCells
  simp only [List.map_cons, List.map_nil]
  rw [digit_strP (n := 0) (by omega), digit_strP (n := 5) (by omega)]; rfl

theorem p00 : pickE (lF [⟨#[48]⟩, ⟨#[48]⟩]) 2 = 6 := by
  unfold pickE
  rw [if_neg (by omega), if_neg (by rw [show wEs (lF [⟨#[48]⟩, ⟨#[48]⟩]) 2 = 0 by decide +kernel]; omega), if_pos]
  refine wZ_iff.2 fun j hj => ?_
  match j, hj with
  | 0, _ => rw [show lF [⟨#[48]⟩, ⟨#[48]⟩] 0 = ⟨#[48]⟩ from rfl, Go.Lib.toList_data]; rfl
  | 1, _ => rw [show lF [⟨#[48]⟩, ⟨#[48]⟩] 1 = ⟨#[48]⟩ from rfl, Go.Lib.toList_data]; rfl
theorem pNil (f : Nat → ByteArray) : pickE f 0 = 2 := by unfold pickE; rw [if_pos (by omega)]
theorem p65 (f : Nat → ByteArray) : pickE f 65 = 2 := by unfold pickE; rw [if_pos (by omega)]
theorem p107 : pickE (lF [⟨#[49]⟩, ⟨#[48, 55]⟩]) 2 = 3 := by
  unfold pickE
  rw [if_neg (by omega), show wEs (lF [⟨#[49]⟩, ⟨#[48, 55]⟩]) 2 = 3 by decide +kernel]; rfl
theorem pTen {T : ByteArray} (hT : T.data.toList = List.replicate 3800 (48 : UInt8)) : pickE (lF [(⟨#[49]⟩ : ByteArray) ++ T]) 1 = 5 := by
  have hl : ((⟨#[49]⟩ : ByteArray) ++ T).data.toList = 49 :: List.replicate 3800 (48 : UInt8) := by rw [app_list, hT]; rfl
  have hc : wE ((⟨#[49]⟩ : ByteArray) ++ T) = 5 := by
    unfold wE
    have h0 : chk ((⟨#[49]⟩ : ByteArray) ++ T).data.toList = 0 := by
      rw [hl]; unfold chk; rw [good_tenP, if_neg (by simp), if_neg (by rw [List.length_cons, List.length_replicate]; omega)]
    rw [h0, if_neg (by omega), if_pos (by rw [Go.Lib.size_eq, hl, List.length_cons, List.length_replicate]; omega)]
  have hs : wEs (lF [(⟨#[49]⟩ : ByteArray) ++ T]) 1 = 5 := by
    show (if wEs (lF [(⟨#[49]⟩ : ByteArray) ++ T]) 0 ≠ 0 then _ else wE ((⟨#[49]⟩ : ByteArray) ++ T)) = 5
    rw [hc]; rfl
  unfold pickE
  rw [if_neg (by omega), hs]; rfl
theorem cnt_of {f : Nat → ByteArray} {N : Nat} {n : Int} {e : Nat} (h : pickE f N = e) (he : e ≠ 0) : cntE f N n = e := by unfold cntE; rw [h, if_pos he]
theorem cnt_far {f : Nat → ByteArray} {N : Nat} {n : Int} (h : pickE f N = 0) (hn : n < 0 ∨ 256 < n) : cntE f N n = 2 := by unfold cntE; rw [h, if_neg (by omega), if_pos hn]

theorem q14 : qstr (mkQ false 1 (2 ^ 2)) = ⟨#[49, 47, 52]⟩ := by
  rw [show mkQ false 1 (2 ^ 2) = (⟨1, 4, by decide, by decide⟩ : Rat) by decide +kernel]
  exact (frac_str false 1 4 (by omega) (by omega) (by omega)).trans rfl
theorem q24 : qstr (mkQ false 2 (2 ^ 2)) = ⟨#[49, 47, 50]⟩ := by
  rw [show mkQ false 2 (2 ^ 2) = (⟨1, 2, by decide, by decide⟩ : Rat) by decide +kernel]
  exact (frac_str false 1 2 (by omega) (by omega) (by omega)).trans rfl

theorem sorted3 {a b c : Item} (h1 : keyI a ≤ keyI b) (h2 : keyI a ≤ keyI c) (h3 : keyI b ≤ keyI c) : sortI [a, b, c] = [a, b, c] := by
  unfold sortI
  refine List.mergeSort_of_pairwise (.cons (fun x hx => ?_) (.cons (fun x hx => ?_) (.cons (fun x hx => by simp at hx) .nil)))
  · rcases List.mem_cons.1 hx with rfl | hx
    · exact decide_eq_true h1
    · obtain rfl := List.mem_singleton.1 hx
      exact decide_eq_true h2
  · obtain rfl := List.mem_singleton.1 hx
    exact decide_eq_true h3

abbrev L111 : List Item := [(⟨#[48]⟩, ⟨#[49, 47, 52]⟩), (⟨#[50]⟩, ⟨#[49, 47, 52]⟩), (lateS, ⟨#[49, 47, 50]⟩)]
abbrev L121 : List Item := [(⟨#[48]⟩, ⟨#[49, 47, 52]⟩), (⟨#[49]⟩, ⟨#[49, 47, 50]⟩), (⟨#[50]⟩, ⟨#[49, 47, 52]⟩)]
theorem s111 (i : Nat) (hi : i ≤ 3) : wsum (wN (lF ([1, 1, 1].map dstr))) i = i := by
  rw [w111s i hi]
  match i, hi with
  | 0, _ => rfl
  | 1, _ => rfl
  | 2, _ => rfl
  | 3, _ => rfl
theorem cnt111 {F : Nat → Nat} (h : ∀ i, i ≤ 3 → F i = i) : lateP F 3 2 = 2 ∧ cntP F 3 2 0 = 1 ∧ cntP F 3 2 1 = 0 ∧ cntP F 3 2 2 = 1 := by
  have h0 := h 0 (by omega)
  have h1 := h 1 (by omega)
  have h2 := h 2 (by omega)
  have h3 := h 3 (by omega)
  simp [lateP, sumP, cntP, endP, fstP, upD, h0, h1, h2, h3]
theorem late111 : lateP (wsum (wN (lF ([1, 1, 1].map dstr)))) 3 2 = 2 := (cnt111 s111).1
theorem law111 : lawL (cntP (wsum (wN (lF ([1, 1, 1].map dstr)))) 3 2) (lateP (wsum (wN (lF ([1, 1, 1].map dstr)))) 3 2) (2 ^ 2) 3 = L111 := by
  obtain ⟨_, c0, c1, c2⟩ := cnt111 s111
  unfold lawL
  rw [late111, if_neg (by omega), q24]
  unfold itemsP itemsP itemsP itemsP
  rw [c0, c1, c2, if_neg (by omega), if_pos rfl, if_neg (by omega), q14, digit_strP (n := 0) (by omega), digit_strP (n := 2) (by omega)]; rfl
theorem sort111 : sortI L111 = L111 := sorted3 (by decide) (by decide) (by decide)
theorem exact121 : itemsP (wN (lF ([1, 2, 1].map dstr))) (wsum (wN (lF ([1, 2, 1].map dstr))) 3) 3 = L121 := by
  have hs : wsum (wN (lF ([1, 2, 1].map dstr))) 3 = 2 ^ 2 := by rw [w121.2 3 (Nat.le_refl _)]; rfl
  have c0 := w121n 0 (by omega)
  have c1 := w121n 1 (by omega)
  have c2 := w121n 2 (by omega)
  rw [hs]
  unfold itemsP itemsP itemsP itemsP
  rw [c0, c1, c2]
  show ([] ++ (if (1 : Nat) = 0 then [] else [(dstr 0, qstr (mkQ false 1 (2 ^ 2)))])) ++ (if (2 : Nat) = 0 then [] else [(dstr 1, qstr (mkQ false 2 (2 ^ 2)))]) ++ (if (1 : Nat) = 0 then [] else [(dstr 2, qstr (mkQ false 1 (2 ^ 2)))]) = _
  rw [if_neg (by omega), if_neg (by omega), if_neg (by omega), q14, q24, digit_strP (n := 0) (by omega), digit_strP (n := 1) (by omega), digit_strP (n := 2) (by omega)]; rfl
theorem sort121 : sortI L121 = L121 := sorted3 (by decide) (by decide) (by decide)

end Go.Proofs.YtgnmhijffppkoaaGreatDoor
