/-
  BitsNames returns true: the walk.
-/
import Derived.Test.YtgeohcpmoleocaaGreatDoorB23
namespace Go.Proofs.YtgeohcpmoleocaaGreatDoor
open Go.RowKit NV
open Go.Lib (decDigits)

theorem bits_of {l : List UInt8} (h : bitsB l = true) : IsBits l := bitsB_iff.1 h
theorem not_bits {l : List UInt8} (h : bitsB l = false) : ¬ IsBits l := fun e => by rw [bitsB_iff.2 e] at h; cases h
theorem five_str : (⟨#[53]⟩ : ByteArray) = dstr 5 := by rw [dstr, dec_small (by omega)]; rfl
theorem ok5 : Ok 5 := ok_two (n := 3) (by omega) (by decide)
theorem word54 : wstr 5 4 = ⟨#[48, 49, 48, 49]⟩ := by apply ba_ext; rw [wstr_listB]; decide
theorem fb160 : (⟨(byb (fun _ => 160) ((3 + 7) / 8)).toArray⟩ : ByteArray).extract 0 3 = ⟨#[49, 48, 49]⟩ := by
  apply ba_ext
  rw [Go.Lib.extract_data]
  decide
theorem c00 : cQ 0 0 = 0 := by decide +kernel
theorem c10 : cQ 1 0 = 1 := by decide +kernel
theorem q0s : qstr 0 = ⟨#[48]⟩ := by unfold qstr; rw [rstr_eq, if_pos (show (0 : Rat).den = 1 from rfl)]; exact zero_str.symm
theorem q1s : qstr 1 = ⟨#[49]⟩ := by unfold qstr; rw [rstr_eq, if_pos (show (1 : Rat).den = 1 from rfl)]; exact one_str.symm
theorem brow160 (w : World) : BRow (w.alloc (.cells #[.int .u8 160] 5)) (some ⟨w.heap.size, 0, none⟩) 1 (fun _ => 160) :=
  .inr ⟨_, rfl, by simp, fun j hj => by
    obtain rfl : j = 0 := by omega
    rw [Addr.add_zero', Lib.cell_of_heap (heap_alloc_new w _)]; rfl⟩
theorem trow2 (w : World) (x y : ByteArray) : TRow (w.alloc (.cells #[.string x, .string y] 38)) (some ⟨w.heap.size, 0, none⟩) 2 (fun j => if j = 0 then x else y) :=
  .inr ⟨_, rfl, by simp, fun j hj => by
    rw [Addr.add_lit, Nat.zero_add, Lib.cell_of_heap (heap_alloc_new w _)]
    match j, hj with
    | 0, _ => rfl
    | 1, _ => rfl⟩
theorem trow3 (w : World) : TRow (w.alloc (.cells #[.string ⟨#[48, 49]⟩, .string ⟨#[48, 48]⟩, .string ⟨#[49, 49]⟩] 38)) (some ⟨w.heap.size, 0, none⟩) 3 (fun j => piece ⟨#[48, 49, 48, 48, 49, 49]⟩ 2 j) :=
  .inr ⟨_, rfl, by simp, fun j hj => by
    rw [Addr.add_lit, Nat.zero_add, Lib.cell_of_heap (heap_alloc_new w _)]
    match j, hj with
    | 0, _ => show some (Value.string _) = _; congr 2
    | 1, _ => show some (Value.string _) = _; congr 2
    | 2, _ => show some (Value.string _) = _; congr 2⟩

theorem join_bad (W : World) : Calls Tryz.prog 46 #[.slice (some ⟨W.heap.size, 0, none⟩) 2 2] (W.alloc (.cells #[.string ⟨#[48, 49]⟩, .string ⟨#[120]⟩] 38)) fun e w' => e = .returned (.tuple #[.string ⟨#[]⟩, .int .i64 3]) ∧ Below (W.alloc (.cells #[.string ⟨#[48, 49]⟩, .string ⟨#[120]⟩] 38)).heap.size (W.alloc (.cells #[.string ⟨#[48, 49]⟩, .string ⟨#[120]⟩] 38)) w' := by
  refine Join_no (K := 1) _ (trow2 W _ _) (by omega) (by omega) ?_ ?_ ?_
  · intro j hj
    obtain rfl : j = 0 := by omega
    exact bits_of (by decide)
  · exact not_bits (by decide)
  · intro j hj
    match j, hj with
    | 0, _ => exact (by decide : 2 ≤ 1000)
    | 1, _ => exact (by decide : 1 ≤ 1000)

set_option maxHeartbeats 12800000 in
set_option maxRecDepth 100000 in
theorem bitsNames_any (w : World) (htab : Tab w) : Calls Tryz.prog 4 #[] w fun e w' => e = .returned (.bool true) ∧ Below w.heap.size w w' := by
  have HL := Lib.hid (lives3_any w htab)
  have h1 := fun W (h : Below w.heap.size w W) => Number_ok (s := ⟨#[49, 48, 49]⟩) (bits_of (by decide)) (by decide) W (htab.below h)
  rw [show bv (⟨#[49, 48, 49]⟩ : ByteArray).data.toList = 5 from rfl, ← five_str] at h1
  have H1 := Lib.hid h1
  have h2 := fun W (h : Below w.heap.size w W) => Number_ok (s := ⟨#[]⟩) (bits_of (by decide)) (by decide) W (htab.below h)
  rw [show bv (⟨#[]⟩ : ByteArray).data.toList = 0 from rfl, ← zero_str] at h2
  have H2 := Lib.hid h2
  have h3 := fun W (h : Below w.heap.size w W) => Word_ok (a := 5) (n := 4) (by omega) (by decide) W (htab.below h)
  rw [← five_str, word54] at h3
  have H3 := Lib.hid h3
  have h4 := fun W (h : Below w.heap.size w W) => Word_great (a := 5) (n := 2) ok5 (by omega) (by decide) W (htab.below h)
  rw [← five_str] at h4
  have H4 := Lib.hid h4
  have h5 := fun W => All_no 13 (.inr (by omega)) W
  have H5 := Lib.hid h5
  have h6 := fun W => FromBytes_ok (n := 3) _ (brow160 W) (cap := 1) (Nat.le_refl _) (by unfold maxLen; omega) (by omega) (by omega)
  rw [fb160] at h6
  have H6 := Lib.hid h6
  have h7 := fun W ao => FromBytes_short (ao := ao) (N := 1) (cap := 1) (n := 9) (by omega) (by omega) W
  have H7 := Lib.hid h7
  have h8 := fun W => Cut_ok (b := ⟨#[48, 49, 48, 48, 49, 49]⟩) (n := 2) (bits_of (by decide)) (by decide) (by omega) (by omega) (by decide) W
  have H8 := Lib.hid h8
  have h9 := fun W => Cut_short (b := ⟨#[48, 49, 48]⟩) (by decide) (bits_of (by decide)) 2 (by omega) (by omega) (by decide) W
  have H9 := Lib.hid h9
  have h10 := fun W => Word_form (s := ⟨#[]⟩) (by decide) (by decide) 2 W
  rw [show chk (⟨#[]⟩ : ByteArray).data.toList = 3 from rfl] at h10
  have H10 := Lib.hid h10
  have h11 := fun W => Word_far (a := 0) (ok_two (n := 1) (by omega) (by omega)) (-1) (.inl (by omega)) W
  rw [← zero_str] at h11
  have H11 := Lib.hid h11
  have h12 := fun W (h : Below w.heap.size w W) => Cell_ok (s := ⟨#[]⟩) (bits_of (by decide)) (by decide) W (htab.below h)
  rw [show bv (⟨#[]⟩ : ByteArray).data.toList = 0 from rfl, show (⟨#[]⟩ : ByteArray).size = 0 from rfl, c00, c10, q0s, q1s] at h12
  have H12 := Lib.hid h12
  have h13 := fun W => times_one 49 257 (by omega) W
  have H13 := Lib.hid h13
  have hones : IsBits (List.replicate 257 (49 : UInt8)) := fun c hc => .inr (List.eq_of_mem_replicate hc)
  obtain ⟨Ton, hTon⟩ : ∃ T, (⟨(List.replicate 257 (49 : UInt8)).toArray⟩ : ByteArray) = T := ⟨_, rfl⟩
  have hson : Ton.data.toList = List.replicate 257 (49 : UInt8) := by rw [← hTon]
  have hsiz : Ton.size = 257 := by rw [Go.Lib.size_eq, hson, List.length_replicate]
  rw [hTon] at H13
  have h14 := fun W => Number_err (s := Ton) (c := 4) (by unfold schk; rw [hson, bchk_yes hones, if_neg (by omega), if_pos (by omega)]) (by omega) (by omega) W
  have H14 := Lib.hid h14
  have h15 := fun W => Cut_range (b := ⟨#[]⟩) (by decide) (bits_of (by decide)) 0 (.inl (by omega)) W
  have H15 := Lib.hid h15
  have h16 := fun W => join_bad W
  have H16 := Lib.hid h16
  have h17 := fun W => All_any 0 (by omega) W
  simp only [Nat.pow_zero] at h17
  have H17 := Lib.hid h17
  have h18 := fun W => bCheck_any ⟨#[48, 49, 50]⟩ W (by decide)
  rw [show bchk (⟨#[48, 49, 50]⟩ : ByteArray).data.toList = 3 from by decide] at h18
  have H18 := Lib.hid h18
  have h19 := fun W => times_ten W
  have H19 := Lib.hid h19
  obtain ⟨Tte, hTte⟩ : ∃ T, (⟨(tenL 300).toArray⟩ : ByteArray) = T := ⟨_, rfl⟩
  have hste : Tte.data.toList = tenL 300 := by rw [← hTte]
  have hsze : Tte.size = 600 := by rw [Go.Lib.size_eq, hste, tenL_len]
  rw [hTte] at H19
  have h20 := fun W => bCheck_any Tte W (by omega)
  rw [hste, bchk_yes (tenL_bits 300)] at h20
  have H20 := Lib.hid h20
  clear htab h1 h2 h3 h4 h5 h6 h7 h8 h9 h10 h11 h12 h13 h14 h15 h16 h17 h18 h19 h20 hones hTon hson hsiz hTte hste hsze
  go_enter Tryz.func4, Tryz.ntmps4
  go_wp2_with fail
  refine HL.out.mono ?_
  rintro e w1 ⟨rfl, hb⟩
  have HB := Lib.hid hb
  clear hb HL
  go_wp2_with fail
  refine (H1.out _ HB.out).mono ?_
  rintro e w2 ⟨rfl, hb⟩
  replace HB := Lib.hid (HB.out.trans (hb.mono HB.out.size))
  clear hb
  go_wp2_with fail
  refine (H2.out _ HB.out).mono ?_
  rintro e w3 ⟨rfl, hb⟩
  replace HB := Lib.hid (HB.out.trans (hb.mono HB.out.size))
  clear hb
  go_wp2_with fail
  refine (H3.out _ HB.out).mono ?_
  rintro e w4 ⟨rfl, hb⟩
  replace HB := Lib.hid (HB.out.trans (hb.mono HB.out.size))
  clear hb
  go_wp2_with fail
  refine (H4.out _ HB.out).mono ?_
  rintro e w5 ⟨rfl, hb⟩
  replace HB := Lib.hid (HB.out.trans (hb.mono HB.out.size))
  clear hb
  go_wp2_with fail
  refine (H5.out _).mono ?_
  rintro e w6 ⟨rfl, rfl⟩
  go_wp2_with fail
  refine (H6.out _).mono ?_
  rintro e w7 ⟨rfl, hb⟩
  replace HB := Lib.hid (HB.out.trans (((Below.refl _ _).alloc (Nat.le_refl _) (.cells #[.int .u8 160] 5)).trans (hb.mono (by simp)) |>.mono HB.out.size))
  clear hb
  go_wp2_with fail
  refine (H7.out _ _).mono ?_
  rintro e w8 ⟨rfl, rfl⟩
  replace HB := Lib.hid (HB.out.alloc HB.out.size (.cells #[.int .u8 160] 5))
  go_wp2_with fail
  refine (H8.out _).mono ?_
  rintro e w9 ⟨v, rfl, hs, hb⟩
  replace HB := Lib.hid (HB.out.trans (hb.mono HB.out.size))
  clear hb
  obtain ⟨l1, k1, rfl, ht, _⟩ := hs.trow
  rw [show np 2 (⟨#[48, 49, 48, 48, 49, 49]⟩ : ByteArray).size = 3 from by decide] at ht ⊢
  have HT := Lib.hid ht
  clear hs ht
  go_wp2_with fail
  refine (H9.out _).mono ?_
  rintro e w10 ⟨rfl, rfl⟩
  go_wp2_with fail
  refine (H10.out _).mono ?_
  rintro e w11 ⟨rfl, hb⟩
  replace HB := Lib.hid (HB.out.trans (hb.mono HB.out.size))
  replace HT := Lib.hid (HT.out.below hb)
  clear hb
  go_wp2_with fail
  refine (H11.out _).mono ?_
  rintro e w12 ⟨rfl, hb⟩
  replace HB := Lib.hid (HB.out.trans (hb.mono HB.out.size))
  replace HT := Lib.hid (HT.out.below hb)
  clear hb
  go_wp2_with fail
  refine (H12.out _ HB.out).mono ?_
  rintro e w13 ⟨rfl, hb⟩
  replace HB := Lib.hid (HB.out.trans (hb.mono HB.out.size))
  replace HT := Lib.hid (HT.out.below hb)
  clear hb
  go_wp2_with fail
  refine (H13.out _).mono ?_
  rintro e w14 ⟨rfl, hb⟩
  replace HB := Lib.hid (HB.out.trans (hb.mono HB.out.size))
  replace HT := Lib.hid (HT.out.below hb)
  clear hb
  go_wp2_with fail
  refine (H14.out _).mono ?_
  rintro e w15 ⟨rfl, hb⟩
  replace HB := Lib.hid (HB.out.trans (hb.mono HB.out.size))
  replace HT := Lib.hid (HT.out.below hb)
  clear hb
  go_wp2_with fail
  refine (H15.out _).mono ?_
  rintro e w16 ⟨rfl, rfl⟩
  go_wp2_with fail
  refine (H16.out _).mono ?_
  rintro e w17 ⟨rfl, hb⟩
  have hal := (Below.refl _ _).alloc (Nat.le_refl _) (.cells #[.string ⟨#[48, 49]⟩, .string ⟨#[120]⟩] 38) |> fun h => h.trans (hb.mono h.size)
  replace HB := Lib.hid (HB.out.trans (hal.mono HB.out.size))
  replace HT := Lib.hid (HT.out.below hal)
  clear hb hal
  go_wp2_with fail
  refine (H17.out _).mono ?_
  rintro e w18 ⟨g, rfl, hg, har, hb⟩
  replace HB := Lib.hid (HB.out.trans (hb.mono HB.out.size))
  replace HT := Lib.hid (HT.out.below hb)
  clear hb
  have HAR := Lib.hid har
  clear hg har
  have hal := (Below.refl w18.heap.size w18).alloc (Nat.le_refl _) (.cells #[.string ⟨#[48, 49]⟩, .string ⟨#[48, 48]⟩, .string ⟨#[49, 49]⟩] 38)
  have HSM := Lib.hid (Same_row (c1 := k1) (c2 := 3) (HT.out.below hal) (trow3 w18) (by omega))
  replace HAR := Lib.hid (HAR.out.below hal HAR.out.lt)
  replace HB := Lib.hid (HB.out.trans (hal.mono HB.out.size))
  clear hal HT
  go_wp2_with fail
  refine (HSM.out).mono ?_
  rintro e w19 ⟨rfl, hb⟩
  have har2 := HAR.out.below hb HAR.out.lt
  have a0 := har2.cell (j := 0) (by omega)
  rw [show wstr 0 0 = ⟨#[]⟩ from rfl] at a0
  replace HB := Lib.hid (HB.out.trans (hb.mono HB.out.size))
  clear hb har2 HAR
  go_wp2_with fail
  refine (H18.out _).mono ?_
  rintro e w20 ⟨rfl, rfl⟩
  go_wp2_with fail
  refine (H19.out _).mono ?_
  rintro e w21 ⟨rfl, hb⟩
  replace HB := Lib.hid (HB.out.trans (hb.mono HB.out.size))
  clear hb
  go_wp2_with fail
  refine (H20.out _).mono ?_
  rintro e w22 ⟨rfl, rfl⟩
  go_wp2_with fail
  go_ret
  exact ⟨ret_bool (by simp), HB.out⟩

end Go.Proofs.YtgeohcpmoleocaaGreatDoor
