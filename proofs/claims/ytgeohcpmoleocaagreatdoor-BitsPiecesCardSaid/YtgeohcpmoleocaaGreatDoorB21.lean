/-
  BitsPieces returns true for any text, int and bytes.
-/
import Derived.Test.YtgeohcpmoleocaaGreatDoorB20
import Derived.Test.YtgeohcpmoleocaaGreatDoorB14
namespace Go.Proofs.YtgeohcpmoleocaaGreatDoor
open Go.RowKit NV
open Go.Lib (decDigits)

theorem one_byte {a : Addr} {N k c : Nat} {f : Nat → UInt8} (W : World) (h : ∀ j, j < N → W.cell? (a.add j) = some (.int .u8 (((f j).toNat : Nat) : Int))) (ha : a.block < W.heap.size) (hk : k < N) (hc : 1 ≤ c) (hcap : c ≤ maxLen) :
    Calls Tryz.prog 42 #[.slice (some (a.add k)) 1 c, .int .i64 8] W fun e w' => e = .returned (.tuple #[.string (wstr (f k).toNat 8), .int .i64 0]) ∧ Below W.heap.size W w' := by
  have h1 : BRow W (some (a.add k)) 1 (fun _ => f k) := .inr ⟨_, rfl, by rw [add_block]; exact ha, fun j hj => by
    obtain rfl : j = 0 := by omega
    rw [Addr.add_add]; exact h k hk⟩
  have h2 := FromBytes_ok (n := 8) W h1 hc hcap (by omega) (by omega)
  have e : (⟨(byb (fun _ => f k) ((8 + 7) / 8)).toArray⟩ : ByteArray).extract 0 8 = wstr (f k).toNat 8 := by
    apply ba_ext
    rw [Go.Lib.extract_data, wstr_listB]
    show ((([] : List UInt8) ++ wbits (f k).toNat 8).drop 0).take (8 - 0) = _
    rw [List.nil_append, List.drop_zero, Nat.sub_zero]
    exact List.take_of_length_le (by rw [wbits_len]; omega)
  rw [e] at h2
  exact h2

theorem all_bytes {ao : Option Addr} {N cap : Nat} {f : Nat → UInt8} (W : World) (h : BRow W ao N f) (hc : N ≤ cap) (hcap : cap ≤ maxLen) (hN : N ≤ 32) :
    Calls Tryz.prog 42 #[.slice ao N cap, .int .i64 (8 * (N : Int))] W fun e w' => e = .returned (.tuple #[.string ⟨(byb f N).toArray⟩, .int .i64 0]) ∧ Below W.heap.size W w' := by
  have h2 := FromBytes_ok (n := 8 * N) W h hc hcap (by omega) (by omega)
  have e0 : (8 * N + 7) / 8 = N := by omega
  have e : (⟨(byb f N).toArray⟩ : ByteArray).extract 0 (8 * N) = ⟨(byb f N).toArray⟩ := by
    apply ba_ext
    rw [Go.Lib.extract_data, List.drop_zero, Nat.sub_zero]
    exact List.take_of_length_le (by show (byb f N).length ≤ _; rw [byb_len]; omega)
  rw [e0, e] at h2
  exact h2

/-- The bits of the first k bytes, a text for each. -/
def eachL (f : Nat → UInt8) (k : Nat) : List Value := (List.range k).map (fun j => Value.string (wstr (f j).toNat 8))
theorem eachL_succ (f : Nat → UInt8) (k : Nat) : eachL f (k + 1) = eachL f k ++ [.string (wstr (f k).toNat 8)] := by unfold eachL; rw [List.range_succ, List.map_append]; rfl
theorem eachL_get {f : Nat → UInt8} {k j : Nat} (h : j < k) : (eachL f k)[j]? = some (.string (wstr (f j).toNat 8)) := by unfold eachL; simp [h]
theorem each_join {f : Nat → UInt8} {N : Nat} : catL (fun j => (wstr (f j).toNat 8).data.toList) N = byb f N := catL_congr (fun _ _ => wstr_listB _ _)
theorem row_below {w w' : World} {base n : Nat} {v : Value} {xs : List Value} {e : TypeId} (h : w.ownsRow base e 1 v n xs) (hb : Below w.heap.size w w') : w'.ownsRow base e 1 v n xs :=
  h.kept (row := none) ⟨hb.os, hb.tape, hb.output, hb.size, fun k hk _ => hb.block k hk⟩ (Classical.em _)

theorem whole_back {b : ByteArray} {m : Nat} (h1 : 1 ≤ m) (hd : b.size % m = 0) : (⟨(catL (fun j => (piece b m j).data.toList) (np m b.size)).toArray⟩ : ByteArray) = b := by
  have he := np_exact (c := m) (n := b.size) (by omega) hd
  apply ba_ext
  show catL _ _ = _
  rw [cat_pieces (by omega), he, Go.Lib.size_eq, List.take_length]
theorem piece_size_le (b : ByteArray) (m j : Nat) : (piece b m j).size ≤ m := by
  rw [Go.Lib.size_eq, piece_list, List.length_take]; omega

set_option maxHeartbeats 3200000 in
set_option maxRecDepth 100000 in
theorem pieces_long1 (b : ByteArray) (n : Int) {ao : Option Addr} {N cap : Nat} (hb : 600 < b.size) (w : World) (htab : Tab w) :
    Calls Tryz.prog 9 #[.string b, .int .i64 n, .slice ao N cap] w fun e w' => e = .returned (.bool true) ∧ Below w.heap.size w w' := by
  have HL := Lib.hid (lives3_any w htab)
  clear htab
  go_enter Tryz.func9, Tryz.ntmps9
  go_wp2_with fail
  refine HL.out.mono ?_
  rintro e w1 ⟨rfl, hb1⟩
  have HB := Lib.hid hb1
  clear hb1 HL
  go_wp2_with fail
  go_ret
  exact ⟨rfl, HB.out⟩

set_option maxHeartbeats 3200000 in
set_option maxRecDepth 100000 in
theorem pieces_long2 (b : ByteArray) (n : Int) {ao : Option Addr} {N cap : Nat} (hb : ¬ 600 < b.size) (hN : 32 < N) (w : World) (htab : Tab w) :
    Calls Tryz.prog 9 #[.string b, .int .i64 n, .slice ao N cap] w fun e w' => e = .returned (.bool true) ∧ Below w.heap.size w w' := by
  have HL := Lib.hid (lives3_any w htab)
  clear htab
  go_enter Tryz.func9, Tryz.ntmps9
  go_wp2_with fail
  refine HL.out.mono ?_
  rintro e w1 ⟨rfl, hb1⟩
  have HB := Lib.hid hb1
  clear hb1 HL
  go_wp2_with fail
  go_ret
  exact ⟨rfl, HB.out⟩

set_option maxHeartbeats 6400000 in
set_option maxRecDepth 100000 in
theorem pieces_yes {b : ByteArray} (hb : IsBits b.data.toList) (hbs : ¬ 600 < b.size) {m : Nat} (h1 : 1 ≤ m) (h2 : m ≤ 256) (hd : b.size % m = 0) {ao : Option Addr} {N cap : Nat} {f : Nat → UInt8} (hN : ¬ 32 < N) (hc : N ≤ cap) (hcap : cap ≤ maxLen) (w : World) (hbr : BRow w ao N f) (htab : Tab w) :
    Calls Tryz.prog 9 #[.string b, .int .i64 (m : Int), .slice ao N cap] w fun e w' => e = .returned (.bool true) ∧ Below w.heap.size w w' := by
  have HL := Lib.hid (lives3_any w htab)
  have hN32 : N ≤ 32 := by omega
  have HCU := Lib.hid (fun W => Cut_ok hb (by omega) h1 h2 hd W)
  have HWH := Lib.hid (whole_back h1 hd)
  have hP := np_exact (c := m) (n := b.size) (by omega) hd
  have hP6 : np m b.size ≤ 600 := Nat.le_trans (np_le (by omega)) (by omega)
  have HJN := Lib.hid (fun W ao cap (h : TRow W ao (np m b.size) (fun j => piece b m j)) => Join_ok (cap := cap) W h (by omega) (fun _ _ => piece_bits hb _ _) (fun j _ => by have := piece_size_le b m j; omega))
  rw [whole_back h1 hd] at HJN
  have HSM := Lib.hid (fun W a1 a2 c1 c2 (h : TRow W a1 (np m b.size) (fun j => piece b m j)) (h' : TRow W a2 (np m b.size) (fun j => piece b m j)) => Same_row (c1 := c1) (c2 := c2) h h' (by omega))
  have hPm : ((np m b.size : Nat) : Int) * (m : Int) = ((b.size : Nat) : Int) := by rw [← Int.natCast_mul, hP]
  have HPM := Lib.hid (show wrap64 (((np m b.size : Nat) : Int) * (m : Int)) = ((b.size : Nat) : Int) by rw [hPm]; unfold wrap64; omega)
  generalize np m b.size = P at *
  clear htab hb hd hP hPm
  go_enter Tryz.func9, Tryz.ntmps9
  go_wp2_with fail
  refine HL.out.mono ?_
  rintro e w1 ⟨rfl, hb1⟩
  have HB := Lib.hid hb1
  clear hb1 HL
  go_wp2_with fail
  refine (HCU.out _).mono ?_
  rintro e w2 ⟨v, rfl, hs, hb2⟩
  obtain ⟨l1, k1, rfl, ht1, _⟩ := hs.trow
  have HT1 := Lib.hid ht1
  replace HB := Lib.hid (HB.out.trans (hb2.mono HB.out.size))
  clear hs ht1 hb2
  go_wp2_with fail
  refine (HJN.out _ _ _ HT1.out).mono ?_
  rintro e w3 ⟨rfl, hb3⟩
  replace HT1 := Lib.hid (HT1.out.below hb3)
  replace HB := Lib.hid (HB.out.trans (hb3.mono HB.out.size))
  clear hb3 HJN
  go_wp2_with fail
  refine (HCU.out _).mono ?_
  rintro e w4 ⟨v2, rfl, hs, hb4⟩
  obtain ⟨l2, k2, rfl, ht2, _⟩ := hs.trow
  have HT2 := Lib.hid ht2
  replace HT1 := Lib.hid (HT1.out.below hb4)
  replace HB := Lib.hid (HB.out.trans (hb4.mono HB.out.size))
  clear hs ht2 hb4 HCU
  go_wp2_with fail
  refine (HSM.out _ _ _ _ _ HT2.out HT1.out).mono ?_
  rintro e w9 ⟨rfl, hb9⟩
  replace HB := Lib.hid (HB.out.trans (hb9.mono HB.out.size))
  have hpm : (wrap64 ((P : Int) * (m : Int)) != ((b.size : Nat) : Int)) = false := by rw [HPM.out]; simp
  clear hb9 HSM HT1 HT2
  go_wp2_with fail
  clear hpm

  have HBR := Lib.hid (fun W (h : Below w.heap.size w W) => hbr.below h)
  have HCAP := Lib.hid (And.intro hc hcap)
  clear hbr hcap
  obtain ⟨i0, hi, hz0, hz1, hz2⟩ := info_parts infoBits
  have HN32 := Lib.hid hN32
  clear hN32 hN hbs
  go_loopw [14, 13] (fun i ev wr => ∃ k : Nat, k ≤ N ∧ i = .int .i64 (k : Int) ∧ wr.ownsRow w.heap.size 38 1 ev k (eachL f k) ∧ Below w.heap.size w wr) (fun i _ _ => N - (intOf i).toNat)
  case atStart => exact ⟨0, Nat.zero_le _, rfl, World.ownsRow_nil _ _ _ _, HB.out⟩
  case round =>
    obtain ⟨k, hk, rfl, hrow, hb⟩ := hrel
    clear HB
    by_cases hlt : k < N
    · rcases HBR.out _ hb with h0 | ⟨a, rfl, ha, hcell⟩
      · omega
      have hcc := HCAP.out
      unfold maxLen at hcc
      have HO := Lib.hid (fun c (h1 : 1 ≤ c) (h2 : c ≤ maxLen) => one_byte (c := c) wr hcell ha hlt h1 h2)
      have HROW := Lib.hid hrow
      have HB := Lib.hid hb
      obtain ⟨eo, em, ec, rfl⟩ := slice_of_row hrow
      clear hrow hb hcell ha HBR
      have hcc1 := hcc.1
      have hcc2 := hcc.2
      clear hcc
      go_wp2_with fail
      refine (HO.out _ (by omega) (by unfold maxLen; omega)).mono ?_
      rintro e w5 ⟨rfl, hb5⟩
      have hrow5 := row_below HROW.out hb5
      have hb6 := HB.out.trans (hb5.mono HB.out.size)
      have hsz8 : (((wstr (f k).toNat 8).size : Nat) : Int) = 8 := by rw [wstr_sizeB]; rfl
      clear HO HB hb5
      generalize hT : wstr (f k).toNat 8 = T at hsz8 ⊢
      go_wp2_with (at_builtin; refine wpList_append_own _ rfl _ _ 41 rfl w.heap.size 38 i0 (.string ⟨#[]⟩) 1 16 Tryz.underlying41 hi hz0 hz1 hz2 rfl (by decide) _ _ _ rfl (hrow5.alloc _) ⟨w5.heap.size, 0, none⟩ 1 1 [.string T] rfl rfl ?c1 ?c2 ?c3 ?c4 ?c5 ?_)
      case c1 =>
        intro j u hj
        match j, hj with
        | 0, hj => simp at hj; subst hj; simp [Addr.add]
      case c2 => intro u hu; simp at hu; subst hu; rfl
      case c3 => unfold maxLen; have := HN32.out; omega
      case c4 => have := HN32.out; omega
      case c5 => have := hb6.size; simp; omega
      intro v' w6 hown' hgrow _
      have hlt5 := hrow5.lt
      have HF := Lib.hid (And.intro hown' ((hb6.alloc hb6.size _).grown hgrow (by have := hb6.size; simp; omega) (fun q hq => (hlt5 q hq).1)))
      obtain ⟨ao', m', c', rfl⟩ := slice_of_row hown'
      clear hown' hgrow hlt5 hrow5 hb6 HROW
      go_wp2_with fail
      go_roundw
      case rel => exact ⟨k + 1, by omega, by go_num, by rw [eachL_succ, hT]; exact HF.out.1, HF.out.2⟩
      case measure => simp [intOf]; omega
    · obtain rfl : k = N := by omega
      have hs := SRow.of_row (f := fun j => wstr (f j).toNat 8) hrow (fun j hj => eachL_get hj)
      obtain ⟨eo, ec, rfl, ht, _⟩ := hs.trow
      have hab := fun W (h : Below w.heap.size w W) => all_bytes W (HBR.out W h) HCAP.out.1 HCAP.out.2 HN32.out
      have HAB := Lib.hid hab
      have HJ := Lib.hid (fun W (h : Below wr.heap.size wr W) => Join_ok (cap := ec) W (ht.below h) (by have := HN32.out; omega) (fun _ _ => by rw [wstr_listB]; exact wbits_bits _ _) (fun _ _ => by rw [wstr_sizeB]; omega))
      rw [each_join] at HJ
      have HB := Lib.hid hb
      generalize (⟨(byb f k).toArray⟩ : ByteArray) = T at HAB HJ
      clear hrow hb hs ht hab HBR
      go_wp2_with fail
      refine (HAB.out _ HB.out).mono ?_
      rintro e w7 ⟨rfl, hb7⟩
      have HB7 := Lib.hid (And.intro hb7 (HB.out.trans (hb7.mono HB.out.size)))
      clear hb7 HAB
      go_wp2_with fail
      refine (HJ.out _ HB7.out.1).mono ?_
      rintro e w8 ⟨rfl, hb8⟩
      have HB8 := Lib.hid (HB7.out.2.trans (hb8.mono HB7.out.2.size))
      clear hb8 HJ HB7
      go_wp2_with fail
      go_ret
      exact ⟨ret_bool (by simp), HB8.out⟩

set_option maxHeartbeats 6400000 in
set_option maxRecDepth 100000 in
theorem pieces_no {b : ByteArray} (hbs : ¬ 600 < b.size) {n : Int} (hE : cutE b n ≠ 0) {ao : Option Addr} {N cap : Nat} {f : Nat → UInt8} (hN : ¬ 32 < N) (hc : N ≤ cap) (hcap : cap ≤ maxLen) (w : World) (hbr : BRow w ao N f) (htab : Tab w) :
    Calls Tryz.prog 9 #[.string b, .int .i64 n, .slice ao N cap] w fun e w' => e = .returned (.bool true) ∧ Below w.heap.size w w' := by
  have HL := Lib.hid (lives3_any w htab)
  have hN32 : N ≤ 32 := by omega
  have HCU := Lib.hid (fun W => Cut_no b n (by omega) hE W)
  have hne : (((cutE b n : Nat) : Int) == 0) = false := by rw [beq_eq_false_iff_ne]; omega
  generalize cutE b n = c at *
  clear htab hE
  go_enter Tryz.func9, Tryz.ntmps9
  go_wp2_with fail
  refine HL.out.mono ?_
  rintro e w1 ⟨rfl, hb1⟩
  have HB := Lib.hid hb1
  clear hb1 HL
  go_wp2_with fail
  refine (HCU.out _).mono ?_
  rintro e w2 ⟨rfl, rfl⟩
  clear HCU
  go_wp2_with fail

  have HBR := Lib.hid (fun W (h : Below w.heap.size w W) => hbr.below h)
  have HCAP := Lib.hid (And.intro hc hcap)
  clear hbr hcap
  obtain ⟨i0, hi, hz0, hz1, hz2⟩ := info_parts infoBits
  have HN32 := Lib.hid hN32
  clear hN32 hN hbs
  go_loopw [14, 13] (fun i ev wr => ∃ k : Nat, k ≤ N ∧ i = .int .i64 (k : Int) ∧ wr.ownsRow w.heap.size 38 1 ev k (eachL f k) ∧ Below w.heap.size w wr) (fun i _ _ => N - (intOf i).toNat)
  case atStart => exact ⟨0, Nat.zero_le _, rfl, World.ownsRow_nil _ _ _ _, HB.out⟩
  case round =>
    obtain ⟨k, hk, rfl, hrow, hb⟩ := hrel
    clear HB
    by_cases hlt : k < N
    · rcases HBR.out _ hb with h0 | ⟨a, rfl, ha, hcell⟩
      · omega
      have hcc := HCAP.out
      unfold maxLen at hcc
      have HO := Lib.hid (fun c (h1 : 1 ≤ c) (h2 : c ≤ maxLen) => one_byte (c := c) wr hcell ha hlt h1 h2)
      have HROW := Lib.hid hrow
      have HB := Lib.hid hb
      obtain ⟨eo, em, ec, rfl⟩ := slice_of_row hrow
      clear hrow hb hcell ha HBR
      have hcc1 := hcc.1
      have hcc2 := hcc.2
      clear hcc
      go_wp2_with fail
      refine (HO.out _ (by omega) (by unfold maxLen; omega)).mono ?_
      rintro e w5 ⟨rfl, hb5⟩
      have hrow5 := row_below HROW.out hb5
      have hb6 := HB.out.trans (hb5.mono HB.out.size)
      have hsz8 : (((wstr (f k).toNat 8).size : Nat) : Int) = 8 := by rw [wstr_sizeB]; rfl
      clear HO HB hb5
      generalize hT : wstr (f k).toNat 8 = T at hsz8 ⊢
      go_wp2_with (at_builtin; refine wpList_append_own _ rfl _ _ 41 rfl w.heap.size 38 i0 (.string ⟨#[]⟩) 1 16 Tryz.underlying41 hi hz0 hz1 hz2 rfl (by decide) _ _ _ rfl (hrow5.alloc _) ⟨w5.heap.size, 0, none⟩ 1 1 [.string T] rfl rfl ?c1 ?c2 ?c3 ?c4 ?c5 ?_)
      case c1 =>
        intro j u hj
        match j, hj with
        | 0, hj => simp at hj; subst hj; simp [Addr.add]
      case c2 => intro u hu; simp at hu; subst hu; rfl
      case c3 => unfold maxLen; have := HN32.out; omega
      case c4 => have := HN32.out; omega
      case c5 => have := hb6.size; simp; omega
      intro v' w6 hown' hgrow _
      have hlt5 := hrow5.lt
      have HF := Lib.hid (And.intro hown' ((hb6.alloc hb6.size _).grown hgrow (by have := hb6.size; simp; omega) (fun q hq => (hlt5 q hq).1)))
      obtain ⟨ao', m', c', rfl⟩ := slice_of_row hown'
      clear hown' hgrow hlt5 hrow5 hb6 HROW
      go_wp2_with fail
      go_roundw
      case rel => exact ⟨k + 1, by omega, by go_num, by rw [eachL_succ, hT]; exact HF.out.1, HF.out.2⟩
      case measure => simp [intOf]; omega
    · obtain rfl : k = N := by omega
      have hs := SRow.of_row (f := fun j => wstr (f j).toNat 8) hrow (fun j hj => eachL_get hj)
      obtain ⟨eo, ec, rfl, ht, _⟩ := hs.trow
      have hab := fun W (h : Below w.heap.size w W) => all_bytes W (HBR.out W h) HCAP.out.1 HCAP.out.2 HN32.out
      have HAB := Lib.hid hab
      have HJ := Lib.hid (fun W (h : Below wr.heap.size wr W) => Join_ok (cap := ec) W (ht.below h) (by have := HN32.out; omega) (fun _ _ => by rw [wstr_listB]; exact wbits_bits _ _) (fun _ _ => by rw [wstr_sizeB]; omega))
      rw [each_join] at HJ
      have HB := Lib.hid hb
      generalize (⟨(byb f k).toArray⟩ : ByteArray) = T at HAB HJ
      clear hrow hb hs ht hab HBR
      go_wp2_with fail
      refine (HAB.out _ HB.out).mono ?_
      rintro e w7 ⟨rfl, hb7⟩
      have HB7 := Lib.hid (And.intro hb7 (HB.out.trans (hb7.mono HB.out.size)))
      clear hb7 HAB
      go_wp2_with fail
      refine (HJ.out _ HB7.out.1).mono ?_
      rintro e w8 ⟨rfl, hb8⟩
      have HB8 := Lib.hid (HB7.out.2.trans (hb8.mono HB7.out.2.size))
      clear hb8 HJ HB7
      go_wp2_with fail
      go_ret
      exact ⟨ret_bool (by simp), HB8.out⟩

theorem pieces_any_law (b : ByteArray) (n : Int) {ao : Option Addr} {N cap : Nat} {f : Nat → UInt8} (hc : N ≤ cap) (hcap : cap ≤ maxLen) (w : World) (hbr : BRow w ao N f) (htab : Tab w) :
    Calls Tryz.prog 9 #[.string b, .int .i64 n, .slice ao N cap] w fun e w' => e = .returned (.bool true) ∧ Below w.heap.size w w' := by
  by_cases h1 : 600 < b.size
  · exact pieces_long1 b n h1 w htab
  · by_cases h2 : 32 < N
    · exact pieces_long2 b n h1 h2 w htab
    · by_cases hE : cutE b n = 0
      · obtain ⟨g1, g2, g3, g4⟩ := cutE_ok hE
        obtain ⟨m, rfl⟩ : ∃ m : Nat, n = (m : Int) := ⟨n.toNat, by omega⟩
        exact pieces_yes g1 h1 (by omega) (by omega) (by simpa using g4) h2 hc hcap w hbr htab
      · exact pieces_no h1 hE h2 hc hcap w hbr htab

end Go.Proofs.YtgeohcpmoleocaaGreatDoor
