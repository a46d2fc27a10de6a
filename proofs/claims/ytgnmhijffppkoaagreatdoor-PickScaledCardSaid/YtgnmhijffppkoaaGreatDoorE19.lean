/-
  PickScaled returns true for any weights, text, bits and ints.
-/
import Derived.Test.YtgnmhijffppkoaaGreatDoorEE
namespace Go.Proofs.YtgnmhijffppkoaaGreatDoor
open Go.RowKit NV
open Go.Lib (decDigits)

set_option maxHeartbeats 6400000 in
set_option maxRecDepth 100000 in
theorem scaled_far1 {ao : Option Addr} {N cap : Nat} {f : Nat → ByteArray} {fac b : ByteArray} {n many : Int} {w : World} (h : PRow w ao N f) (hN : N ≤ 9223372036854775807) (htab : Tab w) (hl : wLong f N = true) :
    Calls Tryz.prog 9 #[.slice ao N cap, .string fac, .string b, .int .i64 n, .int .i64 many] w fun e w' => e = .returned (.bool true) ∧ Below w.heap.size w w' := by
  have HL := Lib.hid (lives5_any w htab)
  have hlg := fun W (hb : Below w.heap.size w W) => long_any (cap := cap) (h.below hb) hN
  rw [hl] at hlg
  have HLG := Lib.hid hlg
  clear h hN htab hlg hl
  go_enter Tryz.func9, Tryz.ntmps9
  go_wp2_with fail
  refine HL.out.mono ?_
  rintro e w1 ⟨rfl, hb⟩
  have HB := Lib.hid hb
  clear hb HL
  go_wp2_with fail
  refine (HLG.out _ HB.out).mono ?_
  rintro e w2 ⟨rfl, rfl⟩
  clear HLG
  go_wp2_with fail
  go_ret
  exact ⟨rfl, HB.out⟩

set_option maxHeartbeats 6400000 in
set_option maxRecDepth 100000 in
theorem scaled_far2 {ao : Option Addr} {N cap : Nat} {f : Nat → ByteArray} {fac b : ByteArray} {n many : Int} {w : World} (h : PRow w ao N f) (hN : N ≤ 9223372036854775807) (htab : Tab w) (hl : wLong f N = false) (h2 : 100 < fac.size) :
    Calls Tryz.prog 9 #[.slice ao N cap, .string fac, .string b, .int .i64 n, .int .i64 many] w fun e w' => e = .returned (.bool true) ∧ Below w.heap.size w w' := by
  have HL := Lib.hid (lives5_any w htab)
  have hlg := fun W (hb : Below w.heap.size w W) => long_any (cap := cap) (h.below hb) hN
  rw [hl] at hlg
  have HLG := Lib.hid hlg
  have h2' : (100 : Int) < (fac.size : Int) := by omega
  clear h hN htab hlg hl h2
  go_enter Tryz.func9, Tryz.ntmps9
  go_wp2_with fail
  refine HL.out.mono ?_
  rintro e w1 ⟨rfl, hb⟩
  have HB := Lib.hid hb
  clear hb HL
  go_wp2_with fail
  refine (HLG.out _ HB.out).mono ?_
  rintro e w2 ⟨rfl, rfl⟩
  clear HLG
  go_wp2_with fail
  go_ret
  exact ⟨rfl, HB.out⟩

set_option maxHeartbeats 6400000 in
set_option maxRecDepth 100000 in
theorem scaled_far3 {ao : Option Addr} {N cap : Nat} {f : Nat → ByteArray} {fac b : ByteArray} {n many : Int} {w : World} (h : PRow w ao N f) (hN : N ≤ 9223372036854775807) (htab : Tab w) (hl : wLong f N = false) (h2 : ¬ 100 < fac.size) (h3 : 100 < b.size) :
    Calls Tryz.prog 9 #[.slice ao N cap, .string fac, .string b, .int .i64 n, .int .i64 many] w fun e w' => e = .returned (.bool true) ∧ Below w.heap.size w w' := by
  have HL := Lib.hid (lives5_any w htab)
  have hlg := fun W (hb : Below w.heap.size w W) => long_any (cap := cap) (h.below hb) hN
  rw [hl] at hlg
  have HLG := Lib.hid hlg
  have h2' : ¬ (100 : Int) < (fac.size : Int) := by omega
  have h3' : (100 : Int) < (b.size : Int) := by omega
  clear h hN htab hlg hl h2 h3
  go_enter Tryz.func9, Tryz.ntmps9
  go_wp2_with fail
  refine HL.out.mono ?_
  rintro e w1 ⟨rfl, hb⟩
  have HB := Lib.hid hb
  clear hb HL
  go_wp2_with fail
  refine (HLG.out _ HB.out).mono ?_
  rintro e w2 ⟨rfl, rfl⟩
  clear HLG
  go_wp2_with fail
  go_ret
  exact ⟨rfl, HB.out⟩

set_option maxHeartbeats 6400000 in
set_option maxRecDepth 100000 in
theorem scaled_far4 {ao : Option Addr} {N cap : Nat} {f : Nat → ByteArray} {fac b : ByteArray} {n many : Int} {w : World} (h : PRow w ao N f) (hN : N ≤ 9223372036854775807) (htab : Tab w) (hl : wLong f N = false) (h2 : ¬ 100 < fac.size) (h3 : ¬ 100 < b.size) (h4 : n < 0) :
    Calls Tryz.prog 9 #[.slice ao N cap, .string fac, .string b, .int .i64 n, .int .i64 many] w fun e w' => e = .returned (.bool true) ∧ Below w.heap.size w w' := by
  have HL := Lib.hid (lives5_any w htab)
  have hlg := fun W (hb : Below w.heap.size w W) => long_any (cap := cap) (h.below hb) hN
  rw [hl] at hlg
  have HLG := Lib.hid hlg
  have h2' : ¬ (100 : Int) < (fac.size : Int) := by omega
  have h3' : ¬ (100 : Int) < (b.size : Int) := by omega
  clear h hN htab hlg hl h2 h3
  go_enter Tryz.func9, Tryz.ntmps9
  go_wp2_with fail
  refine HL.out.mono ?_
  rintro e w1 ⟨rfl, hb⟩
  have HB := Lib.hid hb
  clear hb HL
  go_wp2_with fail
  refine (HLG.out _ HB.out).mono ?_
  rintro e w2 ⟨rfl, rfl⟩
  clear HLG
  go_wp2_with fail
  go_ret
  exact ⟨rfl, HB.out⟩

set_option maxHeartbeats 6400000 in
set_option maxRecDepth 100000 in
theorem scaled_far5 {ao : Option Addr} {N cap : Nat} {f : Nat → ByteArray} {fac b : ByteArray} {n many : Int} {w : World} (h : PRow w ao N f) (hN : N ≤ 9223372036854775807) (htab : Tab w) (hl : wLong f N = false) (h2 : ¬ 100 < fac.size) (h3 : ¬ 100 < b.size) (h4 : ¬ n < 0) (h5 : 40 < n) :
    Calls Tryz.prog 9 #[.slice ao N cap, .string fac, .string b, .int .i64 n, .int .i64 many] w fun e w' => e = .returned (.bool true) ∧ Below w.heap.size w w' := by
  have HL := Lib.hid (lives5_any w htab)
  have hlg := fun W (hb : Below w.heap.size w W) => long_any (cap := cap) (h.below hb) hN
  rw [hl] at hlg
  have HLG := Lib.hid hlg
  have h2' : ¬ (100 : Int) < (fac.size : Int) := by omega
  have h3' : ¬ (100 : Int) < (b.size : Int) := by omega
  clear h hN htab hlg hl h2 h3
  go_enter Tryz.func9, Tryz.ntmps9
  go_wp2_with fail
  refine HL.out.mono ?_
  rintro e w1 ⟨rfl, hb⟩
  have HB := Lib.hid hb
  clear hb HL
  go_wp2_with fail
  refine (HLG.out _ HB.out).mono ?_
  rintro e w2 ⟨rfl, rfl⟩
  clear HLG
  go_wp2_with fail
  go_ret
  exact ⟨rfl, HB.out⟩

/-- N weights 1 draw what Below draws. -/
theorem ones_both {N1 : Nat} {b : ByteArray} (h1 : 1 ≤ N1) (h2 : N1 ≤ 64) (hbs : b.size ≤ 100) : ∃ (d : Bool) (v u e : Int),
    (∀ W ao cap f1, PRow W ao N1 f1 → (∀ j, j < N1 → f1 j = ⟨#[49]⟩) → Tab W → PDraws ao N1 cap b d v u e W) ∧ (∀ W, Tab W → PBelow (N1 : Int) b d v u e W) := by
  by_cases hc : schk b = 0
  · have hb : IsBits b.data.toList := by
      rcases Classical.em (IsBits b.data.toList) with h | h
      · exact h
      · unfold schk at hc; rw [bchk_no h, if_pos (by omega)] at hc; omega
    obtain ⟨d, v, u, hT⟩ := pick_ex (f := fun i => i) (m := N1) b.data.toList
    refine ⟨d, (v : Int), (u : Int), 0, fun W ao cap f1 hr hf ht => ?_, fun W ht => pBelow_ok h1 (by omega) ht hb (by omega) hT⟩
    obtain ⟨hw, hs⟩ := ones_ok h1 h2 hf
    exact pDraw_ok hr hw ht hb (by omega) (pick_congr hs hT)
  · exact ⟨false, 0, 0, _, fun W ao cap f1 hr hf ht => pDraw_b hr (ones_ok h1 h2 hf).1 ht hc (by omega), fun W ht => pBelow_b h1 (by omega) hc (by omega)⟩

set_option maxHeartbeats 6400000 in
set_option maxRecDepth 100000 in
theorem scaled_fac {ao : Option Addr} {N cap : Nat} {f : Nat → ByteArray} {fac b : ByteArray} {n many : Int} {w : World} (h : PRow w ao N f) (hN : N ≤ 9223372036854775807) (htab : Tab w) (hl : wLong f N = false) (h2 : ¬ 100 < fac.size) (h3 : ¬ 100 < b.size) (h4 : ¬ n < 0) (h5 : ¬ 40 < n) (m0 : -9223372036854775808 ≤ many) (m1 : many ≤ 9223372036854775807) (hf : chk fac.data.toList ≠ 0) :
    Calls Tryz.prog 9 #[.slice ao N cap, .string fac, .string b, .int .i64 n, .int .i64 many] w fun e w' => e = .returned (.bool true) ∧ Below w.heap.size w w' := by
  have HL := Lib.hid (lives5_any w htab)
  have hlg := fun W (hb : Below w.heap.size w W) => long_any (cap := cap) (h.below hb) hN
  rw [hl] at hlg
  have HLG := Lib.hid hlg
  obtain ⟨i0, hi, hz0, hz1, hz2⟩ := info_parts infoNum
  have HPK := Lib.hid (fun W => kPick_any many 64 (by omega) (by omega) m0 m1 W)
  have h2' : ¬ (100 : Int) < (fac.size : Int) := by omega
  have h3' : ¬ (100 : Int) < (b.size : Int) := by omega
  have HTAB := Lib.hid (fun W (hb : Below w.heap.size w W) => htab.below hb)
  have HCK := Lib.hid (fun W => refcheck_any fac W (by omega))
  have hfe := errneP hf
  generalize chk fac.data.toList = cf at *
  clear hlg hl m0 m1 h hN htab hf
  go_enter Tryz.func9, Tryz.ntmps9
  go_wp2_with fail
  refine HL.out.mono ?_
  rintro e w1 ⟨rfl, hb⟩
  have HB := Lib.hid hb
  clear hb HL
  go_wp2_with fail
  refine (HLG.out _ HB.out).mono ?_
  rintro e w2 ⟨rfl, rfl⟩
  clear HLG
  go_wp2_with fail
  refine (HPK.out _).mono ?_
  rintro e w3 ⟨⟨r, hr, rfl⟩, rfl⟩
  clear HPK
  obtain ⟨N1, hN1⟩ : ∃ N1, N1 = r + 1 := ⟨_, rfl⟩
  have HN1 := Lib.hid (show 1 ≤ N1 ∧ N1 ≤ 64 by omega)
  have hr2 : r < 64 := by omega
  have HRN := Lib.hid (show (1 : Int) + (r : Int) = (N1 : Int) by omega)
  clear hr hN1
  go_wp2_with fail
  rw [HRN.out]
  clear hr2
  have hb64 : N1 ≤ 64 := HN1.out.2
  obtain ⟨w4, hrun, hown, hgrow⟩ := run_make_full (P := Tryz.prog) w1 w1.heap.size 56 23 i0 (.string ⟨#[]⟩) 1 Tryz.underlying56 hi hz0 hz1 .i64 .i64 N1 (by rw [hz2]; omega) (by unfold maxLen; omega) (Nat.le_refl _)
  rw [hrun]
  simp only [Result.andThen]
  rw [Oper.upon_value]
  have HAR := Lib.hid (And.intro (NArr.made (base := w1.heap.size) hown) ((Below.refl w1.heap.size w1).grown hgrow (Nat.le_refl _) (fun k hk => by cases hk)))
  clear hrun hown hgrow HRN
  go_wp2_with fail
  go_loopw [12] (fun iv wr => ∃ (k : Nat) (f1 : Nat → ByteArray), k ≤ N1 ∧ iv = .int .i64 (k : Int) ∧ NArr wr w1.heap.size N1 f1 ∧ Hid (∀ j, j < k → f1 j = ⟨#[49]⟩) ∧ Below w1.heap.size w1 wr) (fun iv _ => N1 - (intOf iv).toNat)
  case atStart => exact ⟨0, _, Nat.zero_le _, rfl, HAR.out.1, Lib.hid (fun j hj => absurd hj (Nat.not_lt_zero _)), HAR.out.2⟩
  case round =>
    obtain ⟨k, f1, hk, rfl, har, HF1, hbr⟩ := hrel
    clear HAR
    by_cases hlt : k < N1
    · have c0 := har.cell hlt
      have f0 := har.free k
      have HS := Lib.hid (And.intro (har.store k ⟨#[49]⟩) (hbr.setCell (p := ⟨w1.heap.size, k, none⟩) (Nat.le_refl _) (.string ⟨#[49]⟩)))
      clear har hbr
      go_wp2_with fail
      go_roundw
      case rel => exact ⟨k + 1, _, by omega, by go_num, HS.out.1, Lib.hid (fun j hj => by
        by_cases e : j = k
        · show (if j = k then (⟨#[49]⟩ : ByteArray) else f1 j) = _
          rw [if_pos e]
        · show (if j = k then (⟨#[49]⟩ : ByteArray) else f1 j) = _
          rw [if_neg e]; exact HF1.out j (by omega)), HS.out.2⟩
      case measure => simp [intOf]; omega
    · obtain rfl : k = N1 := by omega
      obtain ⟨d, v, u, c, hD, hBe⟩ := ones_both (b := b) HN1.out.1 HN1.out.2 (by omega)
      have HB5 := Lib.hid (HB.out.trans (hbr.mono HB.out.size))
      have HD := Lib.hid (hD _ _ k f1 har.prow HF1.out (HTAB.out _ HB5.out))
      have HBE := Lib.hid (fun W (hb : Below w.heap.size w W) => hBe W (HTAB.out W hb))
      clear hD hBe har hbr HF1 HB hb64
      obtain ⟨wm, rfl⟩ : ∃ wm, wm = wr := ⟨_, rfl⟩
      go_wp2_with fail
      refine HD.out.mono ?_
      rintro e w5 ⟨rfl, hb⟩
      have HB6 := Lib.hid (HB5.out.trans ((hb.alloc hb.size (drO d v u)).mono HB5.out.size))
      have HR1 := Lib.hid (DR.new w5 d v u)
      clear hb HD HB5
      go_wp2_with fail
      refine (HBE.out _ HB6.out).mono ?_
      rintro e w6 ⟨rfl, hb⟩
      obtain ⟨c0, c1, c2⟩ := (HR1.out.below (hb.alloc hb.size (drO d v u))).c
      obtain ⟨d0, d1, d2⟩ := (DR.new w6 d v u).c
      have HB7 := Lib.hid (HB6.out.trans ((hb.alloc hb.size (drO d v u)).mono HB6.out.size))
      have hne := neq_dr d d v u v u
      rw [show (!(d == d && (v == v && u == u))) = false by simp] at hne
      clear hb HBE HR1 HB6
      go_wp2_with fail
      refine (HCK.out _).mono ?_
      rintro e w7 ⟨rfl, rfl⟩
      go_wp2_with fail
      go_ret
      exact ⟨rfl, HB7.out⟩

set_option maxHeartbeats 6400000 in
set_option maxRecDepth 100000 in
theorem scaled_zero {ao : Option Addr} {N cap : Nat} {f : Nat → ByteArray} {fac b : ByteArray} {n many : Int} {w : World} (h : PRow w ao N f) (hN : N ≤ 9223372036854775807) (htab : Tab w) (hl : wLong f N = false) (h2 : ¬ 100 < fac.size) (h3 : ¬ 100 < b.size) (h4 : ¬ n < 0) (h5 : ¬ 40 < n) (m0 : -9223372036854775808 ≤ many) (m1 : many ≤ 9223372036854775807) (hf : chk fac.data.toList = 0) (hf0 : (fac.toList == [48]) = true) :
    Calls Tryz.prog 9 #[.slice ao N cap, .string fac, .string b, .int .i64 n, .int .i64 many] w fun e w' => e = .returned (.bool true) ∧ Below w.heap.size w w' := by
  have HL := Lib.hid (lives5_any w htab)
  have hlg := fun W (hb : Below w.heap.size w W) => long_any (cap := cap) (h.below hb) hN
  rw [hl] at hlg
  have HLG := Lib.hid hlg
  obtain ⟨i0, hi, hz0, hz1, hz2⟩ := info_parts infoNum
  have HPK := Lib.hid (fun W => kPick_any many 64 (by omega) (by omega) m0 m1 W)
  have h2' : ¬ (100 : Int) < (fac.size : Int) := by omega
  have h3' : ¬ (100 : Int) < (b.size : Int) := by omega
  have HTAB := Lib.hid (fun W (hb : Below w.heap.size w W) => htab.below hb)
  have hck := fun W => refcheck_any fac W (by omega)
  rw [hf] at hck
  have HCK := Lib.hid hck
  clear hlg hl m0 m1 h hN htab hf hck
  go_enter Tryz.func9, Tryz.ntmps9
  go_wp2_with fail
  refine HL.out.mono ?_
  rintro e w1 ⟨rfl, hb⟩
  have HB := Lib.hid hb
  clear hb HL
  go_wp2_with fail
  refine (HLG.out _ HB.out).mono ?_
  rintro e w2 ⟨rfl, rfl⟩
  clear HLG
  go_wp2_with fail
  refine (HPK.out _).mono ?_
  rintro e w3 ⟨⟨r, hr, rfl⟩, rfl⟩
  clear HPK
  obtain ⟨N1, hN1⟩ : ∃ N1, N1 = r + 1 := ⟨_, rfl⟩
  have HN1 := Lib.hid (show 1 ≤ N1 ∧ N1 ≤ 64 by omega)
  have hr2 : r < 64 := by omega
  have HRN := Lib.hid (show (1 : Int) + (r : Int) = (N1 : Int) by omega)
  clear hr hN1
  go_wp2_with fail
  rw [HRN.out]
  clear hr2
  have hb64 : N1 ≤ 64 := HN1.out.2
  obtain ⟨w4, hrun, hown, hgrow⟩ := run_make_full (P := Tryz.prog) w1 w1.heap.size 56 23 i0 (.string ⟨#[]⟩) 1 Tryz.underlying56 hi hz0 hz1 .i64 .i64 N1 (by rw [hz2]; omega) (by unfold maxLen; omega) (Nat.le_refl _)
  rw [hrun]
  simp only [Result.andThen]
  rw [Oper.upon_value]
  have HAR := Lib.hid (And.intro (NArr.made (base := w1.heap.size) hown) ((Below.refl w1.heap.size w1).grown hgrow (Nat.le_refl _) (fun k hk => by cases hk)))
  clear hrun hown hgrow HRN
  go_wp2_with fail
  go_loopw [12] (fun iv wr => ∃ (k : Nat) (f1 : Nat → ByteArray), k ≤ N1 ∧ iv = .int .i64 (k : Int) ∧ NArr wr w1.heap.size N1 f1 ∧ Hid (∀ j, j < k → f1 j = ⟨#[49]⟩) ∧ Below w1.heap.size w1 wr) (fun iv _ => N1 - (intOf iv).toNat)
  case atStart => exact ⟨0, _, Nat.zero_le _, rfl, HAR.out.1, Lib.hid (fun j hj => absurd hj (Nat.not_lt_zero _)), HAR.out.2⟩
  case round =>
    obtain ⟨k, f1, hk, rfl, har, HF1, hbr⟩ := hrel
    clear HAR
    by_cases hlt : k < N1
    · have c0 := har.cell hlt
      have f0 := har.free k
      have HS := Lib.hid (And.intro (har.store k ⟨#[49]⟩) (hbr.setCell (p := ⟨w1.heap.size, k, none⟩) (Nat.le_refl _) (.string ⟨#[49]⟩)))
      clear har hbr
      go_wp2_with fail
      go_roundw
      case rel => exact ⟨k + 1, _, by omega, by go_num, HS.out.1, Lib.hid (fun j hj => by
        by_cases e : j = k
        · show (if j = k then (⟨#[49]⟩ : ByteArray) else f1 j) = _
          rw [if_pos e]
        · show (if j = k then (⟨#[49]⟩ : ByteArray) else f1 j) = _
          rw [if_neg e]; exact HF1.out j (by omega)), HS.out.2⟩
      case measure => simp [intOf]; omega
    · obtain rfl : k = N1 := by omega
      obtain ⟨d, v, u, c, hD, hBe⟩ := ones_both (b := b) HN1.out.1 HN1.out.2 (by omega)
      have HB5 := Lib.hid (HB.out.trans (hbr.mono HB.out.size))
      have HD := Lib.hid (hD _ _ k f1 har.prow HF1.out (HTAB.out _ HB5.out))
      have HBE := Lib.hid (fun W (hb : Below w.heap.size w W) => hBe W (HTAB.out W hb))
      clear hD hBe har hbr HF1 HB hb64
      obtain ⟨wm, rfl⟩ : ∃ wm, wm = wr := ⟨_, rfl⟩
      go_wp2_with fail
      refine HD.out.mono ?_
      rintro e w5 ⟨rfl, hb⟩
      have HB6 := Lib.hid (HB5.out.trans ((hb.alloc hb.size (drO d v u)).mono HB5.out.size))
      have HR1 := Lib.hid (DR.new w5 d v u)
      clear hb HD HB5
      go_wp2_with fail
      refine (HBE.out _ HB6.out).mono ?_
      rintro e w6 ⟨rfl, hb⟩
      obtain ⟨c0, c1, c2⟩ := (HR1.out.below (hb.alloc hb.size (drO d v u))).c
      obtain ⟨d0, d1, d2⟩ := (DR.new w6 d v u).c
      have HB7 := Lib.hid (HB6.out.trans ((hb.alloc hb.size (drO d v u)).mono HB6.out.size))
      have hne := neq_dr d d v u v u
      rw [show (!(d == d && (v == v && u == u))) = false by simp] at hne
      clear hb HBE HR1 HB6
      go_wp2_with fail
      refine (HCK.out _).mono ?_
      rintro e w7 ⟨rfl, rfl⟩
      go_wp2_with fail
      go_ret
      exact ⟨rfl, HB7.out⟩

set_option maxHeartbeats 6400000 in
set_option maxRecDepth 100000 in
theorem scaled_bad {ao : Option Addr} {N cap : Nat} {f : Nat → ByteArray} {fac b : ByteArray} {n many : Int} {w : World} (h : PRow w ao N f) (hN : N ≤ 9223372036854775807) (htab : Tab w) (hl : wLong f N = false) (h2 : ¬ 100 < fac.size) (h3 : ¬ 100 < b.size) (h4 : ¬ n < 0) (h5 : ¬ 40 < n) (m0 : -9223372036854775808 ≤ many) (m1 : many ≤ 9223372036854775807) (hf : chk fac.data.toList = 0) (hf0 : (fac.toList == [48]) = false) {K : Nat} (hK : K < N) (hval : ∀ j, j < K → chk (f j).data.toList = 0) (hbad : chk (f K).data.toList ≠ 0) :
    Calls Tryz.prog 9 #[.slice ao N cap, .string fac, .string b, .int .i64 n, .int .i64 many] w fun e w' => e = .returned (.bool true) ∧ Below w.heap.size w w' := by
  have HL := Lib.hid (lives5_any w htab)
  have hlg := fun W (hb : Below w.heap.size w W) => long_any (cap := cap) (h.below hb) hN
  rw [hl] at hlg
  have HLG := Lib.hid hlg
  obtain ⟨i0, hi, hz0, hz1, hz2⟩ := info_parts infoNum
  have HPK := Lib.hid (fun W => kPick_any many 64 (by omega) (by omega) m0 m1 W)
  have h2' : ¬ (100 : Int) < (fac.size : Int) := by omega
  have h3' : ¬ (100 : Int) < (b.size : Int) := by omega
  have HTAB := Lib.hid (fun W (hb : Below w.heap.size w W) => htab.below hb)
  have hck := fun W => refcheck_any fac W (by omega)
  rw [hf] at hck
  have HCK := Lib.hid hck
  obtain ⟨hls, hl70⟩ := wLong_no hl
  obtain ⟨hft, ofac⟩ := chk_text hf
  obtain ⟨c1, hc1⟩ : ∃ c1, c1 = dv fac.data.toList := ⟨_, rfl⟩
  have HPR := Lib.hid (fun W (hb : Below w.heap.size w W) => h.below hb)
  rw [← hc1] at hft ofac
  have HMUL := Lib.hid (fun j (hj : j < K) W => (by
    have hv := hval j hj
    obtain ⟨ht, oj⟩ := chk_text hv
    have op : Ok (wN f j * c1) := by rw [hc1]; exact (prod_ok hv (hls j (by omega)) hf (by omega)).1
    have hm := iMul (wN f j) c1 oj ofac W
    rw [outR_yes op] at hm
    rw [ht, hft]; exact hm : Calls Tryz.prog 64 #[.string (f j), .string fac] W fun e w' => e = .returned (.tuple #[.string (dstr (wN f j * c1)), .int .i64 0]) ∧ Below W.heap.size W w'))
  have HBADM := Lib.hid (fun W => iMul_no (s := f K) (t := fac) (by have := hls K hK; omega) (by omega) hbad W)
  clear hlg hl m0 m1 h hN htab hf hck hls hft ofac hc1 hval hbad
  go_enter Tryz.func9, Tryz.ntmps9
  go_wp2_with fail
  refine HL.out.mono ?_
  rintro e w1 ⟨rfl, hb⟩
  have HB := Lib.hid hb
  clear hb HL
  go_wp2_with fail
  refine (HLG.out _ HB.out).mono ?_
  rintro e w2 ⟨rfl, rfl⟩
  clear HLG
  go_wp2_with fail
  refine (HPK.out _).mono ?_
  rintro e w3 ⟨⟨r, hr, rfl⟩, rfl⟩
  clear HPK
  obtain ⟨N1, hN1⟩ : ∃ N1, N1 = r + 1 := ⟨_, rfl⟩
  have HN1 := Lib.hid (show 1 ≤ N1 ∧ N1 ≤ 64 by omega)
  have hr2 : r < 64 := by omega
  have HRN := Lib.hid (show (1 : Int) + (r : Int) = (N1 : Int) by omega)
  clear hr hN1
  go_wp2_with fail
  rw [HRN.out]
  clear hr2
  have hb64 : N1 ≤ 64 := HN1.out.2
  obtain ⟨w4, hrun, hown, hgrow⟩ := run_make_full (P := Tryz.prog) w1 w1.heap.size 56 23 i0 (.string ⟨#[]⟩) 1 Tryz.underlying56 hi hz0 hz1 .i64 .i64 N1 (by rw [hz2]; omega) (by unfold maxLen; omega) (Nat.le_refl _)
  rw [hrun]
  simp only [Result.andThen]
  rw [Oper.upon_value]
  have HAR := Lib.hid (And.intro (NArr.made (base := w1.heap.size) hown) ((Below.refl w1.heap.size w1).grown hgrow (Nat.le_refl _) (fun k hk => by cases hk)))
  clear hrun hown hgrow HRN
  go_wp2_with fail
  go_loopw [12] (fun iv wr => ∃ (k : Nat) (f1 : Nat → ByteArray), k ≤ N1 ∧ iv = .int .i64 (k : Int) ∧ NArr wr w1.heap.size N1 f1 ∧ Hid (∀ j, j < k → f1 j = ⟨#[49]⟩) ∧ Below w1.heap.size w1 wr) (fun iv _ => N1 - (intOf iv).toNat)
  case atStart => exact ⟨0, _, Nat.zero_le _, rfl, HAR.out.1, Lib.hid (fun j hj => absurd hj (Nat.not_lt_zero _)), HAR.out.2⟩
  case round =>
    obtain ⟨k, f1, hk, rfl, har, HF1, hbr⟩ := hrel
    clear HAR
    by_cases hlt : k < N1
    · have c0 := har.cell hlt
      have f0 := har.free k
      have HS := Lib.hid (And.intro (har.store k ⟨#[49]⟩) (hbr.setCell (p := ⟨w1.heap.size, k, none⟩) (Nat.le_refl _) (.string ⟨#[49]⟩)))
      clear har hbr
      go_wp2_with fail
      go_roundw
      case rel => exact ⟨k + 1, _, by omega, by go_num, HS.out.1, Lib.hid (fun j hj => by
        by_cases e : j = k
        · show (if j = k then (⟨#[49]⟩ : ByteArray) else f1 j) = _
          rw [if_pos e]
        · show (if j = k then (⟨#[49]⟩ : ByteArray) else f1 j) = _
          rw [if_neg e]; exact HF1.out j (by omega)), HS.out.2⟩
      case measure => simp [intOf]; omega
    · obtain rfl : k = N1 := by omega
      obtain ⟨d, v, u, c, hD, hBe⟩ := ones_both (b := b) HN1.out.1 HN1.out.2 (by omega)
      have HB5 := Lib.hid (HB.out.trans (hbr.mono HB.out.size))
      have HD := Lib.hid (hD _ _ k f1 har.prow HF1.out (HTAB.out _ HB5.out))
      have HBE := Lib.hid (fun W (hb : Below w.heap.size w W) => hBe W (HTAB.out W hb))
      clear hD hBe har hbr HF1 HB hb64
      have HAR0 := HN1
      obtain ⟨wm, rfl⟩ : ∃ wm, wm = wr := ⟨_, rfl⟩
      go_wp2_with fail
      refine HD.out.mono ?_
      rintro e w5 ⟨rfl, hb⟩
      have HB6 := Lib.hid (HB5.out.trans ((hb.alloc hb.size (drO d v u)).mono HB5.out.size))
      have HR1 := Lib.hid (DR.new w5 d v u)
      clear hb HD HB5
      go_wp2_with fail
      refine (HBE.out _ HB6.out).mono ?_
      rintro e w6 ⟨rfl, hb⟩
      obtain ⟨c0, c1, c2⟩ := (HR1.out.below (hb.alloc hb.size (drO d v u))).c
      obtain ⟨d0, d1, d2⟩ := (DR.new w6 d v u).c
      have HB7 := Lib.hid (HB6.out.trans ((hb.alloc hb.size (drO d v u)).mono HB6.out.size))
      have hne := neq_dr d d v u v u
      rw [show (!(d == d && (v == v && u == u))) = false by simp] at hne
      clear hb HBE HR1 HB6
      go_wp2_with fail
      refine (HCK.out _).mono ?_
      rintro e w7 ⟨rfl, rfl⟩
      clear HCK c0 c1 c2 d0 d1 d2 hne
      go_wp2_with fail
      generalize w6.alloc (drO d v u) = wl at HB7 ⊢
      clear HAR0
      go_loopw [17, 18] (fun mv iv wr => ∃ k : Nat, k ≤ K ∧ iv = .int .i64 (k : Int) ∧ wr.ownsRow wl.heap.size 23 1 mv k (ccells (fun j => wN f j * c1) k) ∧ Below wl.heap.size wl wr) (fun _ iv _ => N - (intOf iv).toNat)
      case atStart => exact ⟨0, Nat.zero_le _, rfl, World.ownsRow_nil _ _ _ _, Below.refl _ _⟩
      case round =>
        obtain ⟨q, hq, rfl, hrow, hb⟩ := hrel
        by_cases hlt : q < K
        · have hqN : (q : Int) < (N : Int) := by omega
          obtain ⟨a, rfl, _, k0⟩ := (HPR.out wr (HB7.out.trans (hb.mono HB7.out.size))).at (show q < N by omega)
          have HM := Lib.hid (HMUL.out q (by omega) wr)
          obtain ⟨vo, vc, rfl, _⟩ := row_shape hrow
          have HR := Lib.hid (And.intro hrow hb)
          have HCC := Lib.hid (ccells_next (fun j => wN f j * c1) q)
          clear hrow hb
          go_wp2_with fail
          refine HM.out.mono ?_
          rintro e w8 ⟨rfl, hb8⟩
          have HR8 := Lib.hid (And.intro (row_belowP HR.out.1 hb8) (HR.out.2.trans (hb8.mono HR.out.2.size)))
          clear hb8 HM HR k0
          generalize dstr (wN f q * c1) = sq at *
          go_wp2_with (at_builtin; refine wpList_append_own _ rfl _ _ 56 rfl wl.heap.size 23 i0 (.string ⟨#[]⟩) 1 16 Tryz.underlying56 hi hz0 hz1 hz2 rfl (by decide) _ _ _ rfl (HR8.out.1.alloc _) ⟨w8.heap.size, 0, none⟩ 1 1 [.string sq] rfl rfl (World.news_of_block (heap_alloc_new _ _)) (fun u hu => by simp at hu; subst hu; rfl) ?c3 ?c4 ?c5 ?_)
          case c3 => unfold maxLen; omega
          case c4 => omega
          case c5 => have := HR8.out.2.size; simp; omega
          intro v' w9 hown' hgrow _
          obtain ⟨ao', c', rfl, _⟩ := row_shape hown'
          have HR9 := Lib.hid (And.intro hown' ((HR8.out.2.alloc HR8.out.2.size _).grown hgrow (by have := HR8.out.2.size; simp; omega) (fun j hj => (HR8.out.1.lt j hj).1)))
          clear hown' hgrow HR8
          go_wp2_with fail
          go_roundw
          case rel => exact ⟨q + 1, by omega, by go_num, by rw [HCC.out]; exact HR9.out.1, HR9.out.2⟩
          case measure => simp [intOf]; omega
        · obtain rfl : q = K := by omega
          obtain ⟨a, rfl, _, k0⟩ := (HPR.out wr (HB7.out.trans (hb.mono HB7.out.size))).at hK
          have HB8 := Lib.hid (HB7.out.trans (hb.mono HB7.out.size))
          obtain ⟨vo, vc, rfl, _⟩ := row_shape hrow
          clear hrow hb
          go_wp2_with fail
          refine (HBADM.out _).mono ?_
          rintro e w8 ⟨⟨cc, hcc, rfl⟩, rfl⟩
          have hne2 := errneP hcc
          clear hcc
          go_wp2_with fail
          go_ret
          exact ⟨rfl, HB8.out⟩

set_option maxHeartbeats 6400000 in
set_option maxRecDepth 100000 in
theorem scaled_yes {ao : Option Addr} {N cap : Nat} {f : Nat → ByteArray} {fac b : ByteArray} {n many : Int} {w : World} (h : PRow w ao N f) (hN : N ≤ 9223372036854775807) (htab : Tab w) (hl : wLong f N = false) (h2 : ¬ 100 < fac.size) (h3 : ¬ 100 < b.size) (h4 : ¬ n < 0) (h5 : ¬ 40 < n) (m0 : -9223372036854775808 ≤ many) (m1 : many ≤ 9223372036854775807) (hf : chk fac.data.toList = 0) (hf0 : (fac.toList == [48]) = false) (hval : ∀ j, j < N → chk (f j).data.toList = 0) {d2 : Bool} {v2 u2 e2 el : Int} {LL : List Item} (hLL : LL.length ≤ 1000)
    (hD1 : ∀ W, Below w.heap.size w W → PDraws ao N cap b d2 v2 u2 e2 W)
    (hD2 : ∀ W ao' cap', Below w.heap.size w W → PRow W ao' N (fun j => dstr (wN f j * dv fac.data.toList)) → PDraws ao' N cap' b d2 v2 u2 e2 W)
    (hL1 : ∀ W, Below w.heap.size w W → Calls Tryz.prog 40 #[.slice ao N cap, .int .i64 n] W fun e w' => ∃ v, e = .returned (.tuple #[v, .int .i64 el]) ∧ w'.ownsRow W.heap.size 54 2 v LL.length (cellsI LL) ∧ Below W.heap.size W w')
    (hL2 : ∀ W ao' cap', Below w.heap.size w W → PRow W ao' N (fun j => dstr (wN f j * dv fac.data.toList)) → Calls Tryz.prog 40 #[.slice ao' N cap', .int .i64 n] W fun e w' => ∃ v, e = .returned (.tuple #[v, .int .i64 el]) ∧ w'.ownsRow W.heap.size 54 2 v LL.length (cellsI LL) ∧ Below W.heap.size W w') :
    Calls Tryz.prog 9 #[.slice ao N cap, .string fac, .string b, .int .i64 n, .int .i64 many] w fun e w' => e = .returned (.bool true) ∧ Below w.heap.size w w' := by
  have HL := Lib.hid (lives5_any w htab)
  have hlg := fun W (hb : Below w.heap.size w W) => long_any (cap := cap) (h.below hb) hN
  rw [hl] at hlg
  have HLG := Lib.hid hlg
  obtain ⟨i0, hi, hz0, hz1, hz2⟩ := info_parts infoNum
  have HPK := Lib.hid (fun W => kPick_any many 64 (by omega) (by omega) m0 m1 W)
  have h2' : ¬ (100 : Int) < (fac.size : Int) := by omega
  have h3' : ¬ (100 : Int) < (b.size : Int) := by omega
  have HTAB := Lib.hid (fun W (hb : Below w.heap.size w W) => htab.below hb)
  have hck := fun W => refcheck_any fac W (by omega)
  rw [hf] at hck
  have HCK := Lib.hid hck
  obtain ⟨hls, hl70⟩ := wLong_no hl
  obtain ⟨hft, ofac⟩ := chk_text hf
  obtain ⟨c1, hc1⟩ : ∃ c1, c1 = dv fac.data.toList := ⟨_, rfl⟩
  have HPR := Lib.hid (fun W (hb : Below w.heap.size w W) => h.below hb)
  rw [← hc1] at hft ofac
  rw [← hc1] at hD2 hL2
  have HD1 := Lib.hid hD1
  have HD2 := Lib.hid hD2
  have HL1 := Lib.hid hL1
  have HL2 := Lib.hid hL2
  have HMUL := Lib.hid (fun j (hj : j < N) W => (by
    have hv := hval j hj
    obtain ⟨ht, oj⟩ := chk_text hv
    have op : Ok (wN f j * c1) := by rw [hc1]; exact (prod_ok hv (hls j (by omega)) hf (by omega)).1
    have hm := iMul (wN f j) c1 oj ofac W
    rw [outR_yes op] at hm
    rw [ht, hft]; exact hm : Calls Tryz.prog 64 #[.string (f j), .string fac] W fun e w' => e = .returned (.tuple #[.string (dstr (wN f j * c1)), .int .i64 0]) ∧ Below W.heap.size W w'))
  clear hlg hl m0 m1 h hN htab hf hck hls hft ofac hc1 hval hD1 hD2 hL1 hL2
  go_enter Tryz.func9, Tryz.ntmps9
  go_wp2_with fail
  refine HL.out.mono ?_
  rintro e w1 ⟨rfl, hb⟩
  have HB := Lib.hid hb
  clear hb HL
  go_wp2_with fail
  refine (HLG.out _ HB.out).mono ?_
  rintro e w2 ⟨rfl, rfl⟩
  clear HLG
  go_wp2_with fail
  refine (HPK.out _).mono ?_
  rintro e w3 ⟨⟨r, hr, rfl⟩, rfl⟩
  clear HPK
  obtain ⟨N1, hN1⟩ : ∃ N1, N1 = r + 1 := ⟨_, rfl⟩
  have HN1 := Lib.hid (show 1 ≤ N1 ∧ N1 ≤ 64 by omega)
  have hr2 : r < 64 := by omega
  have HRN := Lib.hid (show (1 : Int) + (r : Int) = (N1 : Int) by omega)
  clear hr hN1
  go_wp2_with fail
  rw [HRN.out]
  clear hr2
  have hb64 : N1 ≤ 64 := HN1.out.2
  obtain ⟨w4, hrun, hown, hgrow⟩ := run_make_full (P := Tryz.prog) w1 w1.heap.size 56 23 i0 (.string ⟨#[]⟩) 1 Tryz.underlying56 hi hz0 hz1 .i64 .i64 N1 (by rw [hz2]; omega) (by unfold maxLen; omega) (Nat.le_refl _)
  rw [hrun]
  simp only [Result.andThen]
  rw [Oper.upon_value]
  have HAR := Lib.hid (And.intro (NArr.made (base := w1.heap.size) hown) ((Below.refl w1.heap.size w1).grown hgrow (Nat.le_refl _) (fun k hk => by cases hk)))
  clear hrun hown hgrow HRN
  go_wp2_with fail
  go_loopw [12] (fun iv wr => ∃ (k : Nat) (f1 : Nat → ByteArray), k ≤ N1 ∧ iv = .int .i64 (k : Int) ∧ NArr wr w1.heap.size N1 f1 ∧ Hid (∀ j, j < k → f1 j = ⟨#[49]⟩) ∧ Below w1.heap.size w1 wr) (fun iv _ => N1 - (intOf iv).toNat)
  case atStart => exact ⟨0, _, Nat.zero_le _, rfl, HAR.out.1, Lib.hid (fun j hj => absurd hj (Nat.not_lt_zero _)), HAR.out.2⟩
  case round =>
    obtain ⟨k, f1, hk, rfl, har, HF1, hbr⟩ := hrel
    clear HAR
    by_cases hlt : k < N1
    · have c0 := har.cell hlt
      have f0 := har.free k
      have HS := Lib.hid (And.intro (har.store k ⟨#[49]⟩) (hbr.setCell (p := ⟨w1.heap.size, k, none⟩) (Nat.le_refl _) (.string ⟨#[49]⟩)))
      clear har hbr
      go_wp2_with fail
      go_roundw
      case rel => exact ⟨k + 1, _, by omega, by go_num, HS.out.1, Lib.hid (fun j hj => by
        by_cases e : j = k
        · show (if j = k then (⟨#[49]⟩ : ByteArray) else f1 j) = _
          rw [if_pos e]
        · show (if j = k then (⟨#[49]⟩ : ByteArray) else f1 j) = _
          rw [if_neg e]; exact HF1.out j (by omega)), HS.out.2⟩
      case measure => simp [intOf]; omega
    · obtain rfl : k = N1 := by omega
      obtain ⟨d, v, u, c, hD, hBe⟩ := ones_both (b := b) HN1.out.1 HN1.out.2 (by omega)
      have HB5 := Lib.hid (HB.out.trans (hbr.mono HB.out.size))
      have HD := Lib.hid (hD _ _ k f1 har.prow HF1.out (HTAB.out _ HB5.out))
      have HBE := Lib.hid (fun W (hb : Below w.heap.size w W) => hBe W (HTAB.out W hb))
      clear hD hBe har hbr HF1 HB hb64
      have HAR0 := HN1
      obtain ⟨wm, rfl⟩ : ∃ wm, wm = wr := ⟨_, rfl⟩
      go_wp2_with fail
      refine HD.out.mono ?_
      rintro e w5 ⟨rfl, hb⟩
      have HB6 := Lib.hid (HB5.out.trans ((hb.alloc hb.size (drO d v u)).mono HB5.out.size))
      have HR1 := Lib.hid (DR.new w5 d v u)
      clear hb HD HB5
      go_wp2_with fail
      refine (HBE.out _ HB6.out).mono ?_
      rintro e w6 ⟨rfl, hb⟩
      obtain ⟨c0, c1, c2⟩ := (HR1.out.below (hb.alloc hb.size (drO d v u))).c
      obtain ⟨d0, d1, d2⟩ := (DR.new w6 d v u).c
      have HB7 := Lib.hid (HB6.out.trans ((hb.alloc hb.size (drO d v u)).mono HB6.out.size))
      have hne := neq_dr d d v u v u
      rw [show (!(d == d && (v == v && u == u))) = false by simp] at hne
      clear hb HBE HR1 HB6
      go_wp2_with fail
      refine (HCK.out _).mono ?_
      rintro e w7 ⟨rfl, rfl⟩
      clear HCK c0 c1 c2 d0 d1 d2 hne
      go_wp2_with fail
      generalize w6.alloc (drO d v u) = wl at HB7 ⊢
      clear HAR0
      go_loopw [17, 18] (fun mv iv wr => ∃ k : Nat, k ≤ N ∧ iv = .int .i64 (k : Int) ∧ wr.ownsRow wl.heap.size 23 1 mv k (ccells (fun j => wN f j * c1) k) ∧ Below wl.heap.size wl wr) (fun _ iv _ => N - (intOf iv).toNat)
      case atStart => exact ⟨0, Nat.zero_le _, rfl, World.ownsRow_nil _ _ _ _, Below.refl _ _⟩
      case round =>
        obtain ⟨q, hq, rfl, hrow, hb⟩ := hrel
        by_cases hlt : q < N
        · have hqN : (q : Int) < (N : Int) := by omega
          obtain ⟨a, rfl, _, k0⟩ := (HPR.out wr (HB7.out.trans (hb.mono HB7.out.size))).at (show q < N by omega)
          have HM := Lib.hid (HMUL.out q (by omega) wr)
          obtain ⟨vo, vc, rfl, _⟩ := row_shape hrow
          have HR := Lib.hid (And.intro hrow hb)
          have HCC := Lib.hid (ccells_next (fun j => wN f j * c1) q)
          clear hrow hb
          go_wp2_with fail
          refine HM.out.mono ?_
          rintro e w8 ⟨rfl, hb8⟩
          have HR8 := Lib.hid (And.intro (row_belowP HR.out.1 hb8) (HR.out.2.trans (hb8.mono HR.out.2.size)))
          clear hb8 HM HR k0
          generalize dstr (wN f q * c1) = sq at *
          go_wp2_with (at_builtin; refine wpList_append_own _ rfl _ _ 56 rfl wl.heap.size 23 i0 (.string ⟨#[]⟩) 1 16 Tryz.underlying56 hi hz0 hz1 hz2 rfl (by decide) _ _ _ rfl (HR8.out.1.alloc _) ⟨w8.heap.size, 0, none⟩ 1 1 [.string sq] rfl rfl (World.news_of_block (heap_alloc_new _ _)) (fun u hu => by simp at hu; subst hu; rfl) ?c3 ?c4 ?c5 ?_)
          case c3 => unfold maxLen; omega
          case c4 => omega
          case c5 => have := HR8.out.2.size; simp; omega
          intro v' w9 hown' hgrow _
          obtain ⟨ao', c', rfl, _⟩ := row_shape hown'
          have HR9 := Lib.hid (And.intro hown' ((HR8.out.2.alloc HR8.out.2.size _).grown hgrow (by have := HR8.out.2.size; simp; omega) (fun j hj => (HR8.out.1.lt j hj).1)))
          clear hown' hgrow HR8
          go_wp2_with fail
          go_roundw
          case rel => exact ⟨q + 1, by omega, by go_num, by rw [HCC.out]; exact HR9.out.1, HR9.out.2⟩
          case measure => simp [intOf]; omega
        · obtain rfl : q = N := by omega
          obtain ⟨vo, vc, rfl, _⟩ := row_shape hrow
          have HB8 := Lib.hid (HB7.out.trans (hb.mono HB7.out.size))
          have HPW := Lib.hid (row_prow hrow)
          have H1 := Lib.hid (HD1.out wr HB8.out)
          clear hrow hb HMUL HPR HD1
          go_wp2_with fail
          refine H1.out.mono ?_
          rintro e w8 ⟨rfl, hb⟩
          have hb9 := hb.alloc hb.size (drO d2 v2 u2)
          have HB9 := Lib.hid (HB8.out.trans (hb9.mono HB8.out.size))
          have HP9 := Lib.hid (HPW.out.below hb9)
          have HDR := Lib.hid (DR.new w8 d2 v2 u2)
          have H2 := Lib.hid (HD2.out _ vo vc HB9.out HP9.out)
          clear hb hb9 H1 HD2 HPW HB8
          go_wp2_with fail
          refine H2.out.mono ?_
          rintro e w10 ⟨rfl, hb⟩
          have hb11 := hb.alloc hb.size (drO d2 v2 u2)
          have HB11 := Lib.hid (HB9.out.trans (hb11.mono HB9.out.size))
          have HP11 := Lib.hid (HP9.out.below hb11)
          have HDR2 := Lib.hid (And.intro (HDR.out.below hb11) (DR.new w10 d2 v2 u2))
          have H3 := Lib.hid (HL1.out _ HB11.out)
          clear hb hb11 H2 HL1 HP9 HB9 HDR
          go_wp2_with fail
          refine H3.out.mono ?_
          rintro e w12 ⟨l1, rfl, hr1, hb⟩
          obtain ⟨lo1, lc1, rfl, _⟩ := row_shape hr1
          have HB12 := Lib.hid (HB11.out.trans (hb.mono HB11.out.size))
          have HP12 := Lib.hid (HP11.out.below hb)
          have HDR3 := Lib.hid (And.intro (HDR2.out.1.below hb) (HDR2.out.2.below hb))
          have HR1 := Lib.hid hr1
          have H4 := Lib.hid (HL2.out _ vo vc HB12.out HP12.out)
          clear hb hr1 H3 HL2 HP11 HB11 HDR2
          go_wp2_with fail
          refine H4.out.mono ?_
          rintro e w13 ⟨l2, rfl, hr2, hb⟩
          obtain ⟨lo2, lc2, rfl, _⟩ := row_shape hr2
          have HB13 := Lib.hid (HB12.out.trans (hb.mono HB12.out.size))
          obtain ⟨k0, k1, k2⟩ := (HDR3.out.1.below hb).c
          obtain ⟨m0, m1, m2⟩ := (HDR3.out.2.below hb).c
          have he := eq_dr d2 d2 v2 u2 v2 u2
          rw [show (d2 == d2 && (v2 == v2 && u2 == u2)) = true by simp] at he
          have HSM := Lib.hid (Same_massP (row_belowP HR1.out hb) hr2 hLL)
          clear hb hr2 H4 HP12 HB12 HDR3 HR1
          go_wp2_with fail
          refine HSM.out.mono ?_
          rintro e w14 ⟨rfl, hb⟩
          have HB14 := Lib.hid (HB13.out.trans (hb.mono HB13.out.size))
          clear hb HSM
          go_wp2_with fail
          go_ret
          exact ⟨rfl, HB14.out⟩

end Go.Proofs.YtgnmhijffppkoaaGreatDoor
