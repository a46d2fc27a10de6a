/-
  BellEven returns true for any texts and int.
-/
import Derived.Test.YteojekiocecdnaaGreatDoorJB
import Derived.Test.YteojekiocecdnaaGreatDoorBU
namespace Go.Proofs.YteojekiocecdnaaGreatDoor
open Go.RowKit NV
open Go.Lib (decDigits)

def qone : Rat := ⟨1, 1, by decide, by decide⟩
theorem sqone : qstr qone = ⟨#[49]⟩ := by
  unfold qstr
  rw [rstr_eq, if_pos (show qone.den = 1 from rfl)]
  exact one_str.symm
theorem qone_ok : QOk qone := ⟨ok_two (n := 2) (by omega) (by decide), ok_two (n := 2) (by omega) (by decide)⟩
theorem qone_b : belE qone = 0 := by decide
theorem qone_o (n : Nat) : bwO qone.den n = 0 := small_bw (by rw [show qone.den = 1 from rfl, Nat.one_pow]; decide)
theorem bM_one (n j : Nat) : bM qone n j = 1 := by
  unfold bM bw
  rw [show tp qone = 1 from rfl, show qone.den = 1 from rfl]
  split <;> simp
theorem items_full {g : Nat → Nat} {all : Nat} : ∀ {m : Nat}, (∀ i, i < m → g i ≠ 0) → (itemsP g all m).length = m
  | 0, _ => rfl
  | m + 1, h => by
    show (itemsP g all m ++ _).length = _
    rw [List.length_append, items_full (fun i hi => h i (by omega)), if_neg (h m (by omega))]; rfl

/-- The distribution of the ratio 1. -/
def evenL (n : Nat) : List Item := itemsP (wN (wB qone n)) (wsum (wN (wB qone n)) (2 * n + 1)) (2 * n + 1)
theorem evenL_len (n : Nat) : (evenL n).length = 2 * n + 1 := items_full (fun i _ => by rw [wN_bell, bM_one]; omega)
theorem evenL_p (n : Nat) : ∃ p, ∀ x ∈ sortI (mapI (vK n) (evenL n)), x.2 = p := by
  refine ⟨qstr (mkQ false 1 (wsum (wN (wB qone n)) (2 * n + 1))), fun x hx => ?_⟩
  have h1 := (sortI_perm _).mem_iff.1 hx
  obtain ⟨y, hy, rfl⟩ := List.mem_map.1 h1
  obtain ⟨i, _, _, rfl⟩ := items_mem.1 hy
  rw [wN_bell, bM_one]
theorem even_exact {n : Nat} (hn : n ≤ 16) : ∃ p, ∀ w, Tab w → ML w → Calls Tryz.prog 36 #[.string ⟨#[49]⟩, .int .i64 (n : Int)] w fun e w' => ∃ g cap, e = .returned (.tuple #[.slice (some ⟨g, 0, none⟩) (2 * n + 1) cap, .int .i64 0]) ∧ (g < w'.heap.size ∧ ∀ k, k < 2 * n + 1 → w'.cell? ⟨g, k * 2 + 1, none⟩ = some (.string p)) ∧ Below w.heap.size w w' := by
  obtain ⟨p, hp⟩ := evenL_p n
  refine ⟨p, fun w htab hm => ?_⟩
  have h := bExact_x (L := evenL n) qone_ok qone_b hn (qone_o n) w htab hm (fun ⟨x, hx, e⟩ => by
    obtain ⟨i, _, _, rfl⟩ := items_mem.1 hx
    exact absurd (congrArg (fun s => s.data.toList) e) (late_not i)) (itemsK _ _ _) (items_nodup _ _ _) (by rw [evenL_len]; omega) (by rw [evenL_len]; omega)
    (fun W ao cap hr ht => pExact_ok hr (wB_ok qone_b hn (qone_o n)) ht)
  rw [sqone, evenL_len] at h
  refine h.mono ?_
  rintro e w' ⟨v, rfl, hr, hb⟩
  obtain ⟨g, cap, rfl, _, hlt⟩ := hr.form (by omega)
  refine ⟨g, cap, rfl, ⟨hlt, fun k hk => ?_⟩, hb⟩
  have hl : (sortI (mapI (vK n) (evenL n))).length = 2 * n + 1 := by rw [sortI_len]; unfold mapI; rw [List.length_map, evenL_len]
  have hx := List.getElem?_eq_getElem (l := sortI (mapI (vK n) (evenL n))) (i := k) (by omega)
  have h2 := (cellsI_get _ k _ hx).2
  rw [hp _ (List.getElem_mem _)] at h2
  have h3 := hr.cells (g := g) rfl _ _ h2
  rw [Addr.add_lit, Nat.zero_add] at h3
  exact h3

theorem schk_bitsJ {s : ByteArray} (h : schk s = 0) : IsBits s.data.toList ∧ s.size ≤ 256 := by
  unfold schk at h
  split at h
  · omega
  · rename_i hb
    split at h
    · omega
    · exact ⟨Classical.byContradiction fun hc => hb (by rw [bchk_no hc]; decide), by omega⟩

/-- One value is drawn without any bits. -/
theorem pick_zero (q : Rat) (l : List UInt8) : PickIs (wsum (wN (wB q 0))) (2 * 0 + 1) l true 0 0 := by
  refine .inl ⟨rfl, by omega, Nat.zero_le _, ?_, fun j hj => absurd hj (Nat.not_lt_zero _)⟩
  constructor
  · show 0 * 2 ^ 0 ≤ _; omega
  · show (bv (l.take 0) + 1) * _ ≤ _ * 2 ^ 0
    rw [List.take_zero]
    show (0 + 1) * wsum (wN (wB q 0)) 1 ≤ wsum (wN (wB q 0)) 1 * 1
    omega
theorem wB_zero (q : Rat) : ∀ j, j < 2 * 0 + 1 → wB q 0 j = ⟨#[49]⟩ := fun j hj => by
  obtain rfl : j = 0 := by omega
  rw [wB_text, show bM q 0 0 = 1 by unfold bM bw; simp, ← one_str]
theorem bw_zero {s : ByteArray} (h : bwE s 0 = 0) : ∃ q : Rat, s = qstr q ∧ QOk q ∧ belE q = 0 ∧ bwO q.den 0 = 0 := by
  obtain ⟨q, n, h1, h2, h3, h4, _, h6⟩ := bw_cases h
  obtain rfl : n = 0 := by omega
  exact ⟨q, h1, h3, h4, h6⟩

set_option maxHeartbeats 6400000 in
set_option maxRecDepth 100000 in
theorem even_far1 {s b : ByteArray} {t : Int} (h1 : 20 < s.size) (w : World) (htab : Tab w) (hm : ML w) :
    Calls Tryz.prog 9 #[.string s, .int .i64 t, .string b] w fun e w' => e = .returned (.bool true) ∧ Below w.heap.size w w' := by
  have HL := Lib.hid (lives7_any w htab hm)
  clear htab hm
  go_enter Tryz.func9, Tryz.ntmps9
  go_wp2_with fail
  refine HL.out.mono ?_
  rintro e w1 ⟨rfl, hb1⟩
  have HB := Lib.hid hb1
  clear hb1 HL
  go_wp2_with fail
  go_ret
  exact ⟨rfl, HB.out⟩

set_option maxHeartbeats 6400000 in
set_option maxRecDepth 100000 in
theorem even_far2 {s b : ByteArray} {t : Int} (h1 : ¬ 20 < s.size) (h2 : 256 < b.size) (w : World) (htab : Tab w) (hm : ML w) :
    Calls Tryz.prog 9 #[.string s, .int .i64 t, .string b] w fun e w' => e = .returned (.bool true) ∧ Below w.heap.size w w' := by
  have HL := Lib.hid (lives7_any w htab hm)
  clear htab hm
  go_enter Tryz.func9, Tryz.ntmps9
  go_wp2_with fail
  refine HL.out.mono ?_
  rintro e w1 ⟨rfl, hb1⟩
  have HB := Lib.hid hb1
  clear hb1 HL
  go_wp2_with fail
  go_ret
  exact ⟨rfl, HB.out⟩

theorem PRow.one (w : World) : PRow (w.alloc (.cells #[.string ⟨#[49]⟩] 22)) (some ⟨w.heap.size, 0, none⟩) 1 (fun _ => ⟨#[49]⟩) :=
  (show PRow (w.alloc (.cells #[.string ⟨#[49]⟩] 22)) (some ⟨w.heap.size, 0, none⟩) 1 (([⟨#[49]⟩] : List ByteArray).getD · ⟨#[]⟩) from PRow.lit (l := [⟨#[49]⟩]) (heap_alloc_new _ _)).congrJ (fun j hj => match j, hj with | 0, _ => rfl)

set_option maxHeartbeats 6400000 in
set_option maxRecDepth 100000 in
theorem even_a_lo {s b : ByteArray} {t : Int} (h1 : ¬ 20 < s.size) (h2 : ¬ 256 < b.size) (ht : t < 0) {c c2 : Int} (hc : (c != 0) = true) (hc2 : (c2 != 0) = true) (w : World) (htab : Tab w) (hm : ML w)
    (hD : ∀ W, Below w.heap.size w W → Calls Tryz.prog 34 #[.string s, .int .i64 0, .string b] W fun e w' => e = .returned (.tuple #[.agg #[.bool false, .int .i64 0, .int .i64 0], .int .i64 c]) ∧ Below W.heap.size W w')
    (hW : ∀ W, Below w.heap.size w W → Calls Tryz.prog 33 #[.string s, .int .i64 0] W fun e w' => e = .returned (.tuple #[.slice none 0 0, .int .i64 c2]) ∧ Below W.heap.size W w') :
    Calls Tryz.prog 9 #[.string s, .int .i64 t, .string b] w fun e w' => e = .returned (.bool true) ∧ Below w.heap.size w w' := by
  have HL := Lib.hid (lives7_any w htab hm)
  have HD := Lib.hid hD
  have HW := Lib.hid hW
  clear htab hm hD hW
  go_enter Tryz.func9, Tryz.ntmps9
  go_wp2_with fail
  refine HL.out.mono ?_
  rintro e w1 ⟨rfl, hb1⟩
  have HB := Lib.hid hb1
  clear hb1 HL
  go_wp2_with fail
  refine (HD.out _ HB.out).mono ?_
  rintro e w5 ⟨rfl, hb⟩
  have HX := Lib.hid (DR.new w5 false 0 0)
  replace HB := Lib.hid (HB.out.trans ((hb.alloc hb.size (drO false 0 0)).mono HB.out.size))
  clear hb HD
  go_wp2_with fail
  refine (HW.out _ HB.out).mono ?_
  rintro e w6 ⟨rfl, hb⟩
  replace HX := Lib.hid (HX.out.below hb)
  replace HB := Lib.hid (HB.out.trans (hb.mono HB.out.size))
  clear hb HW
  obtain ⟨c0, c1, c3⟩ := HX.out.c
  have he := eq_dr false false 0 0 0 0
  go_wp2_with fail
  go_ret
  exact ⟨rfl, HB.out⟩

set_option maxHeartbeats 6400000 in
set_option maxRecDepth 100000 in
theorem even_a_hi {s b : ByteArray} {t : Int} (h1 : ¬ 20 < s.size) (h2 : ¬ 256 < b.size) (ht : 16 < t) {c c2 : Int} (hc : (c != 0) = true) (hc2 : (c2 != 0) = true) (w : World) (htab : Tab w) (hm : ML w)
    (hD : ∀ W, Below w.heap.size w W → Calls Tryz.prog 34 #[.string s, .int .i64 0, .string b] W fun e w' => e = .returned (.tuple #[.agg #[.bool false, .int .i64 0, .int .i64 0], .int .i64 c]) ∧ Below W.heap.size W w')
    (hW : ∀ W, Below w.heap.size w W → Calls Tryz.prog 33 #[.string s, .int .i64 0] W fun e w' => e = .returned (.tuple #[.slice none 0 0, .int .i64 c2]) ∧ Below W.heap.size W w') :
    Calls Tryz.prog 9 #[.string s, .int .i64 t, .string b] w fun e w' => e = .returned (.bool true) ∧ Below w.heap.size w w' := by
  have HL := Lib.hid (lives7_any w htab hm)
  have HD := Lib.hid hD
  have HW := Lib.hid hW
  clear htab hm hD hW
  have ht0 : ¬ t < 0 := by omega
  go_enter Tryz.func9, Tryz.ntmps9
  go_wp2_with fail
  refine HL.out.mono ?_
  rintro e w1 ⟨rfl, hb1⟩
  have HB := Lib.hid hb1
  clear hb1 HL
  go_wp2_with fail
  refine (HD.out _ HB.out).mono ?_
  rintro e w5 ⟨rfl, hb⟩
  have HX := Lib.hid (DR.new w5 false 0 0)
  replace HB := Lib.hid (HB.out.trans ((hb.alloc hb.size (drO false 0 0)).mono HB.out.size))
  clear hb HD
  go_wp2_with fail
  refine (HW.out _ HB.out).mono ?_
  rintro e w6 ⟨rfl, hb⟩
  replace HX := Lib.hid (HX.out.below hb)
  replace HB := Lib.hid (HB.out.trans (hb.mono HB.out.size))
  clear hb HW
  obtain ⟨c0, c1, c3⟩ := HX.out.c
  have he := eq_dr false false 0 0 0 0
  go_wp2_with fail
  go_ret
  exact ⟨rfl, HB.out⟩

set_option maxHeartbeats 6400000 in
set_option maxRecDepth 100000 in
theorem even_a_in {s b : ByteArray} {t : Int} (h1 : ¬ 20 < s.size) (h2 : ¬ 256 < b.size) (ht0 : ¬ t < 0) (ht1 : ¬ 16 < t) {N : Nat} {p : ByteArray} (hN : 2 * t + 1 = (N : Int)) (h0N : 0 < N) {c c2 : Int} (hc : (c != 0) = true) (hc2 : (c2 != 0) = true) (w : World) (htab : Tab w) (hm : ML w)
    (hE : ∀ W, Below w.heap.size w W → Calls Tryz.prog 36 #[.string ⟨#[49]⟩, .int .i64 t] W fun e w' => ∃ g cap, e = .returned (.tuple #[.slice (some ⟨g, 0, none⟩) N cap, .int .i64 0]) ∧ (g < w'.heap.size ∧ ∀ k, k < N → w'.cell? ⟨g, k * 2 + 1, none⟩ = some (.string p)) ∧ Below W.heap.size W w')
    (hD : ∀ W, Below w.heap.size w W → Calls Tryz.prog 34 #[.string s, .int .i64 0, .string b] W fun e w' => e = .returned (.tuple #[.agg #[.bool false, .int .i64 0, .int .i64 0], .int .i64 c]) ∧ Below W.heap.size W w')
    (hW : ∀ W, Below w.heap.size w W → Calls Tryz.prog 33 #[.string s, .int .i64 0] W fun e w' => e = .returned (.tuple #[.slice none 0 0, .int .i64 c2]) ∧ Below W.heap.size W w') :
    Calls Tryz.prog 9 #[.string s, .int .i64 t, .string b] w fun e w' => e = .returned (.bool true) ∧ Below w.heap.size w w' := by
  have HL := Lib.hid (lives7_any w htab hm)
  have HD := Lib.hid hD
  have HW := Lib.hid hW
  clear htab hm hD hW
  have HE := Lib.hid hE
  clear hE
  go_enter Tryz.func9, Tryz.ntmps9
  go_wp2_with fail
  refine HL.out.mono ?_
  rintro e w1 ⟨rfl, hb1⟩
  have HB := Lib.hid hb1
  clear hb1 HL
  go_wp2_with fail
  refine (HE.out _ HB.out).mono ?_
  rintro e w2 ⟨g, cap, rfl, hrd, hb⟩
  have HR := Lib.hid hrd
  replace HB := Lib.hid (HB.out.trans (hb.mono HB.out.size))
  have HN33 : N ≤ 33 := by omega
  clear hb hrd HE
  go_wp2_with fail
  go_loopw [9] (fun i wr => ∃ k : Nat, k ≤ N ∧ i = .int .i64 (k : Int) ∧ Below w2.heap.size w2 wr) (fun i _ => N - (intOf i).toNat)
  case atStart => exact ⟨0, Nat.zero_le _, rfl, Below.refl _ _⟩
  case round =>
    obtain ⟨k, hk, rfl, hbr⟩ := hrel
    by_cases hlt : k < N
    · have c0 := (hbr.cell (p := ⟨g, 0 * 2 + 1, none⟩) HR.out.1).trans (HR.out.2 0 h0N)
      have c1 := (hbr.cell (p := ⟨g, k * 2 + 1, none⟩) HR.out.1).trans (HR.out.2 k hlt)
      rw [show 0 * 2 + 1 = 1 by omega] at c0
      have hne : (!(p.toList == p.toList)) = false := by simp
      have HBR := Lib.hid hbr
      clear hbr
      go_wp2_with fail
      go_quiet (fail)
      go_wp2_with fail
      go_roundw
      case rel => exact ⟨k + 1, by omega, by go_num, below_drewN HBR.out _⟩
      case measure => simp [intOf]; omega
    · replace HB := Lib.hid (HB.out.trans (hbr.mono HB.out.size))
      clear hbr HR
      go_wp2_with fail
      refine (HD.out _ HB.out).mono ?_
      rintro e w5 ⟨rfl, hb⟩
      have HX := Lib.hid (DR.new w5 false 0 0)
      replace HB := Lib.hid (HB.out.trans ((hb.alloc hb.size (drO false 0 0)).mono HB.out.size))
      clear hb HD
      go_wp2_with fail
      refine (HW.out _ HB.out).mono ?_
      rintro e w6 ⟨rfl, hb⟩
      replace HX := Lib.hid (HX.out.below hb)
      replace HB := Lib.hid (HB.out.trans (hb.mono HB.out.size))
      clear hb HW
      obtain ⟨c0, c1, c3⟩ := HX.out.c
      have he := eq_dr false false 0 0 0 0
      go_wp2_with fail
      go_ret
      exact ⟨rfl, HB.out⟩

set_option maxHeartbeats 6400000 in
set_option maxRecDepth 100000 in
theorem even_b_lo {s b : ByteArray} {t : Int} (h1 : ¬ 20 < s.size) (h2 : ¬ 256 < b.size) (ht : t < 0) {c c3 : Int} (hc : (c != 0) = true) (hc3 : (c3 != 0) = true) (w : World) (htab : Tab w) (hm : ML w)
    (hD : ∀ W, Below w.heap.size w W → Calls Tryz.prog 34 #[.string s, .int .i64 0, .string b] W fun e w' => e = .returned (.tuple #[.agg #[.bool false, .int .i64 0, .int .i64 0], .int .i64 c]) ∧ Below W.heap.size W w')
    (hW : ∀ W, Below w.heap.size w W → Calls Tryz.prog 33 #[.string s, .int .i64 0] W fun e w' => ∃ ao cap, e = .returned (.tuple #[.slice ao 1 cap, .int .i64 0]) ∧ PRow w' ao 1 (fun _ => ⟨#[49]⟩) ∧ Below W.heap.size W w')
    (hC : ∀ W, Calls Tryz.prog 53 #[.string b] W fun e w' => e = .returned (.int .i64 c3) ∧ W = w') :
    Calls Tryz.prog 9 #[.string s, .int .i64 t, .string b] w fun e w' => e = .returned (.bool true) ∧ Below w.heap.size w w' := by
  have HL := Lib.hid (lives7_any w htab hm)
  have HD := Lib.hid hD
  have HW := Lib.hid hW
  have HC := Lib.hid hC
  clear htab hm hD hW hC
  go_enter Tryz.func9, Tryz.ntmps9
  go_wp2_with fail
  refine HL.out.mono ?_
  rintro e w1 ⟨rfl, hb1⟩
  have HB := Lib.hid hb1
  clear hb1 HL
  go_wp2_with fail
  refine (HD.out _ HB.out).mono ?_
  rintro e w5 ⟨rfl, hb⟩
  have HX := Lib.hid (DR.new w5 false 0 0)
  replace HB := Lib.hid (HB.out.trans ((hb.alloc hb.size (drO false 0 0)).mono HB.out.size))
  clear hb HD
  go_wp2_with fail
  refine (HW.out _ HB.out).mono ?_
  rintro e w6 ⟨ao, cap, rfl, hp, hb⟩
  replace HX := Lib.hid (HX.out.below hb)
  replace HB := Lib.hid (HB.out.trans (hb.mono HB.out.size))
  have HP := Lib.hid hp
  clear hb HW hp
  go_wp2_with fail
  refine (HC.out _).mono ?_
  rintro e w7 ⟨rfl, rfl⟩
  obtain ⟨x0, x1, x2⟩ := HX.out.c
  have he := eq_dr false false 0 0 0 0
  go_wp2_with fail
  go_ret
  exact ⟨rfl, HB.out⟩

set_option maxHeartbeats 6400000 in
set_option maxRecDepth 100000 in
theorem even_b_hi {s b : ByteArray} {t : Int} (h1 : ¬ 20 < s.size) (h2 : ¬ 256 < b.size) (ht : 16 < t) {c c3 : Int} (hc : (c != 0) = true) (hc3 : (c3 != 0) = true) (w : World) (htab : Tab w) (hm : ML w)
    (hD : ∀ W, Below w.heap.size w W → Calls Tryz.prog 34 #[.string s, .int .i64 0, .string b] W fun e w' => e = .returned (.tuple #[.agg #[.bool false, .int .i64 0, .int .i64 0], .int .i64 c]) ∧ Below W.heap.size W w')
    (hW : ∀ W, Below w.heap.size w W → Calls Tryz.prog 33 #[.string s, .int .i64 0] W fun e w' => ∃ ao cap, e = .returned (.tuple #[.slice ao 1 cap, .int .i64 0]) ∧ PRow w' ao 1 (fun _ => ⟨#[49]⟩) ∧ Below W.heap.size W w')
    (hC : ∀ W, Calls Tryz.prog 53 #[.string b] W fun e w' => e = .returned (.int .i64 c3) ∧ W = w') :
    Calls Tryz.prog 9 #[.string s, .int .i64 t, .string b] w fun e w' => e = .returned (.bool true) ∧ Below w.heap.size w w' := by
  have HL := Lib.hid (lives7_any w htab hm)
  have HD := Lib.hid hD
  have HW := Lib.hid hW
  have HC := Lib.hid hC
  clear htab hm hD hW hC
  have ht0 : ¬ t < 0 := by omega
  go_enter Tryz.func9, Tryz.ntmps9
  go_wp2_with fail
  refine HL.out.mono ?_
  rintro e w1 ⟨rfl, hb1⟩
  have HB := Lib.hid hb1
  clear hb1 HL
  go_wp2_with fail
  refine (HD.out _ HB.out).mono ?_
  rintro e w5 ⟨rfl, hb⟩
  have HX := Lib.hid (DR.new w5 false 0 0)
  replace HB := Lib.hid (HB.out.trans ((hb.alloc hb.size (drO false 0 0)).mono HB.out.size))
  clear hb HD
  go_wp2_with fail
  refine (HW.out _ HB.out).mono ?_
  rintro e w6 ⟨ao, cap, rfl, hp, hb⟩
  replace HX := Lib.hid (HX.out.below hb)
  replace HB := Lib.hid (HB.out.trans (hb.mono HB.out.size))
  have HP := Lib.hid hp
  clear hb HW hp
  go_wp2_with fail
  refine (HC.out _).mono ?_
  rintro e w7 ⟨rfl, rfl⟩
  obtain ⟨x0, x1, x2⟩ := HX.out.c
  have he := eq_dr false false 0 0 0 0
  go_wp2_with fail
  go_ret
  exact ⟨rfl, HB.out⟩

set_option maxHeartbeats 6400000 in
set_option maxRecDepth 100000 in
theorem even_b_in {s b : ByteArray} {t : Int} (h1 : ¬ 20 < s.size) (h2 : ¬ 256 < b.size) (ht0 : ¬ t < 0) (ht1 : ¬ 16 < t) {N : Nat} {p : ByteArray} (hN : 2 * t + 1 = (N : Int)) (h0N : 0 < N) {c c3 : Int} (hc : (c != 0) = true) (hc3 : (c3 != 0) = true) (w : World) (htab : Tab w) (hm : ML w)
    (hE : ∀ W, Below w.heap.size w W → Calls Tryz.prog 36 #[.string ⟨#[49]⟩, .int .i64 t] W fun e w' => ∃ g cap, e = .returned (.tuple #[.slice (some ⟨g, 0, none⟩) N cap, .int .i64 0]) ∧ (g < w'.heap.size ∧ ∀ k, k < N → w'.cell? ⟨g, k * 2 + 1, none⟩ = some (.string p)) ∧ Below W.heap.size W w')
    (hD : ∀ W, Below w.heap.size w W → Calls Tryz.prog 34 #[.string s, .int .i64 0, .string b] W fun e w' => e = .returned (.tuple #[.agg #[.bool false, .int .i64 0, .int .i64 0], .int .i64 c]) ∧ Below W.heap.size W w')
    (hW : ∀ W, Below w.heap.size w W → Calls Tryz.prog 33 #[.string s, .int .i64 0] W fun e w' => ∃ ao cap, e = .returned (.tuple #[.slice ao 1 cap, .int .i64 0]) ∧ PRow w' ao 1 (fun _ => ⟨#[49]⟩) ∧ Below W.heap.size W w')
    (hC : ∀ W, Calls Tryz.prog 53 #[.string b] W fun e w' => e = .returned (.int .i64 c3) ∧ W = w') :
    Calls Tryz.prog 9 #[.string s, .int .i64 t, .string b] w fun e w' => e = .returned (.bool true) ∧ Below w.heap.size w w' := by
  have HL := Lib.hid (lives7_any w htab hm)
  have HD := Lib.hid hD
  have HW := Lib.hid hW
  have HC := Lib.hid hC
  clear htab hm hD hW hC
  have HE := Lib.hid hE
  clear hE
  go_enter Tryz.func9, Tryz.ntmps9
  go_wp2_with fail
  refine HL.out.mono ?_
  rintro e w1 ⟨rfl, hb1⟩
  have HB := Lib.hid hb1
  clear hb1 HL
  go_wp2_with fail
  refine (HE.out _ HB.out).mono ?_
  rintro e w2 ⟨g, cap, rfl, hrd, hb⟩
  have HR := Lib.hid hrd
  replace HB := Lib.hid (HB.out.trans (hb.mono HB.out.size))
  have HN33 : N ≤ 33 := by omega
  clear hb hrd HE
  go_wp2_with fail
  go_loopw [9] (fun i wr => ∃ k : Nat, k ≤ N ∧ i = .int .i64 (k : Int) ∧ Below w2.heap.size w2 wr) (fun i _ => N - (intOf i).toNat)
  case atStart => exact ⟨0, Nat.zero_le _, rfl, Below.refl _ _⟩
  case round =>
    obtain ⟨k, hk, rfl, hbr⟩ := hrel
    by_cases hlt : k < N
    · have c0 := (hbr.cell (p := ⟨g, 0 * 2 + 1, none⟩) HR.out.1).trans (HR.out.2 0 h0N)
      have c1 := (hbr.cell (p := ⟨g, k * 2 + 1, none⟩) HR.out.1).trans (HR.out.2 k hlt)
      rw [show 0 * 2 + 1 = 1 by omega] at c0
      have hne : (!(p.toList == p.toList)) = false := by simp
      have HBR := Lib.hid hbr
      clear hbr
      go_wp2_with fail
      go_quiet (fail)
      go_wp2_with fail
      go_roundw
      case rel => exact ⟨k + 1, by omega, by go_num, below_drewN HBR.out _⟩
      case measure => simp [intOf]; omega
    · replace HB := Lib.hid (HB.out.trans (hbr.mono HB.out.size))
      clear hbr HR
      go_wp2_with fail
      refine (HD.out _ HB.out).mono ?_
      rintro e w5 ⟨rfl, hb⟩
      have HX := Lib.hid (DR.new w5 false 0 0)
      replace HB := Lib.hid (HB.out.trans ((hb.alloc hb.size (drO false 0 0)).mono HB.out.size))
      clear hb HD
      go_wp2_with fail
      refine (HW.out _ HB.out).mono ?_
      rintro e w6 ⟨ao, cap, rfl, hp, hb⟩
      replace HX := Lib.hid (HX.out.below hb)
      replace HB := Lib.hid (HB.out.trans (hb.mono HB.out.size))
      have HP := Lib.hid hp
      clear hb HW hp
      go_wp2_with fail
      refine (HC.out _).mono ?_
      rintro e w7 ⟨rfl, rfl⟩
      obtain ⟨x0, x1, x2⟩ := HX.out.c
      have he := eq_dr false false 0 0 0 0
      go_wp2_with fail
      go_ret
      exact ⟨rfl, HB.out⟩

set_option maxHeartbeats 6400000 in
set_option maxRecDepth 100000 in
theorem even_c_lo {s b : ByteArray} {t : Int} (h1 : ¬ 20 < s.size) (h2 : ¬ 256 < b.size) (ht : t < 0)  (w : World) (htab : Tab w) (hm : ML w)
    (hD : ∀ W, Below w.heap.size w W → Calls Tryz.prog 34 #[.string s, .int .i64 0, .string b] W fun e w' => e = .returned (.tuple #[.agg #[.bool true, .int .i64 0, .int .i64 0], .int .i64 0]) ∧ Below W.heap.size W w')
    (hW : ∀ W, Below w.heap.size w W → Calls Tryz.prog 33 #[.string s, .int .i64 0] W fun e w' => ∃ ao cap, e = .returned (.tuple #[.slice ao 1 cap, .int .i64 0]) ∧ PRow w' ao 1 (fun _ => ⟨#[49]⟩) ∧ Below W.heap.size W w')
    (hC : ∀ W, Calls Tryz.prog 53 #[.string b] W fun e w' => e = .returned (.int .i64 0) ∧ W = w') :
    Calls Tryz.prog 9 #[.string s, .int .i64 t, .string b] w fun e w' => e = .returned (.bool true) ∧ Below w.heap.size w w' := by
  have HL := Lib.hid (lives7_any w htab hm)
  have HD := Lib.hid hD
  have HW := Lib.hid hW
  have HC := Lib.hid hC
  clear htab hm hD hW hC
  go_enter Tryz.func9, Tryz.ntmps9
  go_wp2_with fail
  refine HL.out.mono ?_
  rintro e w1 ⟨rfl, hb1⟩
  have HB := Lib.hid hb1
  clear hb1 HL
  go_wp2_with fail
  refine (HD.out _ HB.out).mono ?_
  rintro e w5 ⟨rfl, hb⟩
  have HX := Lib.hid (DR.new w5 true 0 0)
  replace HB := Lib.hid (HB.out.trans ((hb.alloc hb.size (drO true 0 0)).mono HB.out.size))
  clear hb HD
  go_wp2_with fail
  refine (HW.out _ HB.out).mono ?_
  rintro e w6 ⟨ao, cap, rfl, hp, hb⟩
  replace HX := Lib.hid (HX.out.below hb)
  replace HB := Lib.hid (HB.out.trans (hb.mono HB.out.size))
  have HP := Lib.hid hp
  clear hb HW hp
  go_wp2_with fail
  refine (HC.out _).mono ?_
  rintro e w7 ⟨rfl, rfl⟩
  obtain ⟨x0, x1, x2⟩ := HX.out.c
  have he := eq_dr true true 0 0 0 0
  have HS := Lib.hid (Same_num (c1 := cap) (c2 := 1) (HP.out.below ((Below.refl _ _).alloc (Nat.le_refl _) (.cells #[.string ⟨#[49]⟩] 22))) (PRow.one w6) (by omega))
  replace HB := Lib.hid (HB.out.alloc HB.out.size (.cells #[.string ⟨#[49]⟩] 22))
  clear HP
  go_wp2_with fail
  refine HS.out.mono ?_
  rintro e w8 ⟨rfl, hb⟩
  replace HB := Lib.hid (HB.out.trans (hb.mono HB.out.size))
  clear hb
  go_wp2_with fail
  go_ret
  exact ⟨rfl, HB.out⟩

set_option maxHeartbeats 6400000 in
set_option maxRecDepth 100000 in
theorem even_c_hi {s b : ByteArray} {t : Int} (h1 : ¬ 20 < s.size) (h2 : ¬ 256 < b.size) (ht : 16 < t)  (w : World) (htab : Tab w) (hm : ML w)
    (hD : ∀ W, Below w.heap.size w W → Calls Tryz.prog 34 #[.string s, .int .i64 0, .string b] W fun e w' => e = .returned (.tuple #[.agg #[.bool true, .int .i64 0, .int .i64 0], .int .i64 0]) ∧ Below W.heap.size W w')
    (hW : ∀ W, Below w.heap.size w W → Calls Tryz.prog 33 #[.string s, .int .i64 0] W fun e w' => ∃ ao cap, e = .returned (.tuple #[.slice ao 1 cap, .int .i64 0]) ∧ PRow w' ao 1 (fun _ => ⟨#[49]⟩) ∧ Below W.heap.size W w')
    (hC : ∀ W, Calls Tryz.prog 53 #[.string b] W fun e w' => e = .returned (.int .i64 0) ∧ W = w') :
    Calls Tryz.prog 9 #[.string s, .int .i64 t, .string b] w fun e w' => e = .returned (.bool true) ∧ Below w.heap.size w w' := by
  have HL := Lib.hid (lives7_any w htab hm)
  have HD := Lib.hid hD
  have HW := Lib.hid hW
  have HC := Lib.hid hC
  clear htab hm hD hW hC
  have ht0 : ¬ t < 0 := by omega
  go_enter Tryz.func9, Tryz.ntmps9
  go_wp2_with fail
  refine HL.out.mono ?_
  rintro e w1 ⟨rfl, hb1⟩
  have HB := Lib.hid hb1
  clear hb1 HL
  go_wp2_with fail
  refine (HD.out _ HB.out).mono ?_
  rintro e w5 ⟨rfl, hb⟩
  have HX := Lib.hid (DR.new w5 true 0 0)
  replace HB := Lib.hid (HB.out.trans ((hb.alloc hb.size (drO true 0 0)).mono HB.out.size))
  clear hb HD
  go_wp2_with fail
  refine (HW.out _ HB.out).mono ?_
  rintro e w6 ⟨ao, cap, rfl, hp, hb⟩
  replace HX := Lib.hid (HX.out.below hb)
  replace HB := Lib.hid (HB.out.trans (hb.mono HB.out.size))
  have HP := Lib.hid hp
  clear hb HW hp
  go_wp2_with fail
  refine (HC.out _).mono ?_
  rintro e w7 ⟨rfl, rfl⟩
  obtain ⟨x0, x1, x2⟩ := HX.out.c
  have he := eq_dr true true 0 0 0 0
  have HS := Lib.hid (Same_num (c1 := cap) (c2 := 1) (HP.out.below ((Below.refl _ _).alloc (Nat.le_refl _) (.cells #[.string ⟨#[49]⟩] 22))) (PRow.one w6) (by omega))
  replace HB := Lib.hid (HB.out.alloc HB.out.size (.cells #[.string ⟨#[49]⟩] 22))
  clear HP
  go_wp2_with fail
  refine HS.out.mono ?_
  rintro e w8 ⟨rfl, hb⟩
  replace HB := Lib.hid (HB.out.trans (hb.mono HB.out.size))
  clear hb
  go_wp2_with fail
  go_ret
  exact ⟨rfl, HB.out⟩

set_option maxHeartbeats 6400000 in
set_option maxRecDepth 100000 in
theorem even_c_in {s b : ByteArray} {t : Int} (h1 : ¬ 20 < s.size) (h2 : ¬ 256 < b.size) (ht0 : ¬ t < 0) (ht1 : ¬ 16 < t) {N : Nat} {p : ByteArray} (hN : 2 * t + 1 = (N : Int)) (h0N : 0 < N)  (w : World) (htab : Tab w) (hm : ML w)
    (hE : ∀ W, Below w.heap.size w W → Calls Tryz.prog 36 #[.string ⟨#[49]⟩, .int .i64 t] W fun e w' => ∃ g cap, e = .returned (.tuple #[.slice (some ⟨g, 0, none⟩) N cap, .int .i64 0]) ∧ (g < w'.heap.size ∧ ∀ k, k < N → w'.cell? ⟨g, k * 2 + 1, none⟩ = some (.string p)) ∧ Below W.heap.size W w')
    (hD : ∀ W, Below w.heap.size w W → Calls Tryz.prog 34 #[.string s, .int .i64 0, .string b] W fun e w' => e = .returned (.tuple #[.agg #[.bool true, .int .i64 0, .int .i64 0], .int .i64 0]) ∧ Below W.heap.size W w')
    (hW : ∀ W, Below w.heap.size w W → Calls Tryz.prog 33 #[.string s, .int .i64 0] W fun e w' => ∃ ao cap, e = .returned (.tuple #[.slice ao 1 cap, .int .i64 0]) ∧ PRow w' ao 1 (fun _ => ⟨#[49]⟩) ∧ Below W.heap.size W w')
    (hC : ∀ W, Calls Tryz.prog 53 #[.string b] W fun e w' => e = .returned (.int .i64 0) ∧ W = w') :
    Calls Tryz.prog 9 #[.string s, .int .i64 t, .string b] w fun e w' => e = .returned (.bool true) ∧ Below w.heap.size w w' := by
  have HL := Lib.hid (lives7_any w htab hm)
  have HD := Lib.hid hD
  have HW := Lib.hid hW
  have HC := Lib.hid hC
  clear htab hm hD hW hC
  have HE := Lib.hid hE
  clear hE
  go_enter Tryz.func9, Tryz.ntmps9
  go_wp2_with fail
  refine HL.out.mono ?_
  rintro e w1 ⟨rfl, hb1⟩
  have HB := Lib.hid hb1
  clear hb1 HL
  go_wp2_with fail
  refine (HE.out _ HB.out).mono ?_
  rintro e w2 ⟨g, cap, rfl, hrd, hb⟩
  have HR := Lib.hid hrd
  replace HB := Lib.hid (HB.out.trans (hb.mono HB.out.size))
  have HN33 : N ≤ 33 := by omega
  clear hb hrd HE
  go_wp2_with fail
  go_loopw [9] (fun i wr => ∃ k : Nat, k ≤ N ∧ i = .int .i64 (k : Int) ∧ Below w2.heap.size w2 wr) (fun i _ => N - (intOf i).toNat)
  case atStart => exact ⟨0, Nat.zero_le _, rfl, Below.refl _ _⟩
  case round =>
    obtain ⟨k, hk, rfl, hbr⟩ := hrel
    by_cases hlt : k < N
    · have c0 := (hbr.cell (p := ⟨g, 0 * 2 + 1, none⟩) HR.out.1).trans (HR.out.2 0 h0N)
      have c1 := (hbr.cell (p := ⟨g, k * 2 + 1, none⟩) HR.out.1).trans (HR.out.2 k hlt)
      rw [show 0 * 2 + 1 = 1 by omega] at c0
      have hne : (!(p.toList == p.toList)) = false := by simp
      have HBR := Lib.hid hbr
      clear hbr
      go_wp2_with fail
      go_quiet (fail)
      go_wp2_with fail
      go_roundw
      case rel => exact ⟨k + 1, by omega, by go_num, below_drewN HBR.out _⟩
      case measure => simp [intOf]; omega
    · replace HB := Lib.hid (HB.out.trans (hbr.mono HB.out.size))
      clear hbr HR
      go_wp2_with fail
      refine (HD.out _ HB.out).mono ?_
      rintro e w5 ⟨rfl, hb⟩
      have HX := Lib.hid (DR.new w5 true 0 0)
      replace HB := Lib.hid (HB.out.trans ((hb.alloc hb.size (drO true 0 0)).mono HB.out.size))
      clear hb HD
      go_wp2_with fail
      refine (HW.out _ HB.out).mono ?_
      rintro e w6 ⟨ao, cap, rfl, hp, hb⟩
      replace HX := Lib.hid (HX.out.below hb)
      replace HB := Lib.hid (HB.out.trans (hb.mono HB.out.size))
      have HP := Lib.hid hp
      clear hb HW hp
      go_wp2_with fail
      refine (HC.out _).mono ?_
      rintro e w7 ⟨rfl, rfl⟩
      obtain ⟨x0, x1, x2⟩ := HX.out.c
      have he := eq_dr true true 0 0 0 0
      have HS := Lib.hid (Same_num (c1 := cap) (c2 := 1) (HP.out.below ((Below.refl _ _).alloc (Nat.le_refl _) (.cells #[.string ⟨#[49]⟩] 22))) (PRow.one w6) (by omega))
      replace HB := Lib.hid (HB.out.alloc HB.out.size (.cells #[.string ⟨#[49]⟩] 22))
      clear HP
      go_wp2_with fail
      refine HS.out.mono ?_
      rintro e w8 ⟨rfl, hb⟩
      replace HB := Lib.hid (HB.out.trans (hb.mono HB.out.size))
      clear hb
      go_wp2_with fail
      go_ret
      exact ⟨rfl, HB.out⟩

theorem even_any (s b : ByteArray) (t : Int) (w : World) (hs : s.size ≤ 140737488351232) (htab : Tab w) (hm : ML w) :
    Calls Tryz.prog 9 #[.string s, .int .i64 t, .string b] w fun e w' => e = .returned (.bool true) ∧ Below w.heap.size w w' := by
  by_cases h1 : 20 < s.size
  · exact even_far1 h1 w htab hm
  by_cases h2 : 256 < b.size
  · exact even_far2 h1 h2 w htab hm
  have hT := fun W (h : Below w.heap.size w W) => htab.below h
  have hM := fun W (h : Below w.heap.size w W) => ml_keep hm (ml_pos hm) h
  have hin : ¬ t < 0 → ¬ 16 < t → ∃ (N : Nat) (p : ByteArray), 2 * t + 1 = (N : Int) ∧ 0 < N ∧ ∀ W, Below w.heap.size w W → Calls Tryz.prog 36 #[.string ⟨#[49]⟩, .int .i64 t] W fun e w' => ∃ g cap, e = .returned (.tuple #[.slice (some ⟨g, 0, none⟩) N cap, .int .i64 0]) ∧ (g < w'.heap.size ∧ ∀ k, k < N → w'.cell? ⟨g, k * 2 + 1, none⟩ = some (.string p)) ∧ Below W.heap.size W w' := fun h3 h4 => by
    obtain ⟨n, rfl⟩ := Int.eq_ofNat_of_zero_le (show 0 ≤ t by omega)
    obtain ⟨p, hp⟩ := even_exact (n := n) (by omega)
    exact ⟨2 * n + 1, p, by omega, by omega, fun W h => hp W (hT W h) (hM W h)⟩
  by_cases h0 : bwE s 0 = 0
  · obtain ⟨q, rfl, op, hb, hO⟩ := bw_zero h0
    have hW : ∀ W, Below w.heap.size w W → Calls Tryz.prog 33 #[.string (qstr q), .int .i64 0] W fun e w' => ∃ ao cap, e = .returned (.tuple #[.slice ao 1 cap, .int .i64 0]) ∧ PRow w' ao 1 (fun _ => ⟨#[49]⟩) ∧ Below W.heap.size W w' := fun W h =>
      (weights_ok (n := 0) op hb (by omega) hO W (hT W h) (hM W h)).mono fun e w' ⟨ao, cap, he, hr, hbb⟩ => ⟨ao, cap, he, (srow_prow hr).congrJ (wB_zero q), hbb⟩
    have hC := fun W => rCheck3_any b W (by omega)
    by_cases hc : schk b = 0
    · obtain ⟨hbits, _⟩ := schk_bitsJ hc
      have hD : ∀ W, Below w.heap.size w W → Calls Tryz.prog 34 #[.string (qstr q), .int .i64 0, .string b] W fun e w' => e = .returned (.tuple #[.agg #[.bool true, .int .i64 0, .int .i64 0], .int .i64 0]) ∧ Below W.heap.size W w' := fun W h =>
        bDraw_true (n := 0) (v := 0) (u := 0) (c := 0) op hb (by omega) hO (by omega) W (hT W h) (hM W h) (fun W' ao cap hr ht => pDraw_ok (v := 0) (u := 0) hr (wB_ok hb (by omega) hO) ht hbits (by omega) (pick_zero q _))
      rw [bchk_yes hbits] at hC
      by_cases h3 : t < 0
      · exact even_c_lo h1 h2 h3 w htab hm hD hW hC
      by_cases h4 : 16 < t
      · exact even_c_hi h1 h2 h4 w htab hm hD hW hC
      obtain ⟨N, p, e1, e2, e3⟩ := hin h3 h4
      exact even_c_in h1 h2 h3 h4 e1 e2 w htab hm e3 hD hW hC
    · have hD : ∀ W, Below w.heap.size w W → Calls Tryz.prog 34 #[.string (qstr q), .int .i64 0, .string b] W fun e w' => e = .returned (.tuple #[.agg #[.bool false, .int .i64 0, .int .i64 0], .int .i64 ((schk b : Nat) : Int)]) ∧ Below W.heap.size W w' := fun W h =>
        bDraw_false (n := 0) (v := 0) (u := 0) op hb (by omega) hO (by omega) W (hT W h) (hM W h) (fun W' ao cap hr ht => pDraw_b hr (wB_ok hb (by omega) hO) ht hc (by omega))
      have hne : ((bchk b.data.toList : Nat) : Int) ≠ 0 := by
        intro e
        have hbits : IsBits b.data.toList := by
          rcases Classical.em (IsBits b.data.toList) with h | h
          · exact h
          · rw [bchk_no h] at e; omega
        exact hc (schk_ok hbits (by omega))
      have hne2 : (((schk b : Nat) : Int) != 0) = true := errne hc
      have hne3 : (((bchk b.data.toList : Nat) : Int) != 0) = true := by rw [bne_iff_ne]; exact hne
      by_cases h3 : t < 0
      · exact even_b_lo h1 h2 h3 hne2 hne3 w htab hm hD hW hC
      by_cases h4 : 16 < t
      · exact even_b_hi h1 h2 h4 hne2 hne3 w htab hm hD hW hC
      obtain ⟨N, p, e1, e2, e3⟩ := hin h3 h4
      exact even_b_in h1 h2 h3 h4 e1 e2 hne2 hne3 w htab hm e3 hD hW hC
  · have hss : s.size ≤ 1000000 := by omega
    have hD := fun W (h : Below w.heap.size w W) => bDraw_w (b := b) hss h0 W (hT W h) (hM W h)
    have hW := fun W (h : Below w.heap.size w W) => weights_err hss h0 W (hT W h) (hM W h)
    have hne : (((bwE s 0 : Nat) : Int) != 0) = true := errne h0
    by_cases h3 : t < 0
    · exact even_a_lo h1 h2 h3 hne hne w htab hm hD hW
    by_cases h4 : 16 < t
    · exact even_a_hi h1 h2 h4 hne hne w htab hm hD hW
    obtain ⟨N, p, e1, e2, e3⟩ := hin h3 h4
    exact even_a_in h1 h2 h3 h4 e1 e2 hne hne w htab hm e3 hD hW

end Go.Proofs.YteojekiocecdnaaGreatDoor
