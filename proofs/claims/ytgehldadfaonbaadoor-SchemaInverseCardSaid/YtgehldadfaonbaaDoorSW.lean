/-
  awake: the examples that every statement of the layer asks.
-/
import Derived.Test.YtgehldadfaonbaaDoorSV
namespace Go.Proofs.YtgehldadfaonbaaDoor
open Go.RowKit Go.Shelf Go.ChangeMaps Go.Maps

theorem colOk {w : World} {hi : Int} {b : Nat} (h : TL w (some ⟨b, 0, none⟩) [tRed, tGreen]) (h1 : -9223372036854775808 ≤ hi) (h2 : hi ≤ 9223372036854775807) : ColOk w (colC hi b) :=
  ⟨h, by show 2 ≤ _; omega, by show 6 ≤ maxLen; unfold maxLen; omega, fun j => by
    show ([tRed, tGreen].getD j ByteArray.empty).size ≤ maxLen
    unfold maxLen
    match j with
    | 0 => show 3 ≤ _; omega
    | 1 => show 5 ≤ _; omega
    | _ + 2 => show 0 ≤ _; omega, by show _ ≤ (0 : Int); omega, by show (0 : Int) ≤ _; omega, h1, h2⟩
theorem ageOk (w : World) : ColOk w ageC :=
  ⟨.inl rfl, by show 0 ≤ _; omega, by show 3 ≤ maxLen; unfold maxLen; omega, fun j => by
    show (([] : List ByteArray).getD j ByteArray.empty).size ≤ maxLen
    show 0 ≤ _; omega, by show _ ≤ (0 : Int); omega, by show (0 : Int) ≤ _; omega, by show _ ≤ (120 : Int); omega, by show (120 : Int) ≤ _; omega⟩
theorem twoOk {w : World} {hi : Int} {b : Nat} (h : TL w (some ⟨b, 0, none⟩) [tRed, tGreen]) (h1 : -9223372036854775808 ≤ hi) (h2 : hi ≤ 9223372036854775807) : ColsOk w [ageC, colC hi b] := fun j hj => by
  match j, hj with
  | 0, _ => exact ageOk w
  | 1, _ => exact colOk h h1 h2
theorem chkC_at (names : List ByteArray) (hi : Int) (b : Nat) : chkC names (colC hi b) = chkC names (colC hi 0) := by unfold chkC rangeB placeB; rfl
theorem chkS_two (hi : Int) (a : Option Addr) (c b : Nat) : chkS (pplS a c [ageC, colC hi b]) = if chkC [ageC.name] (colC hi 0) = 0 then (0, -1) else (chkC [ageC.name] (colC hi 0), 1) := by
  have e1 : chkC [] ageC = 0 := by decide +kernel
  have e : tabE (pplS a c [ageC, colC hi b]) = 0 := by
    unfold tabE
    rw [if_neg (by show ¬ nmB ⟨#[112, 101, 111, 112, 108, 101]⟩ = false; decide +kernel), if_neg (by unfold manyB lst mst; simp), if_neg (by simp), if_neg (by simp)]
  unfold chkS
  rw [if_pos e]
  show chkFrom [] [ageC, colC hi b] = _
  unfold chkFrom
  rw [if_pos e1]
  show chkFrom [ageC.name] [colC hi b] = _
  unfold chkFrom
  rw [chkC_at]
  rfl
theorem chk_good (a : Option Addr) (c b : Nat) : chkS (pplS a c [ageC, colC 1 b]) = (0, -1) := by
  rw [chkS_two, if_pos (by decide +kernel)]
theorem chk_high (a : Option Addr) (c b : Nat) : chkS (pplS a c [ageC, colC 2 b]) = (2, 1) := by
  rw [chkS_two, show chkC [ageC.name] (colC 2 0) = 2 by decide +kernel]; rfl

theorem age_lift {V W : World} (h : Below V.heap.size V W) : Calls Tryd.prog 31 #[] W fun e w' => e = .returned (.agg ageC.cells) ∧ Below V.heap.size V w' :=
  (age_any W).mono fun _ _ ⟨h1, h2⟩ => ⟨h1, h.trans (h2.mono h.size)⟩
theorem colour_lift {V W : World} (h : Below V.heap.size V W) : Calls Tryd.prog 32 #[] W fun e w' => ∃ b, e = .returned (.agg (colC 1 b).cells) ∧ TL w' (some ⟨b, 0, none⟩) [tRed, tGreen] ∧ Below V.heap.size V w' :=
  (colour_any W).mono fun _ _ ⟨b, h1, _, h2, h3⟩ => ⟨b, h1, h2, h.trans (h3.mono h.size)⟩
/-- people over a list that has just been laid. -/
theorem people_lift {V W : World} (h : Below V.heap.size V W) (cs : Array Value) (t : TypeId) (n c : Nat) : Calls Tryd.prog 30 #[.slice (some ⟨W.heap.size, 0, none⟩) n c] (W.alloc (.cells cs t)) fun e w' => e = .returned (.agg #[.string ⟨#[112, 101, 111, 112, 108, 101]⟩, .bool false, .int .i64 3, .slice (some ⟨W.heap.size, 0, none⟩) n c]) ∧ w'.heap[W.heap.size]? = some (.cells cs t (0, 0)) ∧ Below W.heap.size W w' ∧ Below V.heap.size V w' := by
  refine (people_any _ n c (W.alloc (.cells cs t))).mono ?_
  rintro e w' ⟨h1, h2⟩
  have h3 : Below W.heap.size W (W.alloc (.cells cs t)) := (Below.refl _ _).alloc (Nat.le_refl _) _
  exact ⟨h1, (h2.block _ (by simp)).trans (heap_alloc_new W _), h3.trans (h2.mono h3.size), h.trans ((h3.trans (h2.mono h3.size)).mono h.size)⟩
theorem checks_good {V W W' : World} {b g c : Nat} (hR : Res V) (h : Below V.heap.size V W) (hk : Below W'.heap.size W' W) (hT : TL W' (some ⟨b, 0, none⟩) [tRed, tGreen]) (hr : W.heap[g]? = some (.cells (colsV [ageC, colC 1 b]).toArray 44 (0, 0))) :
    Calls Tryd.prog 33 #[.agg #[.string ⟨#[112, 101, 111, 112, 108, 101]⟩, .bool false, .int .i64 3, .slice (some ⟨g, 0, none⟩) 2 c], .int .i64 0, .int .i64 (-1)] W fun e w' => e = .returned (.bool true) ∧ Below V.heap.size V w' :=
  (checks_any (s := pplS (some ⟨g, 0, none⟩) c [ageC, colC 1 b]) 0 (-1) (hR.of h) (CL.row hr) (twoOk (hT.below hk) (by omega) (by omega)) (chk_good _ _ _)).mono fun _ _ ⟨h1, h2⟩ => ⟨h1, h.trans (h2.mono h.size)⟩
theorem checks_high {V W W' : World} {b g c : Nat} (hR : Res V) (h : Below V.heap.size V W) (hk : Below W'.heap.size W' W) (hT : TL W' (some ⟨b, 0, none⟩) [tRed, tGreen]) (hr : W.heap[g]? = some (.cells (colsV [ageC, colC 2 b]).toArray 44 (0, 0))) :
    Calls Tryd.prog 33 #[.agg #[.string ⟨#[112, 101, 111, 112, 108, 101]⟩, .bool false, .int .i64 3, .slice (some ⟨g, 0, none⟩) 2 c], .int .i64 2, .int .i64 1] W fun e w' => e = .returned (.bool true) ∧ Below V.heap.size V w' :=
  (checks_any (s := pplS (some ⟨g, 0, none⟩) c [ageC, colC 2 b]) 2 1 (hR.of h) (CL.row hr) (twoOk (hT.below hk) (by omega) (by omega)) (chk_high _ _ _)).mono fun _ _ ⟨h1, h2⟩ => ⟨h1, h.trans (h2.mono h.size)⟩
theorem name_a1 {V W : World} (hR : Res V) (h : Below V.heap.size V W) : Calls Tryd.prog 23 #[.string ⟨#[97, 95, 49]⟩] W fun e w' => e = .returned (.bool true) ∧ Below V.heap.size V w' := by
  have e : nmB ⟨#[97, 95, 49]⟩ = true := by decide +kernel
  rw [← e]
  exact (name_any _ W (hR.of h)).mono fun _ _ ⟨h1, h2⟩ => ⟨h1, h.trans (h2.mono h.size)⟩
theorem name_from {V W : World} (hR : Res V) (h : Below V.heap.size V W) : Calls Tryd.prog 23 #[.string ⟨#[102, 114, 111, 109]⟩] W fun e w' => e = .returned (.bool false) ∧ Below V.heap.size V w' := by
  have e : nmB ⟨#[102, 114, 111, 109]⟩ = false := by decide +kernel
  rw [← e]
  exact (name_any _ W (hR.of h)).mono fun _ _ ⟨h1, h2⟩ => ⟨h1, h.trans (h2.mono h.size)⟩
theorem text_green {V W : World} {b : Nat} (hR : Res V) (h : Below V.heap.size V W) (hT : TL W (some ⟨b, 0, none⟩) [tRed, tGreen]) : Calls Tryd.prog 36 #[.agg (colC 1 b).cells, .int .i64 1] W fun e w' => e = .returned (.string tGreen) ∧ Below V.heap.size V w' :=
  (text_words (c := colC 1 b) (v := 1) (hR.of h) (colOk hT (by omega) (by omega)) (by unfold vldB; rw [chkC_at]; decide +kernel) (by show 0 < 2; omega) (by show (0 : Int) ≤ 1; omega) (by show (1 : Int) ≤ 1; omega) (by omega) (by show 1 < 2; omega)).mono fun _ _ ⟨h1, h2⟩ => ⟨h1, h.trans (h2.mono h.size)⟩

set_option maxHeartbeats 6400000 in
set_option maxRecDepth 100000 in
theorem awake_any (w : World) (hR : Res w) : Calls Tryd.prog 11 #[] w fun e w' => e = .returned (.bool true) ∧ Below w.heap.size w w' := by
  have HRR := Lib.hid hR
  clear hR
  go_enter Tryd.func11, Tryd.ntmps11
  go_wp2_with fail
  refine (colour_any w).mono ?_
  rintro e w1 ⟨b0, rfl, hb0, hT0, hb1⟩
  have HX := Lib.hid (And.intro hb0 (And.intro hT0 hb1))
  clear hb0 hT0 hb1
  go_wp2_with fail
  obtain ⟨V, hV⟩ : ∃ V, V = w1.alloc (.cells #[.string ⟨#[99, 111, 108, 111, 117, 114]⟩, .int .i64 0, .int .i64 2, .slice (some ⟨b0, 0, none⟩) 2 2] 44) := ⟨_, rfl⟩
  have hat : ColAt V w1.heap.size (colC 2 b0) := by rw [hV]; exact heap_alloc_new w1 _
  have h1V : Below w1.heap.size w1 V := by rw [hV]; exact (Below.refl _ _).alloc (Nat.le_refl _) _
  obtain ⟨hb0, hT0, hb1⟩ := HX.out
  have HT0 := Lib.hid (hT0.below h1V)
  have hwV : Below w.heap.size w V := hb1.trans (h1V.mono hb1.size)
  have HW := Lib.hid hwV
  have HR := Lib.hid (HRR.out.of hwV)
  have HS := Lib.hid (show ∀ W, Below V.heap.size V W → W.cell? ⟨w1.heap.size, 0, none⟩ = some (.string ⟨#[99, 111, 108, 111, 117, 114]⟩) ∧ W.cell? ⟨w1.heap.size, 1, none⟩ = some (.int .i64 0) ∧ W.cell? ⟨w1.heap.size, 2, none⟩ = some (.int .i64 2) ∧ W.cell? ⟨w1.heap.size, 3, none⟩ = some (.slice (some ⟨b0, 0, none⟩) 2 2) from fun W h =>
    ⟨(hat.below h).c0, (hat.below h).c1, (hat.below h).c2, (hat.below h).c3⟩)
  rw [← hV]
  clear hV hat h1V hb0 hT0 hb1 hwV HX HRR
  have hD := (Below.refl V.heap.size V).drew
  have hgr : (tGreen.toList == [103, 114, 101, 101, 110]) = true := by rw [Go.Lib.toList_data]; rfl
  go_region_held3 (fun W => W.cell? ⟨w1.heap.size, 0, none⟩ = some (.string ⟨#[99, 111, 108, 111, 117, 114]⟩) ∧ W.cell? ⟨w1.heap.size, 1, none⟩ = some (.int .i64 0) ∧ W.cell? ⟨w1.heap.size, 2, none⟩ = some (.int .i64 2) ∧ W.cell? ⟨w1.heap.size, 3, none⟩ = some (.slice (some ⟨b0, 0, none⟩) 2 2))
    (first | with_reducible exact HS.out _ hD | with_reducible exact HS.out _ (by assumption) | exact HS.out _ (hB.alloc hB.size _))
    (first
      | (go_at_call 31; refine (age_lift (V := V) (by assumption)).mono ?_; rintro e u1 ⟨rfl, hB⟩)
      | (go_at_call 32; refine (colour_lift (V := V) (by assumption)).mono ?_; rintro e u2 ⟨b, rfl, hT, hB⟩)
      | (go_at_call 30; refine (people_lift (V := V) hB _ _ _ _).mono ?_; rintro e u3 ⟨rfl, hr, hk, hB⟩)
      | (go_at_call 33; refine (checks_good (V := V) HR.out hB hk hT hr).mono ?_; rintro e u4 ⟨rfl, hB⟩)
      | (go_at_call 33; refine (checks_high (V := V) HR.out hB hB HT0.out hr).mono ?_; rintro e u4 ⟨rfl, hB⟩)
      | (go_at_call_of 23 (Value.string ⟨#[97, 95, 49]⟩); refine (name_a1 (V := V) HR.out hB).mono ?_; rintro e u5 ⟨rfl, hB⟩)
      | (go_at_call_of 23 (Value.string ⟨#[102, 114, 111, 109]⟩); refine (name_from (V := V) HR.out hB).mono ?_; rintro e u6 ⟨rfl, hB⟩)
      | (go_at_call 36; refine (text_green (V := V) HR.out hB hT).mono ?_; rintro e u7 ⟨rfl, hB⟩))
  all_goals
    have HF := Lib.hid (HW.out.trans (hB.mono HW.out.size))
    clear hB
    go_wp2_with fail
    go_ret
    exact ⟨rfl, HF.out⟩

end Go.Proofs.YtgehldadfaonbaaDoor
