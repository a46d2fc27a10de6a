/-
  The reference of rat: Write and Order.
-/
import Derived.Test.YtadkijaofmcgfaaGreatDoorU2
namespace Go.Proofs.YtadkijaofmcgfaaGreatDoor
open Go.RowKit NV
open Go.Lib (decDigits)

theorem lift_s {f : Nat} {args : Array Value} {w0 W : World} {v : Value} (h0 : Below w0.heap.size w0 W) (hc : Calls Tryz.prog f args W fun e w' => e = .returned v ∧ Below W.heap.size W w') :
    Calls Tryz.prog f args W fun e w' => e = .returned v ∧ Below W.heap.size W w' ∧ Below w0.heap.size w0 w' :=
  hc.mono fun _ _ ⟨h1, h3⟩ => ⟨h1, h3, h0.trans (h3.mono h0.size)⟩

set_option maxHeartbeats 3200000 in
set_option maxRecDepth 100000 in
theorem rwrite_N {w : World} {v : Value} {q : Rat} (hq : QQ w v q) (l : QL 1000000 q) (ho : ¬ Ok (tp q)) :
    Calls Tryz.prog 93 #[v] w (RQ q w) := by
  obtain ⟨a1, k1, a2, k2, rfl⟩ := hq.form
  obtain ⟨_, hx, hy⟩ := hq.nums
  have hb0 : Below w.heap.size w (w.alloc (.cells #[.bool (ng q), .slice a1 (ln (tp q)) k1, .slice a2 (ln q.den) k2] 78)) := (Below.refl _ _).alloc (Nat.le_refl _) _
  have HX := Lib.hid (hx.below hb0)
  have HY := Lib.hid (hy.below hb0)
  have HB := Lib.hid hb0
  have HQ := Lib.hid (QR.new w (ng q) (.slice a1 (ln (tp q)) k1) (.slice a2 (ln q.den) k2))
  have HL := Lib.hid l
  have HW := Lib.hid (show wQ q = (⟨#[]⟩, 5) from if_neg (fun h => ho h.1))
  have h1 : (4000 : Int) < (((dstr (tp q)).size : Nat) : Int) := by rw [dstr_size]; unfold Ok at ho; omega
  have hcl := ho
  clear hq hx hy hb0 l hcl ho
  unfold RQ
  rw [HW.out]
  clear HW
  go_enter Tryz.func93, Tryz.ntmps93
  go_wp2_with fail
  generalize w.alloc (.cells #[.bool (ng q), .slice a1 (ln (tp q)) k1, .slice a2 (ln q.den) k2] 78) = w0 at HX HY HB HQ ⊢
  have HS := Lib.hid (show ∀ W, Below w0.heap.size w0 W → W.cell? ⟨w.heap.size, 1, none⟩ = some (.slice a1 (ln (tp q)) k1) ∧ W.cell? ⟨w.heap.size, 2, none⟩ = some (.slice a2 (ln q.den) k2) from fun W h => ⟨(HQ.out.keep h).c1, (HQ.out.keep h).c2⟩)
  have hD0 := (Below.refl w0.heap.size w0).drew
  go_region_held3 (fun W => W.cell? ⟨w.heap.size, 1, none⟩ = some (.slice a1 (ln (tp q)) k1) ∧ W.cell? ⟨w.heap.size, 2, none⟩ = some (.slice a2 (ln q.den) k2))
    (first | exact HS.out _ hD0 | exact HS.out _ (by assumption))
    (first
      | (go_at_call_of 111 (Value.slice a1 (ln (tp q)) k1); refine (lift_s (w0 := w0) (by assumption) (iwrite_any (n := tp q) (HX.out.below (by assumption)) HL.out.1)).mono ?_; rintro e u1 ⟨rfl, hb1, hB1⟩)
      | (go_at_call_of 111 (Value.slice a2 (ln q.den) k2); refine (lift_s (w0 := w0) (by assumption) (iwrite_any (n := q.den) (HY.out.below (by assumption)) HL.out.2)).mono ?_; rintro e u2 ⟨rfl, hb2, hB2⟩))
  replace HB := Lib.hid (HB.out.trans (hB2.mono HB.out.size))
  have c0 := (HQ.out.keep hB2).c0
  clear hb1 hB1 hb2 hB2 hD0 HS
  go_wp2_with fail
  go_ret2
  exact ⟨rfl, HB.out⟩

set_option maxHeartbeats 3200000 in
set_option maxRecDepth 100000 in
theorem rwrite_D {w : World} {v : Value} {q : Rat} (hq : QQ w v q) (l : QL 1000000 q) (ho : Ok (tp q)) (ho2 : ¬ Ok q.den) :
    Calls Tryz.prog 93 #[v] w (RQ q w) := by
  obtain ⟨a1, k1, a2, k2, rfl⟩ := hq.form
  obtain ⟨_, hx, hy⟩ := hq.nums
  have hb0 : Below w.heap.size w (w.alloc (.cells #[.bool (ng q), .slice a1 (ln (tp q)) k1, .slice a2 (ln q.den) k2] 78)) := (Below.refl _ _).alloc (Nat.le_refl _) _
  have HX := Lib.hid (hx.below hb0)
  have HY := Lib.hid (hy.below hb0)
  have HB := Lib.hid hb0
  have HQ := Lib.hid (QR.new w (ng q) (.slice a1 (ln (tp q)) k1) (.slice a2 (ln q.den) k2))
  have HL := Lib.hid l
  have HW := Lib.hid (show wQ q = (⟨#[]⟩, 5) from if_neg (fun h => ho2 h.2))
  have h1 : ¬ (4000 : Int) < (((dstr (tp q)).size : Nat) : Int) := by rw [dstr_size]; unfold Ok at ho; omega
  have h2 : (4000 : Int) < (((dstr q.den).size : Nat) : Int) := by rw [dstr_size]; unfold Ok at ho2; omega
  have hcl := And.intro ho ho2
  clear hq hx hy hb0 l hcl ho ho2
  unfold RQ
  rw [HW.out]
  clear HW
  go_enter Tryz.func93, Tryz.ntmps93
  go_wp2_with fail
  generalize w.alloc (.cells #[.bool (ng q), .slice a1 (ln (tp q)) k1, .slice a2 (ln q.den) k2] 78) = w0 at HX HY HB HQ ⊢
  have HS := Lib.hid (show ∀ W, Below w0.heap.size w0 W → W.cell? ⟨w.heap.size, 1, none⟩ = some (.slice a1 (ln (tp q)) k1) ∧ W.cell? ⟨w.heap.size, 2, none⟩ = some (.slice a2 (ln q.den) k2) from fun W h => ⟨(HQ.out.keep h).c1, (HQ.out.keep h).c2⟩)
  have hD0 := (Below.refl w0.heap.size w0).drew
  go_region_held3 (fun W => W.cell? ⟨w.heap.size, 1, none⟩ = some (.slice a1 (ln (tp q)) k1) ∧ W.cell? ⟨w.heap.size, 2, none⟩ = some (.slice a2 (ln q.den) k2))
    (first | exact HS.out _ hD0 | exact HS.out _ (by assumption))
    (first
      | (go_at_call_of 111 (Value.slice a1 (ln (tp q)) k1); refine (lift_s (w0 := w0) (by assumption) (iwrite_any (n := tp q) (HX.out.below (by assumption)) HL.out.1)).mono ?_; rintro e u1 ⟨rfl, hb1, hB1⟩)
      | (go_at_call_of 111 (Value.slice a2 (ln q.den) k2); refine (lift_s (w0 := w0) (by assumption) (iwrite_any (n := q.den) (HY.out.below (by assumption)) HL.out.2)).mono ?_; rintro e u2 ⟨rfl, hb2, hB2⟩))
  replace HB := Lib.hid (HB.out.trans (hB2.mono HB.out.size))
  have c0 := (HQ.out.keep hB2).c0
  clear hb1 hB1 hb2 hB2 hD0 HS
  go_wp2_with fail
  go_ret2
  exact ⟨rfl, HB.out⟩

set_option maxHeartbeats 3200000 in
set_option maxRecDepth 100000 in
theorem rwrite_m1 {w : World} {v : Value} {q : Rat} (hq : QQ w v q) (l : QL 1000000 q) (ho : QOk q) (hm : ng q = true) (hd : q.den = 1) :
    Calls Tryz.prog 93 #[v] w (RQ q w) := by
  obtain ⟨a1, k1, a2, k2, rfl⟩ := hq.form
  obtain ⟨_, hx, hy⟩ := hq.nums
  have hb0 : Below w.heap.size w (w.alloc (.cells #[.bool (ng q), .slice a1 (ln (tp q)) k1, .slice a2 (ln q.den) k2] 78)) := (Below.refl _ _).alloc (Nat.le_refl _) _
  have HX := Lib.hid (hx.below hb0)
  have HY := Lib.hid (hy.below hb0)
  have HB := Lib.hid hb0
  have HQ := Lib.hid (QR.new w (ng q) (.slice a1 (ln (tp q)) k1) (.slice a2 (ln q.den) k2))
  have HL := Lib.hid l
  have HW := Lib.hid (show wQ q = (⟨#[45]⟩ ++ dstr (tp q), 0) by rw [wQ_ok ho]; unfold qstr rstr; rw [hm]; rw [if_pos hd]; rfl)
  have h1 : ¬ (4000 : Int) < (((dstr (tp q)).size : Nat) : Int) := by have := ho.1; rw [dstr_size]; unfold Ok at this; omega
  have h2 : ¬ (4000 : Int) < (((dstr q.den).size : Nat) : Int) := by have := ho.2; rw [dstr_size]; unfold Ok at this; omega
  have h3 : (dstr (tp q)).size ≤ 4000 := by omega
  have h4 : (dstr q.den).size ≤ 4000 := by omega
  have h5 : ((dstr q.den).toList == [49]) = true := by rw [dstr_is q.den 49 (by decide)]; exact decide_eq_true (by simpa using hd)
  have hcl := And.intro ho hd
  rw [hm] at HQ
  clear hq hx hy hb0 l hcl ho hd
  unfold RQ
  rw [HW.out]
  generalize wQ q = wq at HW
  rw [hm] at HX HY HB ⊢
  clear hm HW
  go_enter Tryz.func93, Tryz.ntmps93
  go_wp2_with fail
  generalize w.alloc (.cells #[.bool true, .slice a1 (ln (tp q)) k1, .slice a2 (ln q.den) k2] 78) = w0 at HX HY HB HQ ⊢
  have HS := Lib.hid (show ∀ W, Below w0.heap.size w0 W → W.cell? ⟨w.heap.size, 1, none⟩ = some (.slice a1 (ln (tp q)) k1) ∧ W.cell? ⟨w.heap.size, 2, none⟩ = some (.slice a2 (ln q.den) k2) from fun W h => ⟨(HQ.out.keep h).c1, (HQ.out.keep h).c2⟩)
  have hD0 := (Below.refl w0.heap.size w0).drew
  go_region_held3 (fun W => W.cell? ⟨w.heap.size, 1, none⟩ = some (.slice a1 (ln (tp q)) k1) ∧ W.cell? ⟨w.heap.size, 2, none⟩ = some (.slice a2 (ln q.den) k2))
    (first | exact HS.out _ hD0 | exact HS.out _ (by assumption))
    (first
      | (go_at_call_of 111 (Value.slice a1 (ln (tp q)) k1); refine (lift_s (w0 := w0) (by assumption) (iwrite_any (n := tp q) (HX.out.below (by assumption)) HL.out.1)).mono ?_; rintro e u1 ⟨rfl, hb1, hB1⟩)
      | (go_at_call_of 111 (Value.slice a2 (ln q.den) k2); refine (lift_s (w0 := w0) (by assumption) (iwrite_any (n := q.den) (HY.out.below (by assumption)) HL.out.2)).mono ?_; rintro e u2 ⟨rfl, hb2, hB2⟩))
  replace HB := Lib.hid (HB.out.trans (hB2.mono HB.out.size))
  have c0 := (HQ.out.keep hB2).c0
  clear hb1 hB1 hb2 hB2 hD0 HS
  go_wp2_with fail
  go_ret2
  exact ⟨rfl, HB.out⟩

set_option maxHeartbeats 3200000 in
set_option maxRecDepth 100000 in
theorem rwrite_md {w : World} {v : Value} {q : Rat} (hq : QQ w v q) (l : QL 1000000 q) (ho : QOk q) (hm : ng q = true) (hd : q.den ≠ 1) :
    Calls Tryz.prog 93 #[v] w (RQ q w) := by
  obtain ⟨a1, k1, a2, k2, rfl⟩ := hq.form
  obtain ⟨_, hx, hy⟩ := hq.nums
  have hb0 : Below w.heap.size w (w.alloc (.cells #[.bool (ng q), .slice a1 (ln (tp q)) k1, .slice a2 (ln q.den) k2] 78)) := (Below.refl _ _).alloc (Nat.le_refl _) _
  have HX := Lib.hid (hx.below hb0)
  have HY := Lib.hid (hy.below hb0)
  have HB := Lib.hid hb0
  have HQ := Lib.hid (QR.new w (ng q) (.slice a1 (ln (tp q)) k1) (.slice a2 (ln q.den) k2))
  have HL := Lib.hid l
  have HW := Lib.hid (show wQ q = (⟨#[45]⟩ ++ dstr (tp q) ++ ⟨#[47]⟩ ++ dstr q.den, 0) by rw [wQ_ok ho]; unfold qstr rstr; rw [hm]; rw [if_neg hd]; rfl)
  have h1 : ¬ (4000 : Int) < (((dstr (tp q)).size : Nat) : Int) := by have := ho.1; rw [dstr_size]; unfold Ok at this; omega
  have h2 : ¬ (4000 : Int) < (((dstr q.den).size : Nat) : Int) := by have := ho.2; rw [dstr_size]; unfold Ok at this; omega
  have h3 : (dstr (tp q)).size ≤ 4000 := by omega
  have h4 : (dstr q.den).size ≤ 4000 := by omega
  have h5 : ((dstr q.den).toList == [49]) = false := by rw [dstr_is q.den 49 (by decide)]; exact decide_eq_false (by simpa using hd)
  have hcl := And.intro ho hd
  have h6 : ((⟨#[45]⟩ : ByteArray) ++ dstr (tp q)).size ≤ 4001 := by rw [ByteArray.size_append, show (⟨#[45]⟩ : ByteArray).size = 1 from rfl]; omega
  have h7 : ((⟨#[45]⟩ ++ dstr (tp q)) ++ (⟨#[47]⟩ : ByteArray)).size ≤ 4002 := by rw [ByteArray.size_append, show (⟨#[47]⟩ : ByteArray).size = 1 from rfl]; omega
  rw [hm] at HQ
  clear hq hx hy hb0 l hcl ho hd
  unfold RQ
  rw [HW.out]
  generalize wQ q = wq at HW
  rw [hm] at HX HY HB ⊢
  clear hm HW
  go_enter Tryz.func93, Tryz.ntmps93
  go_wp2_with fail
  generalize w.alloc (.cells #[.bool true, .slice a1 (ln (tp q)) k1, .slice a2 (ln q.den) k2] 78) = w0 at HX HY HB HQ ⊢
  have HS := Lib.hid (show ∀ W, Below w0.heap.size w0 W → W.cell? ⟨w.heap.size, 1, none⟩ = some (.slice a1 (ln (tp q)) k1) ∧ W.cell? ⟨w.heap.size, 2, none⟩ = some (.slice a2 (ln q.den) k2) from fun W h => ⟨(HQ.out.keep h).c1, (HQ.out.keep h).c2⟩)
  have hD0 := (Below.refl w0.heap.size w0).drew
  go_region_held3 (fun W => W.cell? ⟨w.heap.size, 1, none⟩ = some (.slice a1 (ln (tp q)) k1) ∧ W.cell? ⟨w.heap.size, 2, none⟩ = some (.slice a2 (ln q.den) k2))
    (first | exact HS.out _ hD0 | exact HS.out _ (by assumption))
    (first
      | (go_at_call_of 111 (Value.slice a1 (ln (tp q)) k1); refine (lift_s (w0 := w0) (by assumption) (iwrite_any (n := tp q) (HX.out.below (by assumption)) HL.out.1)).mono ?_; rintro e u1 ⟨rfl, hb1, hB1⟩)
      | (go_at_call_of 111 (Value.slice a2 (ln q.den) k2); refine (lift_s (w0 := w0) (by assumption) (iwrite_any (n := q.den) (HY.out.below (by assumption)) HL.out.2)).mono ?_; rintro e u2 ⟨rfl, hb2, hB2⟩))
  replace HB := Lib.hid (HB.out.trans (hB2.mono HB.out.size))
  have c0 := (HQ.out.keep hB2).c0
  clear hb1 hB1 hb2 hB2 hD0 HS
  go_wp2_with fail
  go_ret2
  exact ⟨rfl, HB.out⟩

set_option maxHeartbeats 3200000 in
set_option maxRecDepth 100000 in
theorem rwrite_p1 {w : World} {v : Value} {q : Rat} (hq : QQ w v q) (l : QL 1000000 q) (ho : QOk q) (hm : ng q = false) (hd : q.den = 1) :
    Calls Tryz.prog 93 #[v] w (RQ q w) := by
  obtain ⟨a1, k1, a2, k2, rfl⟩ := hq.form
  obtain ⟨_, hx, hy⟩ := hq.nums
  have hb0 : Below w.heap.size w (w.alloc (.cells #[.bool (ng q), .slice a1 (ln (tp q)) k1, .slice a2 (ln q.den) k2] 78)) := (Below.refl _ _).alloc (Nat.le_refl _) _
  have HX := Lib.hid (hx.below hb0)
  have HY := Lib.hid (hy.below hb0)
  have HB := Lib.hid hb0
  have HQ := Lib.hid (QR.new w (ng q) (.slice a1 (ln (tp q)) k1) (.slice a2 (ln q.den) k2))
  have HL := Lib.hid l
  have HW := Lib.hid (show wQ q = (dstr (tp q), 0) by rw [wQ_ok ho]; unfold qstr rstr; rw [hm]; rw [if_pos hd]; rfl)
  have h1 : ¬ (4000 : Int) < (((dstr (tp q)).size : Nat) : Int) := by have := ho.1; rw [dstr_size]; unfold Ok at this; omega
  have h2 : ¬ (4000 : Int) < (((dstr q.den).size : Nat) : Int) := by have := ho.2; rw [dstr_size]; unfold Ok at this; omega
  have h3 : (dstr (tp q)).size ≤ 4000 := by omega
  have h4 : (dstr q.den).size ≤ 4000 := by omega
  have h5 : ((dstr q.den).toList == [49]) = true := by rw [dstr_is q.den 49 (by decide)]; exact decide_eq_true (by simpa using hd)
  have hcl := And.intro ho hd
  rw [hm] at HQ
  clear hq hx hy hb0 l hcl ho hd
  unfold RQ
  rw [HW.out]
  generalize wQ q = wq at HW
  rw [hm] at HX HY HB ⊢
  clear hm HW
  go_enter Tryz.func93, Tryz.ntmps93
  go_wp2_with fail
  generalize w.alloc (.cells #[.bool false, .slice a1 (ln (tp q)) k1, .slice a2 (ln q.den) k2] 78) = w0 at HX HY HB HQ ⊢
  have HS := Lib.hid (show ∀ W, Below w0.heap.size w0 W → W.cell? ⟨w.heap.size, 1, none⟩ = some (.slice a1 (ln (tp q)) k1) ∧ W.cell? ⟨w.heap.size, 2, none⟩ = some (.slice a2 (ln q.den) k2) from fun W h => ⟨(HQ.out.keep h).c1, (HQ.out.keep h).c2⟩)
  have hD0 := (Below.refl w0.heap.size w0).drew
  go_region_held3 (fun W => W.cell? ⟨w.heap.size, 1, none⟩ = some (.slice a1 (ln (tp q)) k1) ∧ W.cell? ⟨w.heap.size, 2, none⟩ = some (.slice a2 (ln q.den) k2))
    (first | exact HS.out _ hD0 | exact HS.out _ (by assumption))
    (first
      | (go_at_call_of 111 (Value.slice a1 (ln (tp q)) k1); refine (lift_s (w0 := w0) (by assumption) (iwrite_any (n := tp q) (HX.out.below (by assumption)) HL.out.1)).mono ?_; rintro e u1 ⟨rfl, hb1, hB1⟩)
      | (go_at_call_of 111 (Value.slice a2 (ln q.den) k2); refine (lift_s (w0 := w0) (by assumption) (iwrite_any (n := q.den) (HY.out.below (by assumption)) HL.out.2)).mono ?_; rintro e u2 ⟨rfl, hb2, hB2⟩))
  replace HB := Lib.hid (HB.out.trans (hB2.mono HB.out.size))
  have c0 := (HQ.out.keep hB2).c0
  clear hb1 hB1 hb2 hB2 hD0 HS
  go_wp2_with fail
  go_ret2
  exact ⟨rfl, HB.out⟩

set_option maxHeartbeats 3200000 in
set_option maxRecDepth 100000 in
theorem rwrite_pd {w : World} {v : Value} {q : Rat} (hq : QQ w v q) (l : QL 1000000 q) (ho : QOk q) (hm : ng q = false) (hd : q.den ≠ 1) :
    Calls Tryz.prog 93 #[v] w (RQ q w) := by
  obtain ⟨a1, k1, a2, k2, rfl⟩ := hq.form
  obtain ⟨_, hx, hy⟩ := hq.nums
  have hb0 : Below w.heap.size w (w.alloc (.cells #[.bool (ng q), .slice a1 (ln (tp q)) k1, .slice a2 (ln q.den) k2] 78)) := (Below.refl _ _).alloc (Nat.le_refl _) _
  have HX := Lib.hid (hx.below hb0)
  have HY := Lib.hid (hy.below hb0)
  have HB := Lib.hid hb0
  have HQ := Lib.hid (QR.new w (ng q) (.slice a1 (ln (tp q)) k1) (.slice a2 (ln q.den) k2))
  have HL := Lib.hid l
  have HW := Lib.hid (show wQ q = (dstr (tp q) ++ ⟨#[47]⟩ ++ dstr q.den, 0) by rw [wQ_ok ho]; unfold qstr rstr; rw [hm]; rw [if_neg hd]; rfl)
  have h1 : ¬ (4000 : Int) < (((dstr (tp q)).size : Nat) : Int) := by have := ho.1; rw [dstr_size]; unfold Ok at this; omega
  have h2 : ¬ (4000 : Int) < (((dstr q.den).size : Nat) : Int) := by have := ho.2; rw [dstr_size]; unfold Ok at this; omega
  have h3 : (dstr (tp q)).size ≤ 4000 := by omega
  have h4 : (dstr q.den).size ≤ 4000 := by omega
  have h5 : ((dstr q.den).toList == [49]) = false := by rw [dstr_is q.den 49 (by decide)]; exact decide_eq_false (by simpa using hd)
  have hcl := And.intro ho hd
  have h7 : ((dstr (tp q)) ++ (⟨#[47]⟩ : ByteArray)).size ≤ 4002 := by rw [ByteArray.size_append, show (⟨#[47]⟩ : ByteArray).size = 1 from rfl]; omega
  rw [hm] at HQ
  clear hq hx hy hb0 l hcl ho hd
  unfold RQ
  rw [HW.out]
  generalize wQ q = wq at HW
  rw [hm] at HX HY HB ⊢
  clear hm HW
  go_enter Tryz.func93, Tryz.ntmps93
  go_wp2_with fail
  generalize w.alloc (.cells #[.bool false, .slice a1 (ln (tp q)) k1, .slice a2 (ln q.den) k2] 78) = w0 at HX HY HB HQ ⊢
  have HS := Lib.hid (show ∀ W, Below w0.heap.size w0 W → W.cell? ⟨w.heap.size, 1, none⟩ = some (.slice a1 (ln (tp q)) k1) ∧ W.cell? ⟨w.heap.size, 2, none⟩ = some (.slice a2 (ln q.den) k2) from fun W h => ⟨(HQ.out.keep h).c1, (HQ.out.keep h).c2⟩)
  have hD0 := (Below.refl w0.heap.size w0).drew
  go_region_held3 (fun W => W.cell? ⟨w.heap.size, 1, none⟩ = some (.slice a1 (ln (tp q)) k1) ∧ W.cell? ⟨w.heap.size, 2, none⟩ = some (.slice a2 (ln q.den) k2))
    (first | exact HS.out _ hD0 | exact HS.out _ (by assumption))
    (first
      | (go_at_call_of 111 (Value.slice a1 (ln (tp q)) k1); refine (lift_s (w0 := w0) (by assumption) (iwrite_any (n := tp q) (HX.out.below (by assumption)) HL.out.1)).mono ?_; rintro e u1 ⟨rfl, hb1, hB1⟩)
      | (go_at_call_of 111 (Value.slice a2 (ln q.den) k2); refine (lift_s (w0 := w0) (by assumption) (iwrite_any (n := q.den) (HY.out.below (by assumption)) HL.out.2)).mono ?_; rintro e u2 ⟨rfl, hb2, hB2⟩))
  replace HB := Lib.hid (HB.out.trans (hB2.mono HB.out.size))
  have c0 := (HQ.out.keep hB2).c0
  clear hb1 hB1 hb2 hB2 hD0 HS
  go_wp2_with fail
  go_ret2
  exact ⟨rfl, HB.out⟩

theorem rwrite_q {w : World} {v : Value} {q : Rat} (hq : QQ w v q) (l : QL 1000000 q) :
    Calls Tryz.prog 93 #[v] w (RQ q w) := by
  by_cases h1 : Ok (tp q)
  · by_cases h2 : Ok q.den
    · by_cases hd : q.den = 1
      · cases hm : ng q with
        | true => exact rwrite_m1 hq l ⟨h1, h2⟩ hm hd
        | false => exact rwrite_p1 hq l ⟨h1, h2⟩ hm hd
      · cases hm : ng q with
        | true => exact rwrite_md hq l ⟨h1, h2⟩ hm hd
        | false => exact rwrite_pd hq l ⟨h1, h2⟩ hm hd
    · exact rwrite_D hq l h1 h2
  · exact rwrite_N hq l h1

end Go.Proofs.YtadkijaofmcgfaaGreatDoor
