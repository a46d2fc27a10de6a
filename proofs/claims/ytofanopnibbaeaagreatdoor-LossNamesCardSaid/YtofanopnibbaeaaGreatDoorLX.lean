/-
  What LossOrder needs of earlier texts and LossKeeps does not: the greater one of two numbers, attempts at a bool, the most of two losses.
-/
import Derived.Test.YtofanopnibbaeaaGreatDoorLB
import Derived.Test.YtofanopnibbaeaaGreatDoorZ15
namespace Go.Proofs.YtofanopnibbaeaaGreatDoor
section
open Go.RowKit NV
open Go.Lib (decDigits)
set_option maxHeartbeats 800000 in
/-- Check tells whether a text is a rational number. -/
theorem rcheck_any (s : ByteArray) (w : World) (hs : s.size ≤ 140737488351232) :
    Calls Tryz.prog 135 #[.string s] w fun e w' => e = .returned (.int .i64 ((rchk s : Nat) : Int)) ∧ Below w.heap.size w w' := by
  have HR := Lib.hid (rread_any s w hs)
  go_enter Tryz.func135, Tryz.ntmps135
  go_wp2_with fail
  refine HR.out.mono ?_
  rintro e w1 ⟨⟨m, a1, L1, k1, a2, L2, k2, rfl⟩, hb⟩
  have HB := Lib.hid (hb.alloc hb.size (.cells #[.bool m, .slice a1 L1 k1, .slice a2 L2 k2] 121))
  clear hb HR
  go_wp2_with fail
  go_ret
  exact ⟨rfl, HB.out⟩
end
section
open Go.RowKit NV
open Go.Lib (decDigits)
set_option maxHeartbeats 800000 in
theorem Max_clo (x : Int) (w : World) : Calls Tryz.prog 167 #[.int .i64 x] w fun e w' => e = .returned (.bool (decide (0 < x))) ∧ w = w' := by
  by_cases h : 0 < x
  · rw [decide_eq_true h]
    go_enter Tryz.func167, Tryz.ntmps167
    go_wp2_with fail
    go_ret
    exact ⟨ret_bool (by simp <;> omega), rfl⟩
  · rw [decide_eq_false h]
    go_enter Tryz.func167, Tryz.ntmps167
    go_wp2_with fail
    go_ret
    exact ⟨ret_bool (by simp <;> omega), rfl⟩

set_option maxHeartbeats 3200000 in
theorem sel_Max (p q : Rat) (hp : QOk p) (hq : QOk q) (w : World) (hm : ML w) :
    Calls Tryz.prog 166 #[.string (qstr p), .string (qstr q), .func (.func 167) #[] #[]] w fun e w' => e = .returned (.tuple #[.string (if 0 < cmpQ p q then qstr p else qstr q), .int .i64 0]) ∧ Below w.heap.size w w' := by
  have HC := Lib.hid (Cmp_q p q hp hq w hm)
  have eg : ∀ args w, (callFunc 167 args).run Tryz.prog w = .ok (.enter 167 args) w := enters_of Tryz.func167 (by kernel_rfl) rfl
  generalize cmpQ p q = x at *
  have HS := Lib.hid (fun W => Max_clo x W)
  generalize qstr p = s at *
  generalize qstr q = t at *
  clear hp hq hm
  by_cases h : 0 < x
  · rw [if_pos h]
    rw [decide_eq_true h] at HS
    clear h
    go_enter Tryz.func166, Tryz.ntmps166
    go_wp2_with fail
    refine HC.out.mono ?_
    rintro e w1 ⟨rfl, hb⟩
    have HB := Lib.hid hb
    clear hb HC
    go_wp2_with (go_at_fn 167; refine (HS.out _).mono ?_; rintro e w2 ⟨rfl, rfl⟩)
    go_ret2
    exact ⟨rfl, HB.out⟩
  · rw [if_neg h]
    rw [decide_eq_false h] at HS
    clear h
    go_enter Tryz.func166, Tryz.ntmps166
    go_wp2_with fail
    refine HC.out.mono ?_
    rintro e w1 ⟨rfl, hb⟩
    have HB := Lib.hid hb
    clear hb HC
    go_wp2_with (go_at_fn 167; refine (HS.out _).mono ?_; rintro e w2 ⟨rfl, rfl⟩)
    go_ret2
    exact ⟨rfl, HB.out⟩

set_option maxHeartbeats 1600000 in
theorem Max_q (p q : Rat) (hp : QOk p) (hq : QOk q) (w : World) (hm : ML w) :
    Calls Tryz.prog 90 #[.string (qstr p), .string (qstr q)] w fun e w' => e = .returned (.tuple #[.string (if 0 < cmpQ p q then qstr p else qstr q), .int .i64 0]) ∧ Below w.heap.size w w' := by
  have HC := Lib.hid (sel_Max p q hp hq w hm)
  generalize (if 0 < cmpQ p q then qstr p else qstr q) = r at *
  clear hp hq hm
  go_enter Tryz.func90, Tryz.ntmps90
  go_wp2_with fail
  refine HC.out.mono ?_
  rintro e w1 ⟨rfl, hb⟩
  have HB := Lib.hid hb
  clear hb HC
  go_wp2_with fail
  go_ret2
  exact ⟨rfl, HB.out⟩
end
section
open Go.RowKit NV Go.Maps Go.Sort Go.Shelf
open Go.Lib (decDigits)
/-- The greater one of two numbers. -/
def mxQ (s d : Rat) : Rat := if d < s then s else d

theorem Max_oQ (s d : Rat) (hs : QOk s) (hd : QOk d) (w : World) (hm : ML w) :
    Calls Tryz.prog 90 #[.string (qstr s), .string (qstr d)] w (PR (qstr (mxQ s d), 0) w) := by
  have h := Max_q s d hs hd w hm
  have e : (if 0 < cmpQ s d then qstr s else qstr d) = qstr (mxQ s d) := by
    unfold mxQ
    by_cases h1 : d < s
    · have h2 := cmpQ_gt h1
      rw [if_pos (by omega), if_pos h1]
    · have h2 := cmpQ_le.2 (Rat.not_lt.1 h1)
      rw [if_neg (by omega), if_neg h1]
  unfold PR
  rw [← e]
  exact h
end
section
open Go.RowKit NV
set_option maxRecDepth 100000 in
theorem catch_bool (p : Addr) (x n : Int) (older : List PanicEntry) (w : World) (hc : w.cell? p = some (.int .i64 x)) (hz : w.frozen? p = false) :
    CallsD Tryz.prog 193 #[.pointer (some p)] (.panicking ({ v := .iface 31 (.int .i64 n), recovered := false } :: older)) w fun e u' w' =>
      e = .returned (.tuple #[]) ∧ u' = .panicking ({ v := .iface 31 (.int .i64 n), recovered := true } :: older) ∧ w' = w.setCell p (.int .i64 n) := by
  refine callsD_of_wpS Tryz.func193 rfl fun c₀ cs hu => ?_
  apply wpS_seq
  apply wpS_region
  simp [wpOpsS, go_sem, recoverD, hu, Tryz.ntmps193, Exit.thenS, ta_yes]
  apply wpS_seq
  apply wpS_region
  simp [wpOpsS, go_sem, Exit.thenS]
  refine wpS_cond (t := true) (by simp [Act.eval, Array.replicate]) ?_
  simp only [if_true]
  apply wpS_region
  simp [wpOpsS, go_sem, hc, hz, bodyPostS, results, Tryz.results193]

set_option maxRecDepth 100000 in
theorem idle_bool (p : Addr) (w : World) :
    CallsD Tryz.prog 193 #[.pointer (some p)] .returning w fun e u' w' => e = .returned (.tuple #[]) ∧ u' = .returning ∧ w' = w := by
  refine callsD_of_wpS Tryz.func193 rfl fun c₀ cs hu => ?_
  apply wpS_seq
  apply wpS_region
  simp [wpOpsS, go_sem, recoverD, hu, Tryz.ntmps193, Exit.thenS, ta_nil]
  apply wpS_seq
  apply wpS_region
  simp [wpOpsS, go_sem, Exit.thenS]
  refine wpS_cond (t := false) (by simp [Act.eval, Array.replicate]) ?_
  simp only [Bool.false_eq_true, if_false]
  refine wpS_of_wp (wp_skip ?_)
  cases c₀
  simp_all [bodyPostS, results, Tryz.results193]

set_option maxHeartbeats 1600000 in
set_option maxRecDepth 100000 in
theorem attempt_bool_ok {g : Nat} {cap : Array Value} {v : Value} {m : Int} {n c : Nat} {ao : Option Addr} {es : List Int} {w : World} (he : ER w ao n es) (hn : n ≤ 1000000) (h0 : ∀ x, x ∈ es → x = 0) (hg : ∀ W, Below w.heap.size w W → Calls Tryz.prog g cap W (Does v m W)) (eg : ∀ W, (callFunc g cap).run Tryz.prog W = .ok (.enter g cap) W) :
    Calls Tryz.prog 118 #[.func (.func g) #[] cap, .slice ao n c] w fun e w' => e = .returned (.tuple #[if m = 0 then v else .bool false, .int .i64 m]) ∧ Below w.heap.size w w' := by
  have hmf : ∀ (fn : Fn) (first cap : Array Value) (w : World), (Instr.makeFunc fn first cap).run Tryz.prog w = .ok (.func fn first cap) w := fun _ _ _ _ => rfl
  have hb0 := (Below.refl w.heap.size w).alloc (Nat.le_refl _) (.cells #[.int .i64 0] 31)
  have HE := Lib.hid (he.below hb0)
  have HG := Lib.hid hg
  have H0 := Lib.hid h0
  have HB := Lib.hid hb0
  have HC := Lib.hid (show ∀ W, Below (w.alloc (.cells #[.int .i64 0] 31)).heap.size (w.alloc (.cells #[.int .i64 0] 31)) W → W.cell? ⟨w.heap.size, 0, none⟩ = some (.int .i64 0) ∧ W.frozen? ⟨w.heap.size, 0, none⟩ = false from fun W hb => ⟨(hb.cell (by simp)).trans (by simp), (hb.frozen (by simp)).trans (by simp)⟩)
  clear he hg h0 hb0
  go_enter_defers Tryz.func118, Tryz.ntmps118
  go_wp2_with fail
  go_loop [11] (fun iv => ∃ k : Nat, k ≤ n ∧ iv = .int .i64 (k : Int)) (fun iv => n - (intOf iv).toNat)
  case atStart => exact ⟨0, Nat.zero_le _, rfl⟩
  case round =>
    obtain ⟨k, hk, rfl⟩ := hrel
    by_cases hlt : k < n
    · obtain ⟨a, x, rfl, hx, _, c0⟩ := HE.out.at hlt
      obtain rfl := H0.out x (List.mem_of_getElem? hx)
      clear hx
      go_wp2_with fail
      refine (demand_ok _).mono ?_
      rintro e w' ⟨rfl, rfl⟩
      go_wp2_with fail
      go_round
      case rel => exact ⟨k + 1, by omega, by go_num⟩
      case measure => simp [intOf]; omega
    · obtain rfl : k = n := by omega
      clear HE H0
      go_wp2_with fail
      refine (HG.out _ HB.out).mono ?_
      rintro e w1 ⟨hr, hb⟩
      obtain ⟨c1, z1⟩ := HC.out _ hb
      have HB1 := Lib.hid (HB.out.trans (hb.mono HB.out.size))
      clear hb HC HG HB
      rcases hr with ⟨rfl, rfl⟩ | ⟨hm, rfl⟩
      · go_wp2_with fail
        refine leaves_cons (f := 193) (args := #[.pointer (some ⟨w.heap.size, 0, none⟩)]) (by simp) (by simp [go_sem]) ?_
        refine (idle_bool ⟨w.heap.size, 0, none⟩ _).mono ?_
        rintro e u' w'' ⟨rfl, rfl, rfl⟩
        have c2 : (w1.setCell ⟨w.heap.size, 0, none⟩ (.int .i64 0)).cell? ⟨w.heap.size, 0, none⟩ = some (.int .i64 0) := World.cell?_setCell_same _ _ _ c1
        have hbb := HB1.out.setCell (p := ⟨w.heap.size, 0, none⟩) (Nat.le_refl _) (.int .i64 0)
        simp [Leaves, settle, results, Tryz.results118, go_sem, c2, hbb]
      · have hm0 := hm
        go_wp2_with fail
        refine leaves_cons (f := 193) (args := #[.pointer (some ⟨w.heap.size, 0, none⟩)]) (by simp) (by simp [go_sem]) ?_
        refine (catch_bool ⟨w.heap.size, 0, none⟩ 0 m [] _ c1 z1).mono ?_
        rintro e u' w'' ⟨rfl, rfl, rfl⟩
        have c2 : (w1.setCell ⟨w.heap.size, 0, none⟩ (.int .i64 m)).cell? ⟨w.heap.size, 0, none⟩ = some (.int .i64 m) := World.cell?_setCell_same _ _ _ c1
        have hbb := HB1.out.setCell (p := ⟨w.heap.size, 0, none⟩) (Nat.le_refl _) (.int .i64 m)
        simp [Leaves, settle, results, Tryz.results118, go_sem, c2, hbb]

set_option maxHeartbeats 1600000 in
set_option maxRecDepth 100000 in
theorem attempt_bool_no {g : Nat} {cap : Array Value} {m : Int} {n c i : Nat} {ao : Option Addr} {es : List Int} {w : World} (he : ER w ao n es) (hn : n ≤ 1000000) (h0 : ∀ k x, k < i → es[k]? = some x → x = 0) (hi : es[i]? = some m) (hm : m ≠ 0) :
    Calls Tryz.prog 118 #[.func (.func g) #[] cap, .slice ao n c] w fun e w' => e = .returned (.tuple #[.bool false, .int .i64 m]) ∧ Below w.heap.size w w' := by
  have hmf : ∀ (fn : Fn) (first cap : Array Value) (w : World), (Instr.makeFunc fn first cap).run Tryz.prog w = .ok (.func fn first cap) w := fun _ _ _ _ => rfl
  have hb0 := (Below.refl w.heap.size w).alloc (Nat.le_refl _) (.cells #[.int .i64 0] 31)
  have hin : i < n := by
    rw [← he.1]
    exact (List.getElem?_eq_some_iff.1 hi).1
  have HE := Lib.hid (he.below hb0)
  have H0 := Lib.hid h0
  have HI := Lib.hid hi
  have HB := Lib.hid hb0
  have HM := Lib.hid hm
  clear he h0 hb0 hi hm
  have c1 : (w.alloc (.cells #[.int .i64 0] 31)).cell? ⟨w.heap.size, 0, none⟩ = some (.int .i64 0) := by simp
  have z1 : (w.alloc (.cells #[.int .i64 0] 31)).frozen? ⟨w.heap.size, 0, none⟩ = false := by simp
  have HC := Lib.hid (And.intro c1 z1)
  clear c1 z1
  go_enter_defers Tryz.func118, Tryz.ntmps118
  go_wp2_with fail
  go_loop [11] (fun iv => ∃ k : Nat, k ≤ i ∧ iv = .int .i64 (k : Int)) (fun iv => n - (intOf iv).toNat)
  case atStart => exact ⟨0, Nat.zero_le _, rfl⟩
  case round =>
    obtain ⟨k, hk, rfl⟩ := hrel
    obtain ⟨a, x, rfl, hx, _, c0⟩ := HE.out.at (show k < n by omega)
    by_cases hlt : k < i
    · obtain rfl := H0.out k x hlt hx
      clear hx
      go_wp2_with fail
      refine (demand_ok _).mono ?_
      rintro e w' ⟨rfl, rfl⟩
      go_wp2_with fail
      go_round
      case rel => exact ⟨k + 1, by omega, by go_num⟩
      case measure => simp [intOf]; omega
    · obtain rfl : k = i := by omega
      rw [HI.out] at hx
      obtain rfl := Option.some.inj hx
      have hm1 : (m != 0) = true := by simpa using HM.out
      have HD := Lib.hid (fun W => demand_no hm1 W)
      clear hx hm1 HI H0 HE
      go_wp2_with fail
      refine (HD.out _).mono ?_
      rintro e w' ⟨rfl, rfl⟩
      clear HD
      go_wp2_with fail
      obtain ⟨c1, z1⟩ := HC.out
      refine leaves_cons (f := 193) (args := #[.pointer (some ⟨w.heap.size, 0, none⟩)]) (by simp) (by simp [go_sem]) ?_
      refine (catch_bool ⟨w.heap.size, 0, none⟩ 0 m [] _ c1 z1).mono ?_
      rintro e u' w'' ⟨rfl, rfl, rfl⟩
      simp [Leaves, settle, results, Tryz.results118, go_sem]
      exact (Below.refl _ w).alloc (Nat.le_refl _) _

theorem attempt_bool_any {g : Nat} {cap : Array Value} {v : Value} {m : Int} {n c : Nat} {ao : Option Addr} {es : List Int} {w : World} (he : ER w ao n es) (hn : n ≤ 1000000) (hg : fstL es = 0 → ∀ W, Below w.heap.size w W → Calls Tryz.prog g cap W (Does v m W)) (eg : ∀ W, (callFunc g cap).run Tryz.prog W = .ok (.enter g cap) W) :
    Calls Tryz.prog 118 #[.func (.func g) #[] cap, .slice ao n c] w (Fin es v (.bool false) m w) := by
  by_cases h : fstL es = 0
  · refine (attempt_bool_ok he hn (fstL_zero h) (hg h) eg).mono ?_
    rintro e w' ⟨rfl, hb⟩
    refine ⟨?_, hb⟩
    by_cases h2 : m = 0
    · rw [if_pos h2, if_pos ⟨h, h2⟩, if_pos h]
    · rw [if_neg h2, if_neg (fun h3 => h2 h3.2), if_pos h]
  · obtain ⟨i, h1, h2⟩ := fstL_at h
    refine (attempt_bool_no he hn h2 h1 h).mono ?_
    rintro e w' ⟨rfl, hb⟩
    refine ⟨?_, hb⟩
    rw [if_neg (fun h3 => h h3.1), if_neg h]

set_option maxHeartbeats 1600000 in
theorem must_ok (s : ByteArray) (w : World) : Calls Tryz.prog 141 #[.string s, .int .i64 0] w fun e w' => e = .returned (.string s) ∧ Below w.heap.size w w' :=
  (must_any s 0 w).mono (by
    rintro e w' ⟨⟨_, rfl⟩ | ⟨h, _⟩, hb⟩
    · exact ⟨rfl, hb⟩
    · exact absurd rfl h)

set_option maxHeartbeats 6400000 in
set_option maxRecDepth 100000 in
theorem bmost_d {f1 d1 f2 d2 : ByteArray} {m1 m2 : ByteArray} {w : World}
    (h1 : ∀ W, Below w.heap.size w W → Calls Tryz.prog 90 #[.string f1, .string f2] W fun e w' => e = .returned (.tuple #[.string m1, .int .i64 0]) ∧ Below W.heap.size W w')
    (h2 : ∀ W, Below w.heap.size w W → Calls Tryz.prog 90 #[.string d1, .string d2] W fun e w' => e = .returned (.tuple #[.string m2, .int .i64 0]) ∧ Below W.heap.size W w') :
    Calls Tryz.prog 120 #[.agg #[.string f1, .string d1], .agg #[.string f2, .string d2]] w (Does (.agg #[.string m1, .string m2]) 0 w) := by
  have H1 := Lib.hid h1
  have H2 := Lib.hid h2
  clear h1 h2
  have r1 : RB w (w.alloc (.cells #[.string f1, .string d1] 131)) (w.heap.size) f1 d1 := RB.new (Nat.le_refl _)
  have hb1 := (Below.refl w.heap.size w).alloc (Nat.le_refl _) (.cells #[.string f1, .string d1] 131)
  have r2 : RB w ((w.alloc (.cells #[.string f1, .string d1] 131)).alloc (.cells #[.string f2, .string d2] 62)) (w.heap.size + 1) f2 d2 := by
    have h := RB.new (w := w) (W := (w.alloc (.cells #[.string f1, .string d1] 131))) (s := f2) (t := d2) (ty := 62) (by simp)
    simpa using h
  have hb2 := (Below.refl (w.alloc (.cells #[.string f1, .string d1] 131)).heap.size (w.alloc (.cells #[.string f1, .string d1] 131))).alloc (Nat.le_refl _) (.cells #[.string f2, .string d2] 62)
  have r3 : RB w (((w.alloc (.cells #[.string f1, .string d1] 131)).alloc (.cells #[.string f2, .string d2] 62)).alloc (.cells #[.string ⟨#[]⟩, .string ⟨#[]⟩] 131)) (w.heap.size + 2) ⟨#[]⟩ ⟨#[]⟩ := by
    have h := RB.new (w := w) (W := ((w.alloc (.cells #[.string f1, .string d1] 131)).alloc (.cells #[.string f2, .string d2] 62))) (s := ⟨#[]⟩) (t := ⟨#[]⟩) (ty := 131) (by simp; omega)
    simpa using h
  have hb3 := (Below.refl ((w.alloc (.cells #[.string f1, .string d1] 131)).alloc (.cells #[.string f2, .string d2] 62)).heap.size ((w.alloc (.cells #[.string f1, .string d1] 131)).alloc (.cells #[.string f2, .string d2] 62))).alloc (Nat.le_refl _) (.cells #[.string ⟨#[]⟩, .string ⟨#[]⟩] 131)
  have r1' := (r1.below hb2).below hb3
  have r2' := r2.below hb3
  have HB0 := Lib.hid (hb1.trans ((hb2.trans (hb3.mono hb2.size)).mono hb1.size))
  have HR := Lib.hid (And.intro r1' (And.intro r2' r3))
  clear r1 r2 r3 hb1 hb2 hb3 r1' r2'
  go_enter Tryz.func120, Tryz.ntmps120
  go_wp2_with fail
  refine wp_world (Below.refl (((w.alloc (.cells #[.string f1, .string d1] 131)).alloc (.cells #[.string f2, .string d2] 62)).alloc (.cells #[.string ⟨#[]⟩, .string ⟨#[]⟩] 131)).heap.size (((w.alloc (.cells #[.string f1, .string d1] 131)).alloc (.cells #[.string f2, .string d2] 62)).alloc (.cells #[.string ⟨#[]⟩, .string ⟨#[]⟩] 131))) (fun wx hbx => ?_)
  have HBX2 := Lib.hid hbx
  have q1 := HR.out.1.below hbx
  have q2 := HR.out.2.1.below hbx
  have q3 := HR.out.2.2.below hbx
  have HQ := Lib.hid (show ∀ W, SX wx (w.heap.size + 2) W → W.cell? ⟨w.heap.size, 0, none⟩ = some (.string f1) ∧ W.cell? ⟨w.heap.size, 1, none⟩ = some (.string d1) ∧ W.cell? ⟨w.heap.size + 1, 0, none⟩ = some (.string f2) ∧ W.cell? ⟨w.heap.size + 1, 1, none⟩ = some (.string d2) from fun W h =>
    ⟨(h.cell (p := ⟨w.heap.size, 0, none⟩) q1.lt (by show w.heap.size ≠ w.heap.size + 2; omega)).trans q1.c0, (h.cell (p := ⟨w.heap.size, 1, none⟩) q1.lt (by show w.heap.size ≠ w.heap.size + 2; omega)).trans q1.c1, (h.cell (p := ⟨w.heap.size + 1, 0, none⟩) q2.lt (by show w.heap.size + 1 ≠ w.heap.size + 2; omega)).trans q2.c0, (h.cell (p := ⟨w.heap.size + 1, 1, none⟩) q2.lt (by show w.heap.size + 1 ≠ w.heap.size + 2; omega)).trans q2.c1⟩)
  have HQ3 := Lib.hid q3
  clear hbx q1 q2 q3
  refine wp_region_held (S := fun W => SX wx (w.heap.size + 2) W) (by kernel_rfl) ?_
  change wpAnyH _ _ _ _ _ 21 _ _ wx.drew
  have hD0 := (Below.refl wx.heap.size wx).drew
  generalize wx.drew = W at *
  refine wpHz_take (i := 0) (d := 5) (v := .pointer (some ⟨w.heap.size, 0, none⟩)) rfl rfl (by kernel_rfl) (by kernel_rfl) (by kernel_rfl) (fun _ _ _ h => h) rfl (fun W _ => by go_simp) (SX.of hD0) ?_
  simp only [Act.put, List.setIfInBounds_toArray, List.set_cons_zero, List.set_cons_succ]
  refine wpHz_take (i := 1) (d := 6) (v := .pointer (some ⟨w.heap.size, 0, none⟩)) rfl rfl (by kernel_rfl) (by kernel_rfl) (by kernel_rfl) (fun _ _ _ h => h) rfl (fun W _ => by go_simp) (SX.of hD0) ?_
  simp only [Act.put, List.setIfInBounds_toArray, List.set_cons_zero, List.set_cons_succ]
  refine wpHz_take (i := 2) (d := 7) (v := .string f1) rfl rfl (by kernel_rfl) (by kernel_rfl) (by kernel_rfl) (fun _ _ _ h => h) rfl (fun W hW => by have e0 := (HQ.out W hW).1; go_simp) (SX.of hD0) ?_
  simp only [Act.put, List.setIfInBounds_toArray, List.set_cons_zero, List.set_cons_succ]
  refine wpHz_take (i := 3) (d := 8) (v := .pointer (some ⟨w.heap.size + 1, 0, none⟩)) rfl rfl (by kernel_rfl) (by kernel_rfl) (by kernel_rfl) (fun _ _ _ h => h) rfl (fun W _ => by go_simp) (SX.of hD0) ?_
  simp only [Act.put, List.setIfInBounds_toArray, List.set_cons_zero, List.set_cons_succ]
  refine wpHz_take (i := 4) (d := 9) (v := .string f2) rfl rfl (by kernel_rfl) (by kernel_rfl) (by kernel_rfl) (fun _ _ _ h => h) rfl (fun W hW => by have e0 := (HQ.out W hW).2.2.1; go_simp) (SX.of hD0) ?_
  simp only [Act.put, List.setIfInBounds_toArray, List.set_cons_zero, List.set_cons_succ]
  refine wpHz_take (i := 9) (d := 14) (v := .pointer (some ⟨w.heap.size, 0, none⟩)) rfl rfl (by kernel_rfl) (by kernel_rfl) (by kernel_rfl) (fun _ _ _ h => h) rfl (fun W _ => by go_simp) (SX.of hD0) ?_
  simp only [Act.put, List.setIfInBounds_toArray, List.set_cons_zero, List.set_cons_succ]
  refine wpHz_take (i := 10) (d := 15) (v := .pointer (some ⟨w.heap.size, 1, none⟩)) rfl rfl (by kernel_rfl) (by kernel_rfl) (by kernel_rfl) (fun _ _ _ h => h) rfl (fun W _ => by go_simp) (SX.of hD0) ?_
  simp only [Act.put, List.setIfInBounds_toArray, List.set_cons_zero, List.set_cons_succ]
  refine wpHz_take (i := 11) (d := 16) (v := .string d1) rfl rfl (by kernel_rfl) (by kernel_rfl) (by kernel_rfl) (fun _ _ _ h => h) rfl (fun W hW => by have e0 := (HQ.out W hW).2.1; go_simp) (SX.of hD0) ?_
  simp only [Act.put, List.setIfInBounds_toArray, List.set_cons_zero, List.set_cons_succ]
  refine wpHz_take (i := 12) (d := 17) (v := .pointer (some ⟨w.heap.size + 1, 1, none⟩)) rfl rfl (by kernel_rfl) (by kernel_rfl) (by kernel_rfl) (fun _ _ _ h => h) rfl (fun W _ => by go_simp) (SX.of hD0) ?_
  simp only [Act.put, List.setIfInBounds_toArray, List.set_cons_zero, List.set_cons_succ]
  refine wpHz_take (i := 13) (d := 18) (v := .string d2) rfl rfl (by kernel_rfl) (by kernel_rfl) (by kernel_rfl) (fun _ _ _ h => h) rfl (fun W hW => by have e0 := (HQ.out W hW).2.2.2; go_simp) (SX.of hD0) ?_
  simp only [Act.put, List.setIfInBounds_toArray, List.set_cons_zero, List.set_cons_succ]
  refine wpHz_one (i := 5) (by kernel_rfl) ?_
  refine wpOz_run rfl rfl (wpz_enter (d := 10) rfl (by go_simp) ((H1.out _ (HB0.out.trans ((HBX2.out.trans (hD0.mono HBX2.out.size)).mono HB0.out.size))).mono ?_))
  rintro e u1 ⟨rfl, hb⟩
  have hD1 : Below wx.heap.size wx u1 := hD0.trans (hb.mono hD0.size)
  clear hb
  refine ⟨_, rfl, SX.of hD1, ?_⟩
  simp only [Act.put, List.setIfInBounds_toArray, List.set_cons_zero, List.set_cons_succ]
  refine wpHz_take (i := 6) (d := 11) (v := .string m1) rfl rfl (by kernel_rfl) (by kernel_rfl) (by kernel_rfl) (fun _ _ _ h => h) rfl (fun W _ => by go_simp) (SX.of hD1) ?_
  simp only [Act.put, List.setIfInBounds_toArray, List.set_cons_zero, List.set_cons_succ]
  refine wpHz_take (i := 7) (d := 12) (v := .int .i64 0) rfl rfl (by kernel_rfl) (by kernel_rfl) (by kernel_rfl) (fun _ _ _ h => h) rfl (fun W _ => by go_simp) (SX.of hD1) ?_
  simp only [Act.put, List.setIfInBounds_toArray, List.set_cons_zero, List.set_cons_succ]
  refine wpHz_one (i := 8) (by kernel_rfl) ?_
  refine wpOz_run rfl rfl (wpz_enter (d := 13) rfl (by go_simp) ((must_ok m1 _).mono ?_))
  rintro e u2 ⟨rfl, hb⟩
  have hD2 : Below wx.heap.size wx u2 := hD1.trans (hb.mono hD1.size)
  clear hb
  refine ⟨_, rfl, SX.of hD2, ?_⟩
  simp only [Act.put, List.setIfInBounds_toArray, List.set_cons_zero, List.set_cons_succ]
  refine wpHz_one (i := 14) (by kernel_rfl) ?_
  refine wpOz_run rfl rfl (wpz_enter (d := 19) rfl (by go_simp) ((H2.out _ (HB0.out.trans ((HBX2.out.trans (hD2.mono HBX2.out.size)).mono HB0.out.size))).mono ?_))
  rintro e u3 ⟨rfl, hb⟩
  have hD3 : Below wx.heap.size wx u3 := hD2.trans (hb.mono hD2.size)
  clear hb
  refine ⟨_, rfl, SX.of hD3, ?_⟩
  simp only [Act.put, List.setIfInBounds_toArray, List.set_cons_zero, List.set_cons_succ]
  refine wpHz_take (i := 15) (d := 20) (v := .string m2) rfl rfl (by kernel_rfl) (by kernel_rfl) (by kernel_rfl) (fun _ _ _ h => h) rfl (fun W _ => by go_simp) (SX.of hD3) ?_
  simp only [Act.put, List.setIfInBounds_toArray, List.set_cons_zero, List.set_cons_succ]
  refine wpHz_take (i := 16) (d := 21) (v := .int .i64 0) rfl rfl (by kernel_rfl) (by kernel_rfl) (by kernel_rfl) (fun _ _ _ h => h) rfl (fun W _ => by go_simp) (SX.of hD3) ?_
  simp only [Act.put, List.setIfInBounds_toArray, List.set_cons_zero, List.set_cons_succ]
  refine wpHz_one (i := 17) (by kernel_rfl) ?_
  refine wpOz_run rfl rfl (wpz_enter (d := 22) rfl (by go_simp) ((must_ok m2 _).mono ?_))
  rintro e u4 ⟨rfl, hb⟩
  have hD4 : Below wx.heap.size wx u4 := hD3.trans (hb.mono hD3.size)
  clear hb
  refine ⟨_, rfl, SX.of hD4, ?_⟩
  simp only [Act.put, List.setIfInBounds_toArray, List.set_cons_zero, List.set_cons_succ]
  refine wpHz_take (i := 18) (d := 23) (v := .agg #[.string m1, .string m2]) rfl rfl (by kernel_rfl) (by kernel_rfl) (by kernel_rfl) (fun _ _ _ h => h) rfl (fun W _ => by go_simp) (SX.of hD4) ?_
  simp only [Act.put, List.setIfInBounds_toArray, List.set_cons_zero, List.set_cons_succ]
  refine wpHz_take (i := 19) (d := 24) (v := .agg #[.string m1, .string m2]) rfl rfl (by kernel_rfl) (by kernel_rfl) (by kernel_rfl) (fun _ _ _ h => h) rfl (fun W _ => by go_simp) (SX.of hD4) ?_
  simp only [Act.put, List.setIfInBounds_toArray, List.set_cons_zero, List.set_cons_succ]
  have q4 := HQ3.out.below hD4
  have HE := Lib.hid (((HB0.out.trans ((HBX2.out.trans (hD4.mono HBX2.out.size)).mono HB0.out.size)).setCell (p := ⟨w.heap.size + 2, 0, none⟩) (by show w.heap.size ≤ w.heap.size + 2; omega) (.string m1)).setCell (p := ⟨w.heap.size + 2, 1, none⟩) (by show w.heap.size ≤ w.heap.size + 2; omega) (.string m2))
  obtain ⟨_, _, c0, c1, z0, z1⟩ := q4
  refine wpHz_one (i := 20) (by kernel_rfl) ?_
  refine wpOz_run rfl rfl (wpz_skip (w' := (u4.setCell ⟨w.heap.size + 2, 0, none⟩ (.string m1)).setCell ⟨w.heap.size + 2, 1, none⟩ (.string m2)) rfl (by go_simp) ⟨SX.put hD4 _ _, ?_⟩)
  refine wpAnyH_done (by kernel_rfl) ?_ _
  clear H1 H2 hD0 hD1 hD2 hD3 hD4 HBX2 HQ HQ3 HR HB0
  go_wp2_with fail
  refine bodyPost_ret (v := .agg #[.string m1, .string m2]) (by simp [results, Tryz.results120, go_sem, c0, c1]) rfl ?_
  exact ⟨.inl ⟨rfl, rfl⟩, HE.out⟩
end
section
open Go.RowKit NV
set_option maxHeartbeats 6400000 in
set_option maxRecDepth 100000 in
theorem lMax_any {a1 a2 b1 b2 x y : ByteArray} {m : Int} {w : World} (ha1 : a1.size ≤ 1000000) (ha2 : a2.size ≤ 1000000) (hb1 : b1.size ≤ 1000000) (hb2 : b2.size ≤ 1000000) (hm : ML w)
    (hg : chkL a1 a2 = 0 → chkL b1 b2 = 0 → ∀ W ao c, Below w.heap.size w W → MR W ao 2 [(a1, a2), (b1, b2)] → Calls Tryz.prog 188 #[.slice ao 2 c, .agg #[.string ⟨#[49]⟩, .string ⟨#[48]⟩], .func (.func 120) #[] #[]] W (Dl x y m W)) :
    Calls Tryz.prog 46 #[.agg #[.string a1, .string a2], .agg #[.string b1, .string b2]] w (Fin [chkL a1 a2, chkL b1 b2] (.agg #[.string x, .string y]) (.agg #[.string ⟨#[]⟩, .string ⟨#[]⟩]) m w) := by
  have h1 := (Below.refl w.heap.size w).alloc (Nat.le_refl _) (.cells #[.string a1, .string a2] 62)
  have h2 := h1.alloc h1.size (.cells #[.string b1, .string b2] 62)
  have h3 := h2.alloc h2.size (.cells #[.string ⟨#[]⟩, .string ⟨#[]⟩] 62)
  have h4 := h3.alloc h3.size (.cells #[.string a1, .string a2, .string b1, .string b2] 62)
  have r3 : RB w (((w.alloc (.cells #[.string a1, .string a2] 62)).alloc (.cells #[.string b1, .string b2] 62)).alloc (.cells #[.string ⟨#[]⟩, .string ⟨#[]⟩] 62)) (w.heap.size + 2) ⟨#[]⟩ ⟨#[]⟩ := by
    have h := RB.new (w := w) (W := ((w.alloc (.cells #[.string a1, .string a2] 62)).alloc (.cells #[.string b1, .string b2] 62))) (s := ⟨#[]⟩) (t := ⟨#[]⟩) (ty := 62) (by simp; omega)
    simpa using h
  have r4 := r3.below ((Below.refl (((w.alloc (.cells #[.string a1, .string a2] 62)).alloc (.cells #[.string b1, .string b2] 62)).alloc (.cells #[.string ⟨#[]⟩, .string ⟨#[]⟩] 62)).heap.size (((w.alloc (.cells #[.string a1, .string a2] 62)).alloc (.cells #[.string b1, .string b2] 62)).alloc (.cells #[.string ⟨#[]⟩, .string ⟨#[]⟩] 62))).alloc (Nat.le_refl _) (.cells #[.string a1, .string a2, .string b1, .string b2] 62))
  have hmr : MR ((((w.alloc (.cells #[.string a1, .string a2] 62)).alloc (.cells #[.string b1, .string b2] 62)).alloc (.cells #[.string ⟨#[]⟩, .string ⟨#[]⟩] 62)).alloc (.cells #[.string a1, .string a2, .string b1, .string b2] 62)) (some ⟨(((w.alloc (.cells #[.string a1, .string a2] 62)).alloc (.cells #[.string b1, .string b2] 62)).alloc (.cells #[.string ⟨#[]⟩, .string ⟨#[]⟩] 62)).heap.size, 0, none⟩) 2 [(a1, a2), (b1, b2)] := MR.litT (L := [(a1, a2), (b1, b2)]) (heap_alloc_new (((w.alloc (.cells #[.string a1, .string a2] 62)).alloc (.cells #[.string b1, .string b2] 62)).alloc (.cells #[.string ⟨#[]⟩, .string ⟨#[]⟩] 62)) (.cells #[.string a1, .string a2, .string b1, .string b2] 62))
  have hf := lfolded_any (g := 120) (c := 2) (x := x) (y := y) (m := m) hmr (by omega) (fun z hz => by
    rcases List.mem_cons.1 hz with rfl | hz
    · exact ⟨ha1, ha2⟩
    · rcases List.mem_cons.1 hz with rfl | hz
      · exact ⟨hb1, hb2⟩
      · cases hz) (ml_keep hm (ml_pos hm) h4) (fun h W bl bs hb c1 l1 c2 l2 => by
    have e1 := fstL_zero (l := [chkL a1 a2, chkL b1 b2]) h (chkL a1 a2) (by simp)
    have e2 := fstL_zero (l := [chkL a1 a2, chkL b1 b2]) h (chkL b1 b2) (by simp)
    exact folded_clo c1 l1 c2 l2 (fun W2 hb2 => hg e1 e2 W2 _ _ (h4.trans ((hb.trans (hb2.mono hb.size)).mono h4.size)) (hmr.below (hb.trans (hb2.mono hb.size)))))
  obtain ⟨x', y', r, hr1, hr2, _, _⟩ := fin_loss (es := [chkL a1 a2, chkL b1 b2]) (x := x) (y := y) (m := m)
  unfold Fin at hf ⊢
  rw [show ces [(a1, a2), (b1, b2)] 2 = [chkL a1 a2, chkL b1 b2] from rfl, hr1, hr2] at hf
  rw [hr1, hr2]
  have hz4 : (((w.alloc (.cells #[.string a1, .string a2] 62)).alloc (.cells #[.string b1, .string b2] 62)).alloc (.cells #[.string ⟨#[]⟩, .string ⟨#[]⟩] 62)).heap.size = w.heap.size + 1 + 1 + 1 := by simp
  rw [hz4] at hf
  have HF := Lib.hid hf
  have HB := Lib.hid (And.intro h4 r4)
  clear hf h1 h2 h3 h4 r3 r4 hmr hz4 hr1 hr2 hg hm ha1 ha2 hb1 hb2
  go_enter Tryz.func46, Tryz.ntmps46
  go_wp2_with fail
  refine HF.out.mono ?_
  rintro e w2 ⟨rfl, hb⟩
  have hbb := HB.out.1.trans (hb.mono HB.out.1.size)
  obtain ⟨_, _, c0, c1, z0, z1⟩ := HB.out.2.below hb
  have HE := Lib.hid ((hbb.setCell (p := ⟨w.heap.size + 2, 0, none⟩) (by show w.heap.size ≤ w.heap.size + 2; omega) (.string x')).setCell (p := ⟨w.heap.size + 2, 1, none⟩) (by show w.heap.size ≤ w.heap.size + 2; omega) (.string y'))
  clear hb hbb HF HB
  go_wp2_with fail
  refine bodyPost_ret (v := .tuple #[.agg #[.string x', .string y'], .int .i64 r]) (by simp [results, Tryz.results46, go_sem, c0, c1]) rfl ?_
  exact ⟨rfl, HE.out⟩

theorem mn1_le {d : Rat} : mn1 d ≤ 1 := by unfold mn1; grind

theorem mn1_nn {d : Rat} (h : 0 ≤ d) : 0 ≤ mn1 d := by unfold mn1; grind

theorem mn1_ok {d : Rat} (h : QOk d) : QOk (mn1 d) := by
  unfold mn1
  split
  · exact h
  · decide +kernel
end
end Go.Proofs.YtofanopnibbaeaaGreatDoor
