/-
  The checks of a schema ahead of its columns.
-/
import Derived.Test.YtgehldadfaonbaaDoorSO
namespace Go.Proofs.YtgehldadfaonbaaDoor
open Go.RowKit Go.Shelf Go.ChangeMaps Go.Maps

structure Sch where
  name : ByteArray
  pub : Bool
  many : Int
  ca : Option Addr
  cc : Nat
  cols : List Col
abbrev Sch.cells (s : Sch) : Array Value := #[.string s.name, .bool s.pub, .int .i64 s.many, .slice s.ca s.cols.length s.cc]
/-- Block b holds the schema s. -/
def SchAt (w : World) (b : Nat) (s : Sch) : Prop := w.heap[b]? = some (.cells s.cells 24 (0, 0))
theorem SchAt.lt {w : World} {b : Nat} {s : Sch} (h : SchAt w b s) : b < w.heap.size := (Array.getElem?_eq_some_iff.1 h).1
theorem SchAt.ch {S : Nat → Prop} {w w' : World} {b : Nat} {s : Sch} (h : SchAt w b s) (hc : Ch S w w') (hs : ¬ S b) : SchAt w' b s := (hc.block b h.lt hs).trans h
theorem SchAt.below {w w' : World} {b : Nat} {s : Sch} (h : SchAt w b s) (hb : Below w.heap.size w w') : SchAt w' b s := h.ch (S := fun _ => False) (Ch.below hb) (fun h => h)
theorem SchAt.c0 {w : World} {b : Nat} {s : Sch} (h : SchAt w b s) : w.cell? ⟨b, 0, none⟩ = some (.string s.name) := cell_of_row w b 0 _ _ _ h
theorem SchAt.c1 {w : World} {b : Nat} {s : Sch} (h : SchAt w b s) : w.cell? ⟨b, 1, none⟩ = some (.bool s.pub) := cell_of_row w b 1 _ _ _ h
theorem SchAt.c2 {w : World} {b : Nat} {s : Sch} (h : SchAt w b s) : w.cell? ⟨b, 2, none⟩ = some (.int .i64 s.many) := cell_of_row w b 2 _ _ _ h
theorem SchAt.c3 {w : World} {b : Nat} {s : Sch} (h : SchAt w b s) : w.cell? ⟨b, 3, none⟩ = some (.slice s.ca s.cols.length s.cc) := cell_of_row w b 3 _ _ _ h

def lst (s : Sch) : Int := if s.pub then 0 else 1
def mst (s : Sch) : Int := if s.pub then 0 else 50
def manyB (s : Sch) : Bool := decide (lst s ≤ s.many) && decide (s.many ≤ mst s)
/-- The error of a schema that is not in a column. -/
def tabE (s : Sch) : Int := if nmB s.name = false then 19 else if manyB s = false then 2 else if s.cols.length = 0 then 3 else if 16 < s.cols.length then 4 else 0

theorem tc1_any {w : World} {b : Nat} {s : Sch} (h : SchAt w b s) (hR : Res w) : Calls Tryd.prog 62 #[.pointer (some ⟨b, 0, none⟩)] w fun e w' => e = .returned (.bool (nmB s.name)) ∧ Below w.heap.size w w' := by
  have c0 := h.c0
  have HN := Lib.hid (name_any s.name w hR)
  clear h
  go_enter Tryd.func62, Tryd.ntmps62
  go_wp2_with fail
  refine HN.out.mono ?_
  rintro e w1 ⟨rfl, hb⟩
  have HB := Lib.hid hb
  obtain ⟨v, hv⟩ : ∃ v, v = nmB s.name := ⟨_, rfl⟩
  rw [← hv]
  have HV := Lib.hid hv
  clear hb c0 hv
  go_wp2
  go_ret
  exact ⟨by rw [← HV.out]; rfl, HB.out⟩
theorem tc2_any {w : World} {b l m : Nat} {s : Sch} (h : SchAt w b s) (hl : Boxed w l 3 (.int .i64 (lst s))) (hm : Boxed w m 3 (.int .i64 (mst s))) :
    Calls Tryd.prog 63 #[.pointer (some ⟨l, 0, none⟩), .pointer (some ⟨b, 0, none⟩), .pointer (some ⟨m, 0, none⟩)] w fun e w' => e = .returned (.bool (manyB s)) ∧ w = w' := by
  have c2 := h.c2
  have d1 := hl.cell
  have d2 := hm.cell
  unfold manyB
  generalize s.many = x at *
  generalize lst s = p at *
  generalize mst s = q at *
  clear h hl hm
  by_cases h1 : p ≤ x
  · by_cases h2 : x ≤ q
    · rw [decide_eq_true h1, decide_eq_true h2]
      go_enter Tryd.func63, Tryd.ntmps63
      go_wp2
      go_ret
      exact ⟨rfl, rfl⟩
    · rw [decide_eq_true h1, decide_eq_false h2]
      go_enter Tryd.func63, Tryd.ntmps63
      go_wp2
      go_ret
      exact ⟨rfl, rfl⟩
  · rw [decide_eq_false h1]
    go_enter Tryd.func63, Tryd.ntmps63
    go_wp2
    go_ret
    exact ⟨rfl, rfl⟩
theorem tc3_any {w : World} {b : Nat} {s : Sch} (h : SchAt w b s) : Calls Tryd.prog 64 #[.pointer (some ⟨b, 0, none⟩)] w fun e w' => e = .returned (.bool (decide (0 < s.cols.length))) ∧ w = w' := by
  have c3 := h.c3
  clear h
  by_cases h1 : 0 < s.cols.length
  · rw [decide_eq_true h1]
    have q : decide (0 < (s.cols.length : Int)) = true := decide_eq_true (by omega)
    go_enter Tryd.func64, Tryd.ntmps64
    go_wp2
    go_ret
    exact ⟨rfl, rfl⟩
  · rw [decide_eq_false h1]
    have q : decide (0 < (s.cols.length : Int)) = false := decide_eq_false (by omega)
    have q2 : decide (0 < s.cols.length) = false := decide_eq_false h1
    go_enter Tryd.func64, Tryd.ntmps64
    go_wp2
    go_ret
    exact ⟨rfl, rfl⟩
theorem tc4_any {w : World} {b : Nat} {s : Sch} (h : SchAt w b s) : Calls Tryd.prog 65 #[.pointer (some ⟨b, 0, none⟩)] w fun e w' => e = .returned (.bool (decide (s.cols.length ≤ 16))) ∧ w = w' := by
  have c3 := h.c3
  clear h
  by_cases h1 : s.cols.length ≤ 16
  · rw [decide_eq_true h1]
    have q : decide ((s.cols.length : Int) ≤ 16) = true := decide_eq_true (by omega)
    go_enter Tryd.func65, Tryd.ntmps65
    go_wp2
    go_ret
    exact ⟨rfl, rfl⟩
  · rw [decide_eq_false h1]
    have q : decide ((s.cols.length : Int) ≤ 16) = false := decide_eq_false (by omega)
    go_enter Tryd.func65, Tryd.ntmps65
    go_wp2
    go_ret
    exact ⟨rfl, rfl⟩

/-- The checks of the schema in block b. -/
structure TabAt (W : World) (bl b l m : Nat) (s : Sch) (v0 v1 v2 v3 : Value) : Prop where
  row : W.heap[bl]? = some (.cells #[v0, v1, v2, v3] 87 (0, 0))
  sch : SchAt W b s
  least : Boxed W l 3 (.int .i64 (lst s))
  most : Boxed W m 3 (.int .i64 (mst s))
  k0 : ChkAt W v0 19 62 #[.pointer (some ⟨b, 0, none⟩)]
  k1 : ChkAt W v1 2 63 #[.pointer (some ⟨l, 0, none⟩), .pointer (some ⟨b, 0, none⟩), .pointer (some ⟨m, 0, none⟩)]
  k2 : ChkAt W v2 3 64 #[.pointer (some ⟨b, 0, none⟩)]
  k3 : ChkAt W v3 4 65 #[.pointer (some ⟨b, 0, none⟩)]
theorem TabAt.below {w w' : World} {bl b l m : Nat} {s : Sch} {v0 v1 v2 v3 : Value} (h : TabAt w bl b l m s v0 v1 v2 v3) (hb : Below w.heap.size w w') : TabAt w' bl b l m s v0 v1 v2 v3 :=
  ⟨(hb.block bl (Array.getElem?_eq_some_iff.1 h.row).1).trans h.row, h.sch.below hb, keepB hb h.least, keepB hb h.most, h.k0.below hb, h.k1.below hb, h.k2.below hb, h.k3.below hb⟩

set_option maxHeartbeats 3200000 in
theorem tableChecks_any (w : World) (s : Sch) :
    Calls Tryd.prog 40 #[.agg s.cells] w fun e w' => ∃ bl b l m v0 v1 v2 v3, e = .returned (.slice (some ⟨bl, 0, none⟩) 4 4) ∧ TabAt w' bl b l m s v0 v1 v2 v3 ∧ Below w.heap.size w w' := by
  obtain ⟨A, hA⟩ : ∃ A, A = w.alloc (.cells s.cells 24) := ⟨_, rfl⟩
  obtain ⟨B, hB⟩ : ∃ B, B = A.alloc (.cells #[.int .i64 (lst s)] 3) := ⟨_, rfl⟩
  obtain ⟨C, hC⟩ : ∃ C, C = B.alloc (.cells #[.int .i64 (mst s)] 3) := ⟨_, rfl⟩
  have sA : A.heap.size = w.heap.size + 1 := by rw [hA]; simp
  have sB : B.heap.size = w.heap.size + 2 := by rw [hB, World.size_alloc, sA]
  have iAB : Below A.heap.size A B := by rw [hB]; exact (Below.refl _ _).alloc (Nat.le_refl _) _
  have iBC : Below B.heap.size B C := by rw [hC]; exact (Below.refl _ _).alloc (Nat.le_refl _) _
  have iwA : Below w.heap.size w A := by rw [hA]; exact (Below.refl _ _).alloc (Nat.le_refl _) _
  have iAC := iAB.trans (iBC.mono iAB.size)
  have HA := Lib.hid (show SchAt C w.heap.size s from SchAt.below (w := A) (by rw [hA]; exact heap_alloc_new w _) iAC)
  have HL := Lib.hid (show Boxed C (w.heap.size + 1) 3 (.int .i64 (lst s)) from keepB iBC (by rw [hB, ← sA]; exact Boxed.new A _ _))
  have HM := Lib.hid (show Boxed C (w.heap.size + 2) 3 (.int .i64 (mst s)) from by rw [hC, ← sB]; exact Boxed.new B _ _)
  have HW := Lib.hid (iwA.trans (iAC.mono iwA.size))
  clear sA sB iAB iBC iwA iAC
  subst hB
  subst hA
  cases hp : s.pub
  all_goals
    have e1 : lst s = (if s.pub then 0 else 1) := rfl
    have e2 : mst s = (if s.pub then 0 else 50) := rfl
    rw [hp] at e1 e2
    simp only [if_true, Bool.false_eq_true, if_false] at e1 e2
    rw [e1, e2] at hC
    clear e1 e2
    go_enter Tryd.func40, Tryd.ntmps40
    go_wp2_with fail
    rw [← hC]
    clear hC hp
    refine (demand_any 19 _ _ C).mono ?_
    rintro e w1 ⟨v0, rfl, k0, h1⟩
    have H1 := Lib.hid (And.intro k0 h1)
    have hv0 : ∃ cap, v0 = .func (.func 83) #[] cap := by obtain ⟨b, rfl, _⟩ := k0; exact ⟨_, rfl⟩
    clear k0 h1
    obtain ⟨p0, rfl⟩ := hv0
    go_wp2_with fail
    refine (demand_any 2 _ _ w1).mono ?_
    rintro e w2 ⟨v1, rfl, k1, h2⟩
    have H2 := Lib.hid (And.intro k1 h2)
    have hv1 : ∃ cap, v1 = .func (.func 83) #[] cap := by obtain ⟨b, rfl, _⟩ := k1; exact ⟨_, rfl⟩
    clear k1 h2
    obtain ⟨p1, rfl⟩ := hv1
    go_wp2_with fail
    refine (demand_any 3 _ _ w2).mono ?_
    rintro e w3 ⟨v2, rfl, k2, h3⟩
    have H3 := Lib.hid (And.intro k2 h3)
    have hv2 : ∃ cap, v2 = .func (.func 83) #[] cap := by obtain ⟨b, rfl, _⟩ := k2; exact ⟨_, rfl⟩
    clear k2 h3
    obtain ⟨p2, rfl⟩ := hv2
    go_wp2_with fail
    refine (demand_any 4 _ _ w3).mono ?_
    rintro e w4 ⟨v3, rfl, k3, h4⟩
    have H4 := Lib.hid (And.intro k3 h4)
    have hv3 : ∃ cap, v3 = .func (.func 83) #[] cap := by obtain ⟨b, rfl, _⟩ := k3; exact ⟨_, rfl⟩
    clear k3 h4
    obtain ⟨p3, rfl⟩ := hv3
    go_wp2_with fail
    go_ret
    have ha : Below w4.heap.size w4 (w4.alloc (.cells #[.func (.func 83) #[] p0, .func (.func 83) #[] p1, .func (.func 83) #[] p2, .func (.func 83) #[] p3] 87)) := (Below.refl _ _).alloc (Nat.le_refl _) _
    have s1 := H1.out.2.size
    have s2 := H2.out.2.size
    have s3 := H3.out.2.size
    have s4 := H4.out.2.size
    have hb4 := H4.out.2.trans (ha.mono s4)
    have hb3 := H3.out.2.trans (hb4.mono s3)
    have hb2 := H2.out.2.trans (hb3.mono s2)
    have hb1 := H1.out.2.trans (hb2.mono s1)
    exact ⟨w4.heap.size, w.heap.size, w.heap.size + 1, w.heap.size + 2, _, _, _, _, rfl, ⟨heap_alloc_new w4 _, HA.out.below hb1, keepB hb1 HL.out, keepB hb1 HM.out, H1.out.1.below hb2, H2.out.1.below hb3, H3.out.1.below hb4, H4.out.1.below ha⟩, HW.out.trans (hb1.mono HW.out.size)⟩

end Go.Proofs.YtgehldadfaonbaaDoor
