/-
  The reference's Same.
-/
import Derived.Test.YtgehldadfaonbaaDoorYS
import Derived.Deep.RegionHeld3
import Derived.RegionTactic
import Derived.ChangeAlike
import Derived.Deep.CutRange
import Derived.Deep.CutBlock
namespace Go.Proofs.YtgehldadfaonbaaDoor
open Go.RowKit Go.Shelf Go.ChangeMaps Go.Maps

/-- What a column holds. -/
def erC (c : Col) : ByteArray × Int × Int × List ByteArray := (c.name, c.lo, c.hi, c.ws)
def SameS (s t : Sch) : Prop := s.name = t.name ∧ s.pub = t.pub ∧ s.many = t.many ∧ s.cols.map erC = t.cols.map erC
theorem erC_eq {c d : Col} (h1 : c.name = d.name) (h2 : c.lo = d.lo) (h3 : c.hi = d.hi) (h4 : c.ws = d.ws) : erC c = erC d := by unfold erC; rw [h1, h2, h3, h4]
theorem map_erC {L M : List Col} (hl : L.length = M.length) (h : ∀ j, j < L.length → erC (L.getD j default) = erC (M.getD j default)) : L.map erC = M.map erC := by
  apply List.ext_getElem
  · simpa using hl
  · intro i h1 h2
    have a1 : i < L.length := by simpa using h1
    have a2 : i < M.length := by simpa using h2
    have := h i a1
    rw [List.getD_eq_getElem?_getD, List.getD_eq_getElem?_getD, List.getElem?_eq_getElem a1, List.getElem?_eq_getElem a2] at this
    simpa using this
theorem erC_at {L M : List Col} (h : L.map erC = M.map erC) (j : Nat) (hj : j < L.length) : erC (L.getD j default) = erC (M.getD j default) := by
  have hl : L.length = M.length := by have := congrArg List.length h; simpa using this
  have := congrArg (·[j]?) h
  simp only [List.getElem?_map] at this
  rw [List.getElem?_eq_getElem hj, List.getElem?_eq_getElem (by omega)] at this
  rw [List.getD_eq_getElem?_getD, List.getD_eq_getElem?_getD, List.getElem?_eq_getElem hj, List.getElem?_eq_getElem (by omega)]
  simpa using this

theorem Ch.alloc2 {S : Nat → Prop} {w v : World} (h : Ch S w v) (o : Obj) : Ch S w (v.alloc o) := h.trans (Ch.alloc S v o)
theorem Ch.drew2 {S : Nat → Prop} {w v : World} (h : Ch S w v) : Ch S w v.drew := h.trans (Ch.drew S v)
theorem Ch.putObj2 {S : Nat → Prop} {w v : World} (h : Ch S w v) {r : Nat} (o : Obj) (hr : S r) : Ch S w (v.putObj r o) := h.trans (Ch.putObj S v o hr)
theorem Ch.cellA {S : Nat → Prop} {w w' : World} (h : Ch S w w') {a : Addr} {v : Value} (hc : w.cell? a = some v) (hb : ¬ S a.block) : w'.cell? a = some v :=
  (World.cell?_of_block (w := w) (a := a) (h.block a.block (cell_ltY hc) hb)).trans hc
/-- The cells that a round of Same reads. -/
def RdS (w : World) (n : Nat) (ad bd : Addr) (N M k : Nat) (sc tc : Nat) (c d : Col) : Prop :=
  w.cell? ⟨n, 3, none⟩ = some (.slice (some ad) N sc) ∧ w.cell? ⟨n + 1, 3, none⟩ = some (.slice (some bd) M tc) ∧
  w.cell? (ad.add (k * 4)) = some (.string c.name) ∧ w.cell? ⟨(ad.add (k * 4)).block, (ad.add (k * 4)).off + 1, none⟩ = some (.int .i64 c.lo) ∧ w.cell? ⟨(ad.add (k * 4)).block, (ad.add (k * 4)).off + 2, none⟩ = some (.int .i64 c.hi) ∧ w.cell? ⟨(ad.add (k * 4)).block, (ad.add (k * 4)).off + 3, none⟩ = some (.slice c.wa c.ws.length c.wc) ∧
  w.cell? (bd.add (k * 4)) = some (.string d.name) ∧ w.cell? ⟨(bd.add (k * 4)).block, (bd.add (k * 4)).off + 1, none⟩ = some (.int .i64 d.lo) ∧ w.cell? ⟨(bd.add (k * 4)).block, (bd.add (k * 4)).off + 2, none⟩ = some (.int .i64 d.hi) ∧ w.cell? ⟨(bd.add (k * 4)).block, (bd.add (k * 4)).off + 3, none⟩ = some (.slice d.wa d.ws.length d.wc)

theorem RdS.ch {w W : World} {n : Nat} {ad bd : Addr} {N M k sc tc : Nat} {c d : Col} (h : RdS w n ad bd N M k sc tc c d) (hc : Ch (fun j => w.heap.size ≤ j) w W) : RdS W n ad bd N M k sc tc c d := by
  have f : ∀ {a v}, w.cell? a = some v → W.cell? a = some v := fun {a v} h => hc.cellA h (by have := cell_ltY h; omega)
  obtain ⟨h0, h1, h2, h3, h4, h5, h6, h7, h8, h9⟩ := h
  exact ⟨f h0, f h1, f h2, f h3, f h4, f h5, f h6, f h7, f h8, f h9⟩
theorem pair_at {V wr : World} (hb : Below V.heap.size V wr) (c d : Col) : ColAt ((wr.alloc (.cells c.cells 44)).alloc (.cells d.cells 44)).drew wr.heap.size c ∧ ColAt ((wr.alloc (.cells c.cells 44)).alloc (.cells d.cells 44)).drew (wr.heap.size + 1) d ∧
    Below V.heap.size V ((wr.alloc (.cells c.cells 44)).alloc (.cells d.cells 44)).drew := by
  obtain ⟨A, hA⟩ : ∃ A, A = wr.alloc (.cells c.cells 44) := ⟨_, rfl⟩
  have sA : A.heap.size = wr.heap.size + 1 := by rw [hA]; simp
  have hwA : Below wr.heap.size wr A := by rw [hA]; exact (Below.refl _ _).alloc (Nat.le_refl _) _
  have hAV : Below A.heap.size A (A.alloc (.cells d.cells 44)) := (Below.refl _ _).alloc (Nat.le_refl _) _
  have h1 : ColAt A wr.heap.size c := by rw [hA]; exact heap_alloc_new wr _
  have h2 : ColAt (A.alloc (.cells d.cells 44)) A.heap.size d := heap_alloc_new A _
  rw [sA] at h2
  rw [← hA]
  have hd : Below (A.alloc (.cells d.cells 44)).heap.size (A.alloc (.cells d.cells 44)) (A.alloc (.cells d.cells 44)).drew := (Below.refl _ _).drew
  exact ⟨(h1.below hAV).below hd, h2.below hd, (hb.trans ((hwA.trans (hAV.mono hwA.size)).mono hb.size)).drew⟩

set_option maxHeartbeats 6400000 in
set_option maxRecDepth 100000 in
/-- The reference's Same of schemas that hold the same. -/
theorem rsame_yes {w : World} {s t : Sch} (hC : CL w s.ca s.cols) (hC2 : CL w t.ca t.cols) (hO : ColsOk w s.cols) (hO2 : ColsOk w t.cols) (hS : SameS s t) (hf : s.cols.length ≤ 9223372036854775807) :
    Calls Tryd.prog 15 #[.agg s.cells, .agg t.cells] w fun e w' => e = .returned (.bool true) ∧ Below w.heap.size w w' := by
  obtain ⟨e1, e2, e3, hE⟩ := hS
  have e4 : s.cols.length = t.cols.length := by have := congrArg List.length hE; simpa using this
  have q1 : (!(s.name.toList == t.name.toList)) = false := by rw [str_same e1]; rfl
  have hp : s.pub = t.pub := e2
  have q3 : (s.many != t.many) = false := by rw [e3]; simp
  have q4 : ((s.cols.length : Int) != (t.cols.length : Int)) = false := by rw [e4]; simp
  have HE := Lib.hid (fun j (hj : j < s.cols.length) => erC_at hE j hj)
  clear e1 e2 e3 hE
  go_enter Tryd.func15, Tryd.ntmps15
  go_wp2_with fail
  obtain ⟨A, hA⟩ : ∃ A, A = w.alloc (.cells s.cells 24) := ⟨_, rfl⟩
  obtain ⟨V, hV⟩ : ∃ V, V = A.alloc (.cells t.cells 24) := ⟨_, rfl⟩
  have hwA : Below w.heap.size w A := by rw [hA]; exact (Below.refl _ _).alloc (Nat.le_refl _) _
  have hAV : Below A.heap.size A V := by rw [hV]; exact (Below.refl _ _).alloc (Nat.le_refl _) _
  have hwV := hwA.trans (hAV.mono hwA.size)
  have sA : A.heap.size = w.heap.size + 1 := by rw [hA]; simp
  have HX := Lib.hid (And.intro hwV (And.intro (show SchAt V w.heap.size s from SchAt.below (w := A) (by rw [hA]; exact heap_alloc_new w _) hAV) (And.intro (show SchAt V (w.heap.size + 1) t by rw [hV, ← sA]; exact heap_alloc_new A _) (And.intro (hC.below hwV) (And.intro (hC2.below hwV) (And.intro (hO.below hwV) (hO2.below hwV)))))))
  rw [← hA, ← hV]
  clear hC hC2 hO hO2 hwA hAV hwV sA hV hA q1 hp q3
  obtain ⟨N, hN⟩ : ∃ N, N = s.cols.length := ⟨_, rfl⟩
  have hM : N = t.cols.length := hN.trans e4
  have HN := Lib.hid hN
  have HM := Lib.hid hM
  have hN63 : N ≤ 9223372036854775807 := by rw [hN]; exact hf
  clear hN hM hf e4 q4
  go_loopw [5] (fun i wr => ∃ k : Nat, k ≤ N ∧ i = .int .i64 (k : Int) ∧ Hid (Below V.heap.size V wr)) (fun i _ => N - (intOf i).toNat)
  case atStart => exact ⟨0, Nat.zero_le _, rfl, Lib.hid (Below.refl _ _)⟩
  case round =>
    obtain ⟨k, hk, rfl, HJ⟩ := hrel
    have a3 := (HX.out.2.1.below HJ.out).c3
    have b3 := (HX.out.2.2.1.below HJ.out).c3
    rw [← HN.out] at a3
    rw [← HM.out] at b3
    by_cases hlt : k < N
    · obtain ⟨ad, ea, c0, c1, c2, c3⟩ := (HX.out.2.2.2.1.below HJ.out).at (j := k) (by rw [← HN.out]; exact hlt)
      obtain ⟨bd, eb, f0, f1, f2, f3⟩ := (HX.out.2.2.2.2.1.below HJ.out).at (j := k) (by rw [← HM.out]; exact hlt)
      have HOC := Lib.hid (HX.out.2.2.2.2.2.1 k (by rw [← HN.out]; exact hlt))
      have HOD := Lib.hid (HX.out.2.2.2.2.2.2 k (by rw [← HM.out]; exact hlt))
      have hec := HE.out k (by rw [← HN.out]; exact hlt)
      obtain ⟨c, hc⟩ : ∃ c, c = s.cols.getD k default := ⟨_, rfl⟩
      obtain ⟨d, hd⟩ : ∃ d, d = t.cols.getD k default := ⟨_, rfl⟩
      rw [← hc] at c0 c1 c2 c3 HOC hec
      rw [← hd] at f0 f1 f2 f3 HOD hec
      rw [ea] at a3
      rw [eb] at b3
      unfold erC at hec
      simp only [Prod.mk.injEq] at hec
      have HEC := Lib.hid hec
      clear ea eb hc hd hec
      go_upto_region 6 with fail
      go_cut [6, 7] from 37 to 99 (fun p q wx => ∃ x y : Nat, p = .pointer (some ⟨x, 0, none⟩) ∧ q = .pointer (some ⟨y, 0, none⟩) ∧ Hid (ColAt wx x c ∧ ColAt wx y d ∧ Below V.heap.size V wx))
      case first =>
        have HSX := Lib.hid (show ∀ W, Ch (fun j => wr.heap.size ≤ j) wr W → RdS W w.heap.size ad bd N N k s.cc t.cc c d from fun W h => RdS.ch ⟨a3, b3, c0, c1, c2, c3, f0, f1, f2, f3⟩ h)
        have H1 := Lib.hid (pair_at HJ.out c d)
        have H2 := Lib.hid (pair_at HJ.out d c)
        clear a3 b3 c0 c1 c2 c3 f0 f1 f2 f3 HOC HOD HEC
        go_region_held3 (fun W => W.cell? ⟨w.heap.size, 3, none⟩ = some (.slice (some ad) N s.cc) ∧ W.cell? ⟨w.heap.size + 1, 3, none⟩ = some (.slice (some bd) N t.cc) ∧
          W.cell? (ad.add (k * 4)) = some (.string c.name) ∧ W.cell? ⟨(ad.add (k * 4)).block, (ad.add (k * 4)).off + 1, none⟩ = some (.int .i64 c.lo) ∧ W.cell? ⟨(ad.add (k * 4)).block, (ad.add (k * 4)).off + 2, none⟩ = some (.int .i64 c.hi) ∧ W.cell? ⟨(ad.add (k * 4)).block, (ad.add (k * 4)).off + 3, none⟩ = some (.slice c.wa c.ws.length c.wc) ∧
          W.cell? (bd.add (k * 4)) = some (.string d.name) ∧ W.cell? ⟨(bd.add (k * 4)).block, (bd.add (k * 4)).off + 1, none⟩ = some (.int .i64 d.lo) ∧ W.cell? ⟨(bd.add (k * 4)).block, (bd.add (k * 4)).off + 2, none⟩ = some (.int .i64 d.hi) ∧ W.cell? ⟨(bd.add (k * 4)).block, (bd.add (k * 4)).off + 3, none⟩ = some (.slice d.wa d.ws.length d.wc)) ((refine HSX.out _ ?_; repeat (first | exact Ch.refl _ _ | refine Ch.drew2 ?_ | refine Ch.alloc2 ?_ _ | refine Ch.putObj2 ?_ _ (by simp)))) (fail)
        all_goals
          go_wp2_with fail
          go_meet
          first | exact ⟨_, _, rfl, rfl, Lib.hid ⟨H1.out.1, H1.out.2.1, H1.out.2.2⟩⟩ | exact ⟨_, _, rfl, rfl, Lib.hid ⟨H2.out.2.1, H2.out.1, H2.out.2.2⟩⟩
      case rest =>
        obtain ⟨x, y, rfl, rfl, HW⟩ := hcut
        obtain ⟨g1, g2, g3, g4⟩ := HEC.out
        have c0 := HW.out.1.c0
        have c1 := HW.out.1.c1
        have c2 := HW.out.1.c2
        have c3 := HW.out.1.c3
        have f0 := HW.out.2.1.c0
        have f1 := HW.out.2.1.c1
        have f2 := HW.out.2.1.c2
        have f3 := HW.out.2.1.c3
        rw [← g1] at f0
        rw [← g2] at f1
        rw [← g3] at f2
        rw [← g4] at f3
        have n1 : (!(c.name.toList == c.name.toList)) = false := by rw [str_same rfl]; rfl
        have n2 : (c.lo != c.lo) = false := by simp
        have n3 : (c.hi != c.hi) = false := by simp
        have n4 : ((c.ws.length : Int) != (c.ws.length : Int)) = false := by simp
        have HG := Lib.hid g4
        have hcf := HOC.out.few
        clear g1 g2 g3 g4 a3 b3
        go_wp2_with fail
        clear c0 c1 c2 f0 f1 f2
        obtain ⟨m, hm⟩ : ∃ m, m = c.ws.length := ⟨_, rfl⟩
        rw [← hm] at c3 f3 hcf
        have HMM := Lib.hid hm
        clear hm n1 n2 n3 n4
        go_loopw [8] (fun i wi => ∃ q n : Nat, q ≤ m ∧ i = .int .i64 (q : Int) ∧ wi = wc.drewN n) (fun i _ => m - (intOf i).toNat)
        case atStart => exact ⟨0, 0, Nat.zero_le _, rfl, rfl⟩
        case round =>
          obtain ⟨q, n, hq, rfl, rfl⟩ := hrel
          by_cases hlt3 : q < m
          · obtain ⟨au, eu, _, d1⟩ := (HOC.out.words.below HW.out.2.2).at (j := q) (by rw [← HMM.out]; exact hlt3)
            obtain ⟨bu, ev, _, d2⟩ := (HOD.out.words.below HW.out.2.2).at (j := q) (by rw [← HG.out, ← HMM.out]; exact hlt3)
            rw [← HG.out] at d2
            obtain ⟨z, hz⟩ : ∃ z, z = c.ws.getD q ByteArray.empty := ⟨_, rfl⟩
            rw [← hz] at d1 d2
            rw [eu] at c3
            rw [ev] at f3
            have n1 : (!(z.toList == z.toList)) = false := by rw [str_same rfl]; rfl
            clear eu ev hz
            go_wp2_with fail
            go_quiet (fail)
            go_wp2_with fail
            go_roundw
            case rel => exact ⟨q + 1, _, by omega, by go_num, rfl⟩
            case measure => simp [intOf]; omega
          · obtain rfl : m = q := by omega
            have HJ2 := Lib.hid (below_drewN HW.out.2.2 n)
            go_wp2_with fail
            go_roundw
            case rel => exact ⟨k + 1, by omega, by go_num, HJ2⟩
            case measure => simp [intOf]; omega
    · obtain rfl : N = k := by omega
      have HF := Lib.hid (HX.out.1.trans (HJ.out.mono HX.out.1.size))
      clear HJ
      go_wp2_with fail
      go_ret
      exact ⟨rfl, HF.out⟩

end Go.Proofs.YtgehldadfaonbaaDoor
