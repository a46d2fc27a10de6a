/-
  SchemaKnown: what its schemas are.
-/
import Derived.Test.YtgehldadfaonbaaDoorKD
import Derived.Test.YtgehldadfaonbaaDoorKE
import Derived.Test.YtgehldadfaonbaaDoorAF
import Derived.RegionTactic
import Derived.ChangeAlike
import Derived.Deep.CutRange
import Derived.Deep.CutBlock
import Derived.Deep.RegionHeld3
namespace Go.Proofs.YtgehldadfaonbaaDoor
open Go.RowKit Go.Shelf Go.ChangeMaps Go.Maps

theorem name_lift {V W : World} {x : ByteArray} {v : Bool} (hR : WL V) (h : Below V.heap.size V W) (e : nmB x = v) : Calls Tryd.prog 23 #[.string x] W fun e w' => e = .returned (.bool v) ∧ Below V.heap.size V w' := by
  subst e
  exact (name_any x W (hR.of h).res).mono fun _ _ ⟨h1, h2⟩ => ⟨h1, h.trans (h2.mono h.size)⟩
theorem times_lift {V W : World} (n : Nat) (hn : n ≤ 1000000) (h : Below V.heap.size V W) : Calls Tryd.prog 29 #[.string ⟨#[97]⟩, .int .i64 (n : Int)] W fun e w' => e = .returned (.string ⟨(List.replicate n (97 : UInt8)).toArray⟩) ∧ Below V.heap.size V w' :=
  (times_one 97 n hn W).mono fun _ _ ⟨h1, h2⟩ => ⟨h1, h.trans (h2.mono h.size)⟩
theorem nm_1a : nmB ⟨#[49, 97]⟩ = false := by decide +kernel
theorem nm_21 : nmB ⟨(List.replicate 21 (97 : UInt8)).toArray⟩ = false := by decide +kernel
theorem nm_20 : nmB ⟨(List.replicate 20 (97 : UInt8)).toArray⟩ = true := by decide +kernel

/-- people over columns that have just been laid. -/
theorem people_any2 {V W : World} (L : List Col) (cs : Array Value) (n c : Nat) (h : Below V.heap.size V W) (hO : ColsOk W L) (hcs : cs = (colsV L).toArray) (hn : n = L.length) (h3 : L.length ≤ 3) :
    Calls Tryd.prog 30 #[.slice (some ⟨W.heap.size, 0, none⟩) n c] (W.alloc (.cells cs 44)) fun e w' => ∃ s : Sch, (∃ g, s = pplS (some ⟨g, 0, none⟩) c L) ∧ e = .returned (.agg s.cells) ∧ SchOk w' s ∧ Below V.heap.size V w' ∧ Below W.heap.size W w' := by
  subst hn
  refine (people_lift h cs _ _ _).mono ?_
  rintro e w' ⟨rfl, hr, hk, hB⟩
  rw [hcs] at hr
  refine ⟨pplS (some ⟨W.heap.size, 0, none⟩) c L, ⟨_, rfl⟩, rfl, ⟨CL.row hr, hO.below hk, ?_, ?_⟩, hB, hk⟩
  · show L.length ≤ _; omega
  · show 6 ≤ maxLen; unfold maxLen; omega
theorem colour_keep {V W : World} {l : List ByteArray} {a : Option Addr} (h : Below V.heap.size V W) (hT : TL W a l) : Calls Tryd.prog 32 #[] W fun e w' => ∃ b, e = .returned (.agg (colC 1 b).cells) ∧ TL w' (some ⟨b, 0, none⟩) [tRed, tGreen] ∧ TL w' a l ∧ Below V.heap.size V w' :=
  (colour_any W).mono fun _ _ ⟨b, h1, _, h2, h3⟩ => ⟨b, h1, h2, hT.below h3, h.trans (h3.mono h.size)⟩
theorem checks_lift {V W : World} {s : Sch} (x y : Int) (hR : WL V) (h : Below V.heap.size V W) (hs : SchOk W s) (he : chkS s = (x, y)) : Calls Tryd.prog 33 #[.agg s.cells, .int .i64 x, .int .i64 y] W fun e w' => e = .returned (.bool true) ∧ Below V.heap.size V w' :=
  (checks_any x y (hR.of h).res hs.cl hs.ok he).mono fun _ _ ⟨h1, h2⟩ => ⟨h1, h.trans (h2.mono h.size)⟩
theorem SchOk.many {w : World} {s : Sch} (h : SchOk w s) (m : Int) : SchOk w ⟨s.name, s.pub, m, s.ca, s.cc, s.cols⟩ := ⟨h.cl, h.ok, h.few, h.short⟩
theorem SchOk.pub {w : World} {s : Sch} (h : SchOk w s) (p : Bool) : SchOk w ⟨s.name, p, s.many, s.ca, s.cc, s.cols⟩ := ⟨h.cl, h.ok, h.few, h.short⟩

theorem sch_pair (w : World) (s t : Sch) : SchAt ((w.alloc (.cells s.cells 24)).alloc (.cells t.cells 24)) w.heap.size s ∧ SchAt ((w.alloc (.cells s.cells 24)).alloc (.cells t.cells 24)) (w.heap.size + 1) t ∧
    Below w.heap.size w ((w.alloc (.cells s.cells 24)).alloc (.cells t.cells 24)) := by
  obtain ⟨A, hA⟩ : ∃ A, A = w.alloc (.cells s.cells 24) := ⟨_, rfl⟩
  have sA : A.heap.size = w.heap.size + 1 := by rw [hA]; simp
  have hwA : Below w.heap.size w A := by rw [hA]; exact (Below.refl _ _).alloc (Nat.le_refl _) _
  have hAV : Below A.heap.size A (A.alloc (.cells t.cells 24)) := (Below.refl _ _).alloc (Nat.le_refl _) _
  have h1 : SchAt A w.heap.size s := by rw [hA]; exact heap_alloc_new w _
  have h2 : SchAt (A.alloc (.cells t.cells 24)) A.heap.size t := heap_alloc_new A _
  rw [sA] at h2
  rw [← hA]
  exact ⟨h1.below hAV, h2, hwA.trans (hAV.mono hwA.size)⟩
/-- The column whose range is empty. -/
abbrev backC : Col := ⟨⟨#[97, 103, 101]⟩, 5, 4, none, 0, []⟩
/-- The column whose words are equal. -/
abbrev redC (b : Nat) : Col := ⟨⟨#[99, 111, 108, 111, 117, 114]⟩, 0, 1, some ⟨b, 0, none⟩, 2, [tRed, tRed]⟩
theorem col_three (w : World) : ColAt (((w.alloc (.cells backC.cells 44)).alloc (.cells (redC (w.heap.size + 2)).cells 44)).alloc (.cells #[.string tRed, .string tRed] 9)) w.heap.size backC ∧
    ColAt (((w.alloc (.cells backC.cells 44)).alloc (.cells (redC (w.heap.size + 2)).cells 44)).alloc (.cells #[.string tRed, .string tRed] 9)) (w.heap.size + 1) (redC (w.heap.size + 2)) ∧
    TL (((w.alloc (.cells backC.cells 44)).alloc (.cells (redC (w.heap.size + 2)).cells 44)).alloc (.cells #[.string tRed, .string tRed] 9)) (some ⟨w.heap.size + 2, 0, none⟩) [tRed, tRed] ∧
    Below w.heap.size w (((w.alloc (.cells backC.cells 44)).alloc (.cells (redC (w.heap.size + 2)).cells 44)).alloc (.cells #[.string tRed, .string tRed] 9)) := by
  obtain ⟨R, hR⟩ : ∃ R, R = (redC (w.heap.size + 2)).cells := ⟨_, rfl⟩
  have e : ∀ (W : World) b, ColAt W b (redC (w.heap.size + 2)) = (W.heap[b]? = some (.cells R 44 (0, 0))) := fun W b => by unfold ColAt; rw [hR]
  rw [e, ← hR]
  obtain ⟨A, hA⟩ : ∃ A, A = w.alloc (.cells backC.cells 44) := ⟨_, rfl⟩
  obtain ⟨B, hB⟩ : ∃ B, B = A.alloc (.cells R 44) := ⟨_, rfl⟩
  have sA : A.heap.size = w.heap.size + 1 := by rw [hA]; simp
  have sB : B.heap.size = w.heap.size + 2 := by rw [hB, World.size_alloc, sA]
  have hwA : Below w.heap.size w A := by rw [hA]; exact (Below.refl _ _).alloc (Nat.le_refl _) _
  have hAB : Below A.heap.size A B := by rw [hB]; exact (Below.refl _ _).alloc (Nat.le_refl _) _
  have hBC : Below B.heap.size B (B.alloc (.cells #[.string tRed, .string tRed] 9)) := (Below.refl _ _).alloc (Nat.le_refl _) _
  have h1 : ColAt A w.heap.size backC := by rw [hA]; exact heap_alloc_new w _
  have h2 : B.heap[A.heap.size]? = some (.cells R 44 (0, 0)) := by rw [hB]; exact heap_alloc_new A _
  have h3 := heap_alloc_new B (.cells #[.string tRed, .string tRed] 9)
  rw [sA] at h2
  rw [sB] at h3
  rw [← hA, ← hB]
  exact ⟨(h1.below hAB).below hBC, (hBC.block _ (by rw [sB]; omega)).trans h2, TL.row h3, (hwA.trans (hAB.mono hwA.size)).trans (hBC.mono (by rw [sB]; omega))⟩

theorem chkS_ppl (a : Option Addr) (c : Nat) (L : List Col) (h1 : L.length ≠ 0) (h2 : L.length ≤ 16) : chkS (pplS a c L) = chkFrom [] L := by
  have e : tabE (pplS a c L) = 0 := by
    unfold tabE
    rw [if_neg (by show ¬ nmB ⟨#[112, 101, 111, 112, 108, 101]⟩ = false; decide +kernel), if_neg (by unfold manyB lst mst; simp), if_neg h1, if_neg (by show ¬ 16 < L.length; omega)]
  unfold chkS
  rw [if_pos e]
theorem chkC_red (names : List ByteArray) (b : Nat) : chkC names (redC b) = chkC names (redC 0) := by unfold chkC rangeB placeB; rfl
theorem chk_age : chkC [] ageC = 0 := by decide +kernel
theorem chk_nil (a : Option Addr) (c : Nat) : chkS (pplS a c []) = (3, -1) := by
  have e : tabE (pplS a c []) = 3 := by
    unfold tabE
    rw [if_neg (by show ¬ nmB ⟨#[112, 101, 111, 112, 108, 101]⟩ = false; decide +kernel), if_neg (by unfold manyB lst mst; simp), if_pos (show (pplS a c []).cols.length = 0 from rfl)]
  unfold chkS
  rw [e]; rfl
theorem chk_twice (a : Option Addr) (c b b' : Nat) : chkS (pplS a c [ageC, colC 1 b, colC 1 b']) = (8, 2) := by
  rw [chkS_ppl a c _ (by simp) (by simp)]
  unfold chkFrom
  rw [if_pos chk_age]
  show chkFrom [ageC.name] [colC 1 b, colC 1 b'] = _
  unfold chkFrom
  rw [if_pos (by rw [chkC_at]; decide +kernel)]
  show chkFrom [ageC.name, (colC 1 0).name] [colC 1 b'] = _
  unfold chkFrom
  rw [chkC_at, if_neg (by decide +kernel)]
  show (chkC [ageC.name, (colC 1 0).name] (colC 1 0), (2 : Int)) = _
  rw [show chkC [ageC.name, (colC 1 0).name] (colC 1 0) = 8 by decide +kernel]
theorem chk_back (a : Option Addr) (c b : Nat) : chkS (pplS a c [backC, colC 1 b]) = (2, 0) := by
  rw [chkS_ppl a c _ (by simp) (by simp)]
  unfold chkFrom
  rw [if_neg (by decide +kernel)]
  show (chkC [] backC, (0 : Int)) = _
  rw [show chkC [] backC = 2 by decide +kernel]
theorem chk_red (a : Option Addr) (c b : Nat) : chkS (pplS a c [ageC, redC b]) = (8, 1) := by
  rw [chkS_ppl a c _ (by simp) (by simp)]
  unfold chkFrom
  rw [if_pos chk_age]
  show chkFrom [ageC.name] [redC b] = _
  unfold chkFrom
  rw [chkC_red, if_neg (by decide +kernel)]
  show (chkC [ageC.name] (redC 0), (1 : Int)) = _
  rw [show chkC [ageC.name] (redC 0) = 8 by decide +kernel]
theorem chk_many {s : Sch} (h1 : nmB s.name = true) (h2 : manyB s = false) : chkS s = (2, -1) := by
  have e : tabE s = 2 := by unfold tabE; rw [if_neg (by rw [h1]; decide), if_pos h2]
  unfold chkS
  rw [e]; rfl
theorem nm_people : nmB ⟨#[112, 101, 111, 112, 108, 101]⟩ = true := by decide +kernel
theorem backOk (w : World) : ColOk w backC :=
  ⟨.inl rfl, by show 0 ≤ _; omega, by show 3 ≤ maxLen; unfold maxLen; omega, fun j => by
    show (([] : List ByteArray).getD j ByteArray.empty).size ≤ maxLen
    show 0 ≤ _; omega, by show _ ≤ (5 : Int); omega, by show (5 : Int) ≤ _; omega, by show _ ≤ (4 : Int); omega, by show (4 : Int) ≤ _; omega⟩
theorem redOk {w : World} {b : Nat} (h : TL w (some ⟨b, 0, none⟩) [tRed, tRed]) : ColOk w (redC b) :=
  ⟨h, by show 2 ≤ _; omega, by show 6 ≤ maxLen; unfold maxLen; omega, fun j => by
    show ([tRed, tRed].getD j ByteArray.empty).size ≤ maxLen
    unfold maxLen
    match j with
    | 0 => show 3 ≤ _; omega
    | 1 => show 3 ≤ _; omega
    | _ + 2 => show 0 ≤ _; omega, by show _ ≤ (0 : Int); omega, by show (0 : Int) ≤ _; omega, by show _ ≤ (1 : Int); omega, by show (1 : Int) ≤ _; omega⟩
theorem colsOk2 {w : World} {c d : Col} (h1 : ColOk w c) (h2 : ColOk w d) : ColsOk w [c, d] := fun j hj => by
  match j, hj with
  | 0, _ => exact h1
  | 1, _ => exact h2
theorem colsOk3 {w : World} {c d e : Col} (h1 : ColOk w c) (h2 : ColOk w d) (h3 : ColOk w e) : ColsOk w [c, d, e] := fun j hj => by
  match j, hj with
  | 0, _ => exact h1
  | 1, _ => exact h2
  | 2, _ => exact h3

def schsV (L : List Sch) : List Value := L.flatMap fun s => [.string s.name, .bool s.pub, .int .i64 s.many, .slice s.ca s.cols.length s.cc]
theorem sl_one {w : World} {b : Nat} {t : TypeId} {fr : Nat × Nat} {s : Sch} (h : w.heap[b]? = some (.cells #[.string s.name, .bool s.pub, .int .i64 s.many, .slice s.ca s.cols.length s.cc] t fr)) : SL w (some ⟨b, 0, none⟩) [s] := by
  refine .inr ⟨_, rfl, (Array.getElem?_eq_some_iff.1 h).1, fun j hj => ?_⟩
  obtain rfl : j = 0 := by simpa using hj
  exact ⟨cell_of_row w b 0 _ _ _ h, cell_of_row w b 1 _ _ _ h, cell_of_row w b 2 _ _ _ h, cell_of_row w b 3 _ _ _ h⟩
theorem sl_two {w : World} {b : Nat} {t : TypeId} {fr : Nat × Nat} {s : Sch} (h : w.heap[b]? = some (.cells #[.string s.name, .bool s.pub, .int .i64 s.many, .slice s.ca s.cols.length s.cc, .string s.name, .bool s.pub, .int .i64 s.many, .slice s.ca s.cols.length s.cc] t fr)) : SL w (some ⟨b, 0, none⟩) [s, s] := by
  refine .inr ⟨_, rfl, (Array.getElem?_eq_some_iff.1 h).1, fun j hj => ?_⟩
  obtain rfl | rfl : j = 0 ∨ j = 1 := by have : j < 2 := hj; omega
  · exact ⟨cell_of_row w b 0 _ _ _ h, cell_of_row w b 1 _ _ _ h, cell_of_row w b 2 _ _ _ h, cell_of_row w b 3 _ _ _ h⟩
  · exact ⟨cell_of_row w b 4 _ _ _ h, cell_of_row w b 5 _ _ _ h, cell_of_row w b 6 _ _ _ h, cell_of_row w b 7 _ _ _ h⟩
theorem all_two {V w : World} {s : Sch} {g : Nat} (hg0 : g = w.heap.size) (hR : WL V) (hs : SchOk V s) (hg : chkS s = (0, -1)) (h : Below V.heap.size V w) : Calls Tryd.prog 17 #[.slice (some ⟨g, 0, none⟩) 2 2] (w.alloc (.cells #[.string s.name, .bool s.pub, .int .i64 s.many, .slice s.ca s.cols.length s.cc, .string s.name, .bool s.pub, .int .i64 s.many, .slice s.ca s.cols.length s.cc] 24)) fun e w' => e = .returned (.tuple #[.int .i64 8, .int .i64 1, .int .i64 (-1)]) ∧ Below V.heap.size V w' := by
  subst hg0
  have hb := h.alloc h.size (.cells #[.string s.name, .bool s.pub, .int .i64 s.many, .slice s.ca s.cols.length s.cc, .string s.name, .bool s.pub, .int .i64 s.many, .slice s.ca s.cols.length s.cc] 24)
  have he : chkA [s, s] = (8, 1, -1) := by
    unfold chkA
    rw [if_neg (by simp)]
    unfold allFrom
    rw [hg, if_pos rfl, if_neg (by simp [memB])]
    show allFrom [s.name] [s] = _
    unfold allFrom
    rw [hg, if_pos rfl, if_pos (by simp [memB])]
    rfl
  have hc := pall_any (c := 2) (hR.of hb).res (sl_two (heap_alloc_new w (.cells #[.string s.name, .bool s.pub, .int .i64 s.many, .slice s.ca s.cols.length s.cc, .string s.name, .bool s.pub, .int .i64 s.many, .slice s.ca s.cols.length s.cc] 24))) (fun j hj => by
    obtain rfl | rfl : j = 0 ∨ j = 1 := by have : j < 2 := hj; omega
    · exact hs.below hb
    · exact hs.below hb) (by show 2 ≤ _; omega)
  rw [he] at hc
  exact hc.mono fun _ _ ⟨h1, h2⟩ => ⟨h1, hb.trans (h2.mono hb.size)⟩
theorem all_17 {V w : World} (a : Option Addr) (c : Nat) (h : Below V.heap.size V w) : Calls Tryd.prog 17 #[.slice a 17 c] w fun e w' => e = .returned (.tuple #[.int .i64 4, .int .i64 16, .int .i64 (-1)]) ∧ Below V.heap.size V w' := by
  have hc := pall_long (w := w) (ao := a) (L := List.replicate 17 default) (c := c) (by simp) (by simp)
  rw [show chkA (List.replicate 17 default) = (4, 16, -1) from if_pos (by simp), List.length_replicate] at hc
  exact hc.mono fun _ _ ⟨h1, h2⟩ => ⟨h1, h.trans (h2.mono h.size)⟩
theorem find_one {V w : World} {s : Sch} (hn : s.name = ⟨#[112, 101, 111, 112, 108, 101]⟩) (h : Below V.heap.size V w) : Calls Tryd.prog 19 #[.slice (some ⟨w.heap.size, 0, none⟩) 1 1, .string ⟨#[112, 101, 111, 112, 108, 101]⟩] (w.alloc (.cells #[.string s.name, .bool s.pub, .int .i64 s.many, .slice s.ca s.cols.length s.cc] 24)) fun e w' => e = .returned (.tuple #[.int .i64 0, .bool true]) ∧ Below V.heap.size V w' := by
  have hb := h.alloc h.size (.cells #[.string s.name, .bool s.pub, .int .i64 s.many, .slice s.ca s.cols.length s.cc] 24)
  have hc := pfind_any (c := 1) (L := [s]) ⟨#[112, 101, 111, 112, 108, 101]⟩ (sl_one (heap_alloc_new w (.cells #[.string s.name, .bool s.pub, .int .i64 s.many, .slice s.ca s.cols.length s.cc] 24))) (by show 1 ≤ _; omega)
  rw [show idxT ⟨#[112, 101, 111, 112, 108, 101]⟩ ([s].map Sch.name) = 0 by show idxT _ [s.name] = 0; unfold idxT; rw [if_pos hn]] at hc
  exact hc.mono fun _ _ ⟨h1, h2⟩ => ⟨h1, hb.trans (h2.mono hb.size)⟩
theorem column_two {V w : World} {s : Sch} {b : Nat} (hn : s.cols = [ageC, colC 1 b]) (hs : SchOk V s) (h : Below V.heap.size V w) : Calls Tryd.prog 21 #[.agg s.cells, .string ⟨#[99, 111, 108, 111, 117, 114]⟩] w fun e w' => e = .returned (.tuple #[.int .i64 1, .bool true]) ∧ Below V.heap.size V w' := by
  have hc := pcolumn_any ⟨#[99, 111, 108, 111, 117, 114]⟩ (hs.below h).cl hs.few
  rw [show idxT ⟨#[99, 111, 108, 111, 117, 114]⟩ (s.cols.map Col.name) = 1 by rw [hn]; show idxT ⟨#[99, 111, 108, 111, 117, 114]⟩ [⟨#[97, 103, 101]⟩, ⟨#[99, 111, 108, 111, 117, 114]⟩] = 1; decide +kernel] at hc
  exact hc.mono fun _ _ ⟨h1, h2⟩ => ⟨h1, h.trans (h2.mono h.size)⟩
theorem vld_col (b : Nat) : vldB (colC 1 b) = true := by unfold vldB; rw [chkC_at]; decide +kernel
theorem vld_age : vldB ageC = true := by decide +kernel
theorem value_green {V w : World} {b : Nat} (hR : WL V) (h : Below V.heap.size V w) (hT : TL w (some ⟨b, 0, none⟩) [tRed, tGreen]) : Calls Tryd.prog 34 #[.agg (colC 1 b).cells, .string ⟨#[103, 114, 101, 101, 110]⟩] w fun e w' => e = .returned (.tuple #[.int .i64 1, .bool true]) ∧ Below V.heap.size V w' := by
  have hc := value_any (c := colC 1 b) ⟨#[103, 114, 101, 101, 110]⟩ (fun _ => by show 5 ≤ _; omega) (hR.of h) (colOk hT (by omega) (by omega))
  rw [show valE (colC 1 b) ⟨#[103, 114, 101, 101, 110]⟩ = (1, true) by
    unfold valE
    rw [if_pos (vld_col b), if_pos (by show 0 < 2; omega)]
    show (mx0 (idxT ⟨#[103, 114, 101, 101, 110]⟩ [tRed, tGreen]), ge0 (idxT ⟨#[103, 114, 101, 101, 110]⟩ [tRed, tGreen])) = _
    decide +kernel] at hc
  exact hc.mono fun _ _ ⟨h1, h2⟩ => ⟨h1, h.trans (h2.mono h.size)⟩
theorem kT_7 : kT 7 = ⟨#[55]⟩ := by
  unfold kT
  rw [show (7 : Int) = ((7 : Nat) : Int) from rfl, Lib.itoa_nonneg, dec_small (by omega)]; rfl
theorem value_07 {V w : World} (hR : WL V) (h : Below V.heap.size V w) : Calls Tryd.prog 34 #[.agg ageC.cells, .string ⟨#[48, 55]⟩] w fun e w' => e = .returned (.tuple #[.int .i64 0, .bool false]) ∧ Below V.heap.size V w' := by
  have hc := value_any (c := ageC) ⟨#[48, 55]⟩ (fun _ => by show 2 ≤ _; omega) (hR.of h) (ageOk w)
  rw [show valE ageC ⟨#[48, 55]⟩ = (0, false) by
    unfold valE
    rw [if_pos vld_age, if_neg (by show ¬ 0 < 0; omega), numE_ok (v := 7) (by decide +kernel), if_neg (by rw [kT_7]; decide)]] at hc
  exact hc.mono fun _ _ ⟨h1, h2⟩ => ⟨h1, h.trans (h2.mono h.size)⟩
theorem width_age {V w : World} (hR : WL V) (h : Below V.heap.size V w) : Calls Tryd.prog 35 #[.agg ageC.cells] w fun e w' => e = .returned (.int .i64 121) ∧ Below V.heap.size V w' := by
  have hc := width_any (c := ageC) (hR.of h).res (ageOk w)
  rw [show widE ageC = 121 from if_pos vld_age] at hc
  exact hc.mono fun _ _ ⟨h1, h2⟩ => ⟨h1, h.trans (h2.mono h.size)⟩
theorem width_col {V w : World} {b : Nat} (hR : WL V) (h : Below V.heap.size V w) (hT : TL w (some ⟨b, 0, none⟩) [tRed, tGreen]) : Calls Tryd.prog 35 #[.agg (colC 1 b).cells] w fun e w' => e = .returned (.int .i64 2) ∧ Below V.heap.size V w' := by
  have hc := width_any (c := colC 1 b) (hR.of h).res (colOk hT (by omega) (by omega))
  rw [show widE (colC 1 b) = 2 from if_pos (vld_col b)] at hc
  exact hc.mono fun _ _ ⟨h1, h2⟩ => ⟨h1, h.trans (h2.mono h.size)⟩
theorem text_age {V w : World} (hR : WL V) (h : Below V.heap.size V w) : Calls Tryd.prog 36 #[.agg ageC.cells, .int .i64 7] w fun e w' => e = .returned (.string ⟨#[55]⟩) ∧ Below V.heap.size V w' := by
  have hc := text_any (c := ageC) 7 (hR.of h) (ageOk w) (by omega) (by omega)
  rw [show txtE ageC 7 = ⟨#[55]⟩ by unfold txtE; rw [if_pos ⟨vld_age, by show (0 : Int) ≤ 7; omega, by show (7 : Int) ≤ 120; omega⟩, if_neg (by show ¬ 0 < 0; omega), kT_7]] at hc
  exact hc.mono fun _ _ ⟨h1, h2⟩ => ⟨h1, h.trans (h2.mono h.size)⟩
theorem text_col {V w : World} {b : Nat} (hR : WL V) (h : Below V.heap.size V w) (hT : TL w (some ⟨b, 0, none⟩) [tRed, tGreen]) : Calls Tryd.prog 36 #[.agg (colC 1 b).cells, .int .i64 2] w fun e w' => e = .returned (.string ⟨#[]⟩) ∧ Below V.heap.size V w' := by
  have hc := text_any (c := colC 1 b) 2 (hR.of h) (colOk hT (by omega) (by omega)) (by omega) (by omega)
  rw [show txtE (colC 1 b) 2 = ⟨#[]⟩ from if_neg (fun h => by have h2 : (2 : Int) ≤ 1 := h.2.2; omega)] at hc
  exact hc.mono fun _ _ ⟨h1, h2⟩ => ⟨h1, h.trans (h2.mono h.size)⟩

end Go.Proofs.YtgehldadfaonbaaDoor
