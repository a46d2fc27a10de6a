/-
  The chapter's columns and schema; checks.
-/
import Derived.Test.YtgehldadfaonbaaDoorSU
namespace Go.Proofs.YtgehldadfaonbaaDoor
open Go.RowKit Go.Shelf Go.ChangeMaps Go.Maps

def tRed : ByteArray := ⟨#[114, 101, 100]⟩
def tGreen : ByteArray := ⟨#[103, 114, 101, 101, 110]⟩
/-- The column colour, with hi in the place of 1; its words lie behind b. -/
abbrev colC (hi : Int) (b : Nat) : Col := ⟨⟨#[99, 111, 108, 111, 117, 114]⟩, 0, hi, some ⟨b, 0, none⟩, 2, [tRed, tGreen]⟩
abbrev ageC : Col := ⟨⟨#[97, 103, 101]⟩, 0, 120, none, 0, []⟩
abbrev pplS (a : Option Addr) (c : Nat) (L : List Col) : Sch := ⟨⟨#[112, 101, 111, 112, 108, 101]⟩, false, 3, a, c, L⟩

theorem age_any (w : World) : Calls Tryd.prog 31 #[] w fun e w' => e = .returned (.agg ageC.cells) ∧ Below w.heap.size w w' := by
  have HB := Lib.hid (show Below w.heap.size w (w.alloc (.cells #[.string ⟨#[97, 103, 101]⟩, .int .i64 0, .int .i64 120, .slice none 0 0] 44)) from (Below.refl _ _).alloc (Nat.le_refl _) _)
  go_enter Tryd.func31, Tryd.ntmps31
  go_wp2
  exact bodyPost_ret (v := .agg ageC.cells) (by simp [results, Tryd.results31, go_sem]) rfl ⟨rfl, HB.out⟩
theorem colour_any (w : World) : Calls Tryd.prog 32 #[] w fun e w' => ∃ b, e = .returned (.agg (colC 1 b).cells) ∧ w.heap.size ≤ b ∧ TL w' (some ⟨b, 0, none⟩) [tRed, tGreen] ∧ Below w.heap.size w w' := by
  obtain ⟨V, hV⟩ : ∃ V, V = (w.alloc (.cells #[.string ⟨#[99, 111, 108, 111, 117, 114]⟩, .int .i64 0, .int .i64 1, .slice (some ⟨w.heap.size + 1, 0, none⟩) 2 2] 44)).alloc (.cells #[.string tRed, .string tGreen] 9) := ⟨_, rfl⟩
  have HT := Lib.hid (show TL V (some ⟨w.heap.size + 1, 0, none⟩) [tRed, tGreen] from TL.row (t := 9) (fr := (0, 0)) (by
    rw [hV]
    have := heap_alloc_new (w.alloc (.cells #[.string ⟨#[99, 111, 108, 111, 117, 114]⟩, .int .i64 0, .int .i64 1, .slice (some ⟨w.heap.size + 1, 0, none⟩) 2 2] 44)) (.cells #[.string tRed, .string tGreen] 9)
    rwa [World.size_alloc] at this))
  have HB := Lib.hid (show Below w.heap.size w V from by rw [hV]; exact ((Below.refl _ _).alloc (Nat.le_refl _) _).alloc (by simp) _)
  subst hV
  go_enter Tryd.func32, Tryd.ntmps32
  go_wp2
  exact bodyPost_ret (v := .agg (colC 1 (w.heap.size + 1)).cells) (by simp [results, Tryd.results32, go_sem]) rfl ⟨_, rfl, Nat.le_succ _, HT.out, HB.out⟩
theorem people_any (a : Option Addr) (n c : Nat) (w : World) : Calls Tryd.prog 30 #[.slice a n c] w fun e w' => e = .returned (.agg #[.string ⟨#[112, 101, 111, 112, 108, 101]⟩, .bool false, .int .i64 3, .slice a n c]) ∧ Below w.heap.size w w' := by
  have HB := Lib.hid (show Below w.heap.size w (w.alloc (.cells #[.string ⟨#[112, 101, 111, 112, 108, 101]⟩, .bool false, .int .i64 3, .slice a n c] 24)) from (Below.refl _ _).alloc (Nat.le_refl _) _)
  go_enter Tryd.func30, Tryd.ntmps30
  go_wp2
  exact bodyPost_ret (v := .agg #[.string ⟨#[112, 101, 111, 112, 108, 101]⟩, .bool false, .int .i64 3, .slice a n c]) (by simp [results, Tryd.results30, go_sem]) rfl ⟨rfl, HB.out⟩

/-- checks: Check returns the error x and the column y. -/
theorem checks_any {w : World} {s : Sch} (x y : Int) (hR : Res w) (hC : CL w s.ca s.cols) (hO : ColsOk w s.cols) (he : chkS s = (x, y)) :
    Calls Tryd.prog 33 #[.agg s.cells, .int .i64 x, .int .i64 y] w fun e w' => e = .returned (.bool true) ∧ Below w.heap.size w w' := by
  have hb : Below w.heap.size w (w.alloc (.cells s.cells 24)) := (Below.refl _ _).alloc (Nat.le_refl _) _
  have HC := Lib.hid (check_any2 (hR.of hb) (hC.below hb) (hO.below hb))
  rw [he] at HC
  have HB := Lib.hid hb
  clear hb hR hC hO he
  go_enter Tryd.func33, Tryd.ntmps33
  go_wp2_with fail
  refine HC.out.mono ?_
  rintro e w1 ⟨rfl, hb1⟩
  have HF := Lib.hid (HB.out.trans (hb1.mono HB.out.size))
  clear hb1 HC HB
  go_wp2
  all_goals
    go_ret
    exact ⟨by simp, HF.out⟩

end Go.Proofs.YtgehldadfaonbaaDoor
