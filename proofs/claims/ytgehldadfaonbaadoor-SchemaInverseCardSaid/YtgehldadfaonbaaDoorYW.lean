/-
  What the cards with the library's variables give the walks.
-/
import Derived.Test.YtgehldadfaonbaaDoorKB
import Derived.Test.YtgehldadfaonbaaDoorYC
namespace Go.Proofs.YtgehldadfaonbaaDoor
open Go Go.ChangeMaps Go.ChangeShapes Go.WideShapes Go.ChangeAt Go.RowKit

theorem gPow10 : Tryd.prog.globalNamed "internal/strconv.uint64pow10" = some 4 := by kernel_rfl
theorem tPow10 : (Tryd.prog.globals[4]?).map (·.type) = some 126 := by kernel_rfl
theorem lr_starE : "*" ++ "errors.errorString" = "*errors.errorString" := by decide
theorem lr_rowE (u : TypeId) (h : Tryd.prog.typeName? 3 u = some "*errors.errorString") : u = 122 :=
  typeName_ptr_named (nm := "errors.errorString") (by rw [lr_starE]; kernel_rfl) (by kernel_rfl) (by decide) u (by rw [lr_starE]; exact h)
theorem wl_of6 {W : World} (h : laidMetH Tryd.prog laid6 W) : WL W := by
  have hr := res_of6 h
  rw [MakeChecks.laidMetH_plain _ _ _ (by kernel_rfl)] at h
  have hg : Tryd.prog.globalNamed "strconv.ErrRange" = some 3 := by kernel_rfl
  have hg2 : Tryd.prog.globalNamed "strconv.ErrSyntax" = some 2 := by kernel_rfl
  obtain ⟨a0, s0, hv0, _, _, _⟩ := laid_sentinel h.tail.tail.tail hg (by kernel_rfl) Tryd.underlying78 lr_rowE Tryd.underlying122 Tryd.underlying124 rfl rfl Tryd.underlying9 (by kernel_rfl) (by kernel_rfl)
  obtain ⟨a1, s1, hv1, _, _, _⟩ := laid_sentinel h.tail.tail.tail.tail hg2 (by kernel_rfl) Tryd.underlying78 lr_rowE Tryd.underlying122 Tryd.underlying124 rfl rfl Tryd.underlying9 (by kernel_rfl) (by kernel_rfl)
  exact ⟨hr, Lib.tabIs_of_head gPow10 tPow10 Tryd.underlying126 Tryd.underlying108 (by kernel_rfl) (by kernel_rfl) h.tail.tail, ⟨_, World.var?_cell hg2 hv1 0, .inr ⟨_, _, rfl⟩⟩, ⟨_, World.var?_cell hg hv0 0, .inr ⟨_, _, rfl⟩⟩⟩

end Go.Proofs.YtgehldadfaonbaaDoor
