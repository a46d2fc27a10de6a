/-
  What the cards of layer 11 need: the variables that the statements list, a start that meets them, and what they give the walks.
-/
import Derived.Test.YtgehldadfaonbaaDoorSB
import Derived.Test.YtgehldadfaonbaaDoorTie
import Derived.Test.YtgehldadfaonbaaDoorCards
import Derived.ProofKit
import Derived.LaidMore
import Derived.LaidLaws
import Derived.MakeChecks
import Derived.Lib.LaidTab
import Derived.OpenShut
import Derived.SizedLaws
import Derived.HandedShaped
import Derived.Stop.LaidErr
import Derived.Stop.Joined
import Derived.SevenTiedAt
namespace Go.Proofs.YtgehldadfaonbaaDoor
open Go Go.ChangeMaps Go.ChangeShapes Go.WideShapes Go.ChangeAt Go.RowKit

theorem own : ownKnob Tryd.prog.godebug = none := by kernel_rfl
/-- The variables that the statements list. -/
abbrev laid4 : List (String × DataW Unit) := [("math/bits.deBruijn32tab", Rows.laid_math_bits_deBruijn32tab), ("math/bits.deBruijn64tab", Rows.laid_math_bits_deBruijn64tab), ("internal/strconv.uint64pow10", Rows.laid_internal_strconv_uint64pow10), ("privhouse/schema.reserved", Rows.laid_privhouse_schema_reserved)]
abbrev laid6 : List (String × DataW Unit) := [("math/bits.deBruijn32tab", Rows.laid_math_bits_deBruijn32tab), ("math/bits.deBruijn64tab", Rows.laid_math_bits_deBruijn64tab), ("internal/strconv.uint64pow10", Rows.laid_internal_strconv_uint64pow10), ("strconv.ErrRange", Rows.laid_strconv_ErrRange), ("strconv.ErrSyntax", Rows.laid_strconv_ErrSyntax), ("privhouse/schema.reserved", Rows.laid_privhouse_schema_reserved)]
theorem door_met4 (os : Os) (args : Array Value) : laidMetH Tryd.prog laid4 ((World.doorLaid Tryd.prog 4000 os).forCall (fun _ _ => 0) ⟨#[], args, []⟩).memory :=
  laidMetH_of_parts3 (fuel := 8) (laidMet_of_run' 8 (by kernel_rfl) (by kernel_rfl)) (by kernel_rfl) (by kernel_rfl)
theorem door_met6 (os : Os) (args : Array Value) : laidMetH Tryd.prog laid6 ((World.doorLaid Tryd.prog 4000 os).forCall (fun _ _ => 0) ⟨#[], args, []⟩).memory :=
  laidMetH_of_parts3 (fuel := 8) (laidMet_of_run' 8 (by kernel_rfl) (by kernel_rfl)) (by kernel_rfl) (by kernel_rfl)

theorem gRes : Tryd.prog.globalNamed "privhouse/schema.reserved" = some 0 := by kernel_rfl
theorem tRes : (Tryd.prog.globals[0]?).map (·.type) = some 72 := by kernel_rfl
theorem cellsStrY : Tryd.prog.cellsOf 9 = 1 := by kernel_rfl
theorem cellsResY : Tryd.prog.cellsOf 72 = 35 := by kernel_rfl
theorem laidRes : (Rows.laid_privhouse_schema_reserved : DataW Unit) = .agg (resL.map fun l => .lit (.string l)) := rfl

/-- The cells of an array of texts, by what it reads as. -/
theorem cells_res {H : Type} {enc : TypeId × Value → H} {w : World} {base : Nat} {sp : Nat → Bool} {held : Bool} {fuel : Nat} {cs : List Value} {p : List MemPlace}
    (h : DataW.trod enc Tryd.prog w base sp held fuel 72 cs = some (.agg (resL.map fun l => .lit (.string l)), p)) : cs = resL.map fun l => .string ⟨l.toArray⟩ := by
  obtain ⟨xs, m, _, hx, hlen, hxs, hi⟩ := DataW.trod_array Tryd.underlying72 h
  rw [cellsResY] at hlen
  simp only [Prod.mk.injEq, DataW.agg.injEq] at hx
  have hx1 := hx.1
  apply List.ext_getElem?
  intro i
  by_cases hlt : i < 35
  · have h1 := hi i hlt
    rw [cellsStrY, Nat.mul_one] at h1
    have hxi : xs[i]? = some (xs[i]'(by omega)) := List.getElem?_eq_getElem _
    rw [hxi] at h1
    obtain ⟨s, e1, e2, _⟩ := DataW.trod_string Tryd.underlying9 h1
    have e3 : cs[i]? = some (.string s) := by
      have := congrArg (·[0]?) e1
      simpa [List.getElem?_take, List.getElem?_drop] using this
    have e4 := congrArg (·[i]?) hx1
    simp only [List.getElem?_map, hxi, Option.map_some] at e4
    rw [e2, List.getElem?_eq_getElem (show i < resL.length from hlt)] at e4
    simp only [Option.map_some, Option.some.injEq, DataW.lit.injEq, Lit.string.injEq] at e4
    rw [e3, List.getElem?_map, List.getElem?_eq_getElem (show i < resL.length from hlt)]
    simp only [Option.map_some, Option.some.injEq, Value.string.injEq]
    rw [e4]
  · rw [List.getElem?_eq_none (by omega), List.getElem?_eq_none (by rw [List.length_map]; exact Nat.not_lt.1 hlt)]

theorem res_of_head {W : World} {rest : List (String × DataW Unit)} (h : laidMet Tryd.prog (("privhouse/schema.reserved", Rows.laid_privhouse_schema_reserved) :: rest) W) : Res W := by
  obtain ⟨ps, ⟨g', t', cs, fuel, p, q, hg', ht', hvar, hd, _, _⟩, _⟩ := h
  obtain rfl := Option.some.inj (gRes.symm.trans hg')
  obtain rfl := Option.some.inj (tRes.symm.trans ht')
  rw [laidRes] at hd
  have hc := cells_res hd
  unfold World.var? at hvar
  rw [gRes] at hvar
  simp only [Option.bind_some] at hvar
  cases hh : W.heap[0]? with
  | none => rw [hh] at hvar; cases hvar
  | some o =>
    rw [hh] at hvar
    cases o with
    | cells cs' t fr =>
      simp only [Option.some.injEq] at hvar
      refine ⟨t, fr, ?_⟩
      rw [hh]
      have : cs' = resV := by
        rw [hvar]
        unfold resV
        rw [← hc]
      rw [this]
    | _ => cases hvar
theorem res_of4 {W : World} (h : laidMetH Tryd.prog laid4 W) : Res W := by
  rw [MakeChecks.laidMetH_plain _ _ _ (by kernel_rfl)] at h
  exact res_of_head h.tail.tail.tail
theorem res_of6 {W : World} (h : laidMetH Tryd.prog laid6 W) : Res W := by
  rw [MakeChecks.laidMetH_plain _ _ _ (by kernel_rfl)] at h
  exact res_of_head h.tail.tail.tail.tail.tail

theorem small_of {s : ByteArray} (h : s.data.toList.length ≤ reachBytes) : s.size ≤ 140737488351232 := by
  rw [Go.Lib.size_eq]; exact h
theorem int_range {n : Int} (h : (Lit.int .i64 n).wf = true) : -9223372036854775808 ≤ n ∧ n ≤ 9223372036854775807 := by
  simpa [Lit.wf, IntKind.min, IntKind.max, IntKind.signed, IntKind.bits] using h
theorem lr_laid : laidOutB Tryd.prog = true := by kernel_rfl

set_option maxRecDepth 100000 in
/-- The wrap of these cards: the listed variables and the world's shape are both handed to the walk. -/
theorem handed_all {laid : List (String × DataW Unit)} {H : Type} {enc : TypeId × Value → H} {os : Os} {f : FuncId} {fn : Func} {s : ChangeSpec} (started : os.Started) (noInit : Tryd.prog.inits.idxOf? f = none) (hfn : Tryd.prog.funcs[f]? = some fn)
    (wit : ∃ (w : World) (tape : Tape) (i : Input), w.os = os ∧ (w.forCall tape i).Shaped Tryd.prog ∧ i.vars = [] ∧ Input.okWide Tryd.prog (w.forCall tape i) .any w.heap.size f i ∧
      ((s.pre enc Tryd.prog fn [] false (w.forCall tape i).memory i.args ∧ laidMetH Tryd.prog laid (w.forCall tape i).memory) ∧ sizedMet enc Tryd.prog fn (OpenSpec.ofChange s) false (w.forCall tape i).memory i.args) ∧ ({} : Assume).holds Tryd.prog (lone (Frame.enter Tryd.prog f i.args .normal) [] (w.forCall tape i)))
    (walk : ∀ (W : World) (base : Nat) (args : Array Value) (ds gs : List (DataW H)) (before : List MemPlace),
      (∀ (j : Nat) t v, fn.params[j]? = some t → args[j]? = some v → Value.okWide Tryd.prog W .any base t v) →
      DataW.Whole enc Tryd.prog fn.params.toList s.vars false W args.toList ds gs before →
      (DataW.weightsEach Tryd.prog (fn.params.toList ++ s.plain.varTypes Tryd.prog) (ds ++ gs)).all (· ≤ reachBytes) = true → laidMetH Tryd.prog laid W → W.ShapedOpen Tryd.prog →
      Calls Tryd.prog f args W fun e W' => ∃ v, e = .returned v ∧ s.post enc Tryd.prog fn false true false false W args v W') :
    ReturnsInHanded {} Tryd.checked os f .any (fun w args => (s.pre enc Tryd.prog fn [] false w args ∧ laidMetH Tryd.prog laid w) ∧ sizedMet enc Tryd.prog fn (OpenSpec.ofChange s) false w args) (s.post enc Tryd.prog fn false true false false) :=
  returnsInHanded_of_calls own started noInit wit fun w tape i _ shape _ ok pre _ => by
    obtain ⟨_, _, _, g, hg, _, _, _, _, vals⟩ := ok
    obtain rfl : g = fn := Option.some.inj (hg.symm.trans hfn)
    obtain ⟨⟨⟨ds, gs, before, whole, _⟩, met⟩, sized⟩ := pre
    refine Calls.mono (walk (w.forCall tape i) w.heap.size i.args ds gs before vals (whole.of_heap (by rfl)) (sized.weights whole) (met.of_heap (by rfl)) shape) ?_
    rintro e W' ⟨v, rfl, post⟩
    exact ChangeSpec.post_blind post

end Go.Proofs.YtgehldadfaonbaaDoor
