/-
  A strings.Builder that the call has made: what Grow, Write and String do to it, and which blocks they leave alone.
-/
import Derived.Test.YtiocehlefpbbhaaGreatDoorW7
import Derived.Test.YtiocehlefpbbhaaGreatDoorShelf
import Derived.RegionTactic
import Derived.Deep.RegionWith
namespace Go.Proofs.YtiocehlefpbbhaaGreatDoor
open Go.RowKit NV

/-- Below block R all blocks but b are as they were. -/
structure Kept (b R : Nat) (w w' : World) : Prop where
  os : w'.os = w.os
  tape : w'.tape = w.tape
  output : w'.output = w.output
  size : w.heap.size ≤ w'.heap.size
  block : ∀ k, k < R → k ≠ b → w'.heap[k]? = w.heap[k]?

theorem Kept.refl (b R : Nat) (w : World) : Kept b R w w := ⟨rfl, rfl, rfl, Nat.le_refl _, fun _ _ _ => rfl⟩
theorem Kept.trans {b R : Nat} {w w' w'' : World} (h : Kept b R w w') (k : Kept b R w' w'') : Kept b R w w'' :=
  ⟨k.os.trans h.os, k.tape.trans h.tape, k.output.trans h.output, Nat.le_trans h.size k.size, fun i h1 h2 => (k.block i h1 h2).trans (h.block i h1 h2)⟩
theorem Kept.drew {b R : Nat} {w w' : World} (h : Kept b R w w') : Kept b R w w'.drew := ⟨h.os, h.tape, h.output, h.size, h.block⟩
theorem Kept.drewN {b R : Nat} {w w' : World} (h : Kept b R w w') (n : Nat) : Kept b R w (w'.drewN n) := h.trans ⟨rfl, rfl, rfl, Nat.le_refl _, fun _ _ _ => rfl⟩
theorem Kept.alloc {b R : Nat} {w w' : World} (h : Kept b R w w') (hR : R ≤ w'.heap.size) (o : Obj) : Kept b R w (w'.alloc o) :=
  h.trans ⟨rfl, rfl, rfl, by simp, fun k hk _ => Lib.alloc_old _ _ _ (by omega)⟩
theorem Kept.setCell {b R : Nat} {w w' : World} (h : Kept b R w w') {p : Addr} (hp : p.block = b ∨ R ≤ p.block) (u : Value) : Kept b R w (w'.setCell p u) :=
  h.trans ⟨rfl, rfl, rfl, by simp [World.setCell], fun k hk hb => heap_setCell_other _ _ _ _ (by rcases hp with hp | hp <;> omega)⟩
theorem Kept.grown {b R : Nat} {w w1 w2 : World} {row : Option Nat} (h : Kept b R w w1) (hg : w1.grownBy w2 row) (hR : R ≤ w1.heap.size) (hr : ∀ k, row = some k → R ≤ k) : Kept b R w w2 :=
  h.trans ⟨hg.os, hg.tape, hg.output, hg.size, fun k hk hb => hg.block k (by omega) (fun e => by have := hr k e.symm; omega)⟩
theorem Kept.below {b R B : Nat} {w w' : World} (h : Kept b R w w') (hb : B ≤ b) (hR : B ≤ R) : Below B w w' :=
  ⟨h.os, h.tape, h.output, h.size, fun k hk => h.block k (by omega) (by omega)⟩
theorem Kept.cell {b R : Nat} {w w' : World} (h : Kept b R w w') {p : Addr} (h1 : p.block < R) (h2 : p.block ≠ b) : w'.cell? p = w.cell? p := World.cell?_of_block (w := w) (h.block p.block h1 h2)

/-- Block b is a builder in use that holds bs; its row lies from R on. -/
def Bd (w : World) (b R : Nat) (bs : List Value) : Prop :=
  ∃ v, w.heap[b]? = some (.cells #[.pointer (some ⟨b, 0, none⟩), v] 81 (0, 0)) ∧ w.ownsRow R 5 1 v bs.length bs

theorem bsize : (Tryz.prog.info? 81).map (·.size) = some 2 := by kernel_rfl
theorem blies : liesAt Tryz.prog Tryz.prog.depth 81 (2 / Tryz.prog.cellsOf 81) 0 81 1 = true := by kernel_rfl
theorem info5 : (Tryz.prog.info? 5).map (fun i => (i.zero, i.size, i.bytes)) = some (some (.int .u8 0), 1, 1) := by kernel_rfl

set_option maxHeartbeats 1000000 in
set_option maxRecDepth 100000 in
theorem copyCheck_used (b : Nat) (w : World) (h0 : w.cell? ⟨b, 0, none⟩ = some (.pointer (some ⟨b, 0, none⟩))) :
    Calls Tryz.prog 85 #[.pointer (some ⟨b, 0, none⟩)] w fun e w' => e = .returned (.tuple #[]) ∧ w = w' := by
  obtain ⟨j, hj, _⟩ := Option.map_eq_some_iff.1 bsize
  go_enter Tryz.func85, Tryz.ntmps85
  go_wp2
  rw [Lib.run_neq_ptr_same w _ Tryz.underlying78 hj]
  go_wp2
  go_end0
  exact ⟨rfl, rfl⟩

set_option maxHeartbeats 1000000 in
set_option maxRecDepth 100000 in
theorem copyCheck_fresh (b : Nat) (w : World) (h0 : w.cell? ⟨b, 0, none⟩ = some (.pointer none)) (hsh : w.shape? b = some (81, 2)) (hfz : w.frozen? ⟨b, 0, none⟩ = false) :
    Calls Tryz.prog 85 #[.pointer (some ⟨b, 0, none⟩)] w fun e w' => e = .returned (.tuple #[]) ∧ w.setCell ⟨b, 0, none⟩ (.pointer (some ⟨b, 0, none⟩)) = w' := by
  obtain ⟨j, hj, hjs⟩ := Option.map_eq_some_iff.1 bsize
  go_enter Tryz.func85, Tryz.ntmps85
  go_wp2
  rw [Lib.run_to_unsafe w ⟨b, 0, none⟩ Tryz.underlying78 Tryz.underlying111 hj (by rw [hjs]; decide) hsh (Nat.zero_lt_succ 1)]
  simp only [Result.andThen]
  rw [Oper.upon_value]
  go_wp2
  rw [run_callFunc_extern Tryz.func97 (by kernel_rfl) (by kernel_rfl) (by kernel_rfl) (e := Extern.AbiNoEscape.same) (by kernel_rfl)]
  rw [Lib.run_noEscape]
  simp only [Result.andThen]
  rw [Oper.upon_value]
  go_wp2
  rw [Lib.run_from_unsafe w ⟨b, 0, none⟩ Tryz.underlying111 Tryz.underlying78 hj hsh blies]
  simp only [Result.andThen]
  rw [Oper.upon_value]
  go_wp2
  go_end0
  exact ⟨rfl, rfl⟩

set_option maxHeartbeats 2000000 in
set_option maxRecDepth 100000 in
theorem grow_fresh (b R n : Nat) (w : World) (hbR : b < R) (hR : R ≤ w.heap.size) (hbk : w.heap[b]? = some (.cells #[.pointer (some ⟨b, 0, none⟩), .slice none 0 0] 81 (0, 0))) (hn : n ≤ 1000000000) :
    Calls Tryz.prog 86 #[.pointer (some ⟨b, 0, none⟩), .int .i64 n] w fun e w' => e = .returned (.tuple #[]) ∧ Bd w' b R [] ∧ Kept b R w w' := by
  obtain ⟨cs, hrun, hle, hmax⟩ := Lib.run_makeNoZero (P := Tryz.prog) w.drew #[3] 79 5 Tryz.underlying79 n (by omega)
  have hcall : (callFunc 98 #[.int .i64 (n : Int)]).run Tryz.prog w.drew = .ok (.value (.slice (some ⟨w.drew.heap.size, 0, none⟩) n cs.size)) (w.drew.drew.drew.alloc (.cells cs 5)) := by
    rw [run_callFunc_extern Tryz.func98 (by kernel_rfl) (by kernel_rfl) (by kernel_rfl) (e := Extern.BytealgMakeNoZero.makeNoZero #[3] #[79]) (by kernel_rfl), hrun]
    rfl
  have hlt : b < w.heap.size := by omega
  have c1 : w.drew.cell? ⟨b, 1, none⟩ = some (.slice none 0 0) := by
    have : w.drew.heap[b]? = _ := hbk
    rw [Lib.cell_of_heap this]; rfl
  have hal := (Lib.alloc_old w (.cells cs 5) b hlt).trans hbk
  have c2 : (w.alloc (.cells cs 5)).cell? ⟨b, 1, none⟩ = some (.slice none 0 0) := by
    rw [Lib.cell_of_heap hal]; rfl
  have f2 : (w.alloc (.cells cs 5)).frozen? ⟨b, 1, none⟩ = false := Lib.frozen_of_heap hal 1
  have hcopy : ∀ W : World, (Builtin.copy_ #[79, 79] 3 #[.slice (some ⟨w.heap.size, 0, none⟩) 0 cs.size, .slice none 0 0]).run Tryz.prog W = .ok (goInt 0) W :=
    fun W => run_copy_none W 79 79 3 5 _ _ 0 cs.size 0 0 Tryz.underlying79 (by kernel_rfl) rfl
  have hs1 := heap_setCell_same w b 1 _ _ (.slice (some ⟨w.heap.size, 0, none⟩) 0 cs.size) hbk
  have hz1 : (w.setCell ⟨b, 1, none⟩ (.slice (some ⟨w.heap.size, 0, none⟩) 0 cs.size)).heap.size = w.heap.size := by simp [World.setCell]
  have hfin : Bd (((w.setCell ⟨b, 1, none⟩ (.slice (some ⟨w.heap.size, 0, none⟩) 0 cs.size)).alloc (.cells cs 5)).drew.drew.drew) b R [] ∧ Kept b R w (((w.setCell ⟨b, 1, none⟩ (.slice (some ⟨w.heap.size, 0, none⟩) 0 cs.size)).alloc (.cells cs 5)).drew.drew.drew) := by
    refine ⟨⟨.slice (some ⟨w.heap.size, 0, none⟩) 0 cs.size, ?_, ?_⟩, ((((Kept.refl b R w).setCell (.inl rfl) _).alloc (by rw [hz1]; exact hR) _).drew.drew.drew)⟩
    · exact (Lib.alloc_old _ _ b (by rw [hz1]; exact hlt)).trans (hs1.trans rfl)
    · refine ⟨rfl, .inr ⟨w.heap.size, cs.size, cs, rfl, hR, ?_, Nat.zero_le _, hmax (by unfold maxLen; omega), by omega, by simp⟩⟩
      have := heap_alloc_new (w.setCell ⟨b, 1, none⟩ (.slice (some ⟨w.heap.size, 0, none⟩) 0 cs.size)) (.cells cs 5)
      rw [hz1] at this
      exact this
  have HF := Lib.hid hfin
  clear hrun hle hmax hbk hal hfin hs1 hz1
  go_enter Tryz.func86, Tryz.ntmps86
  go_wp2
  go_region
  all_goals (go_wp2; go_end0; exact ⟨rfl, HF.out⟩)

end Go.Proofs.YtiocehlefpbbhaaGreatDoor
