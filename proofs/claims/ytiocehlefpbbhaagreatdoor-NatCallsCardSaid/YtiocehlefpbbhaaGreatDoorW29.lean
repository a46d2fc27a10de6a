/-
  The contracts of leading and its closure.
-/
import Derived.Test.YtiocehlefpbbhaaGreatDoorW28
import Derived.Test.YtiocehlefpbbhaaGreatDoorM9
import Derived.Deep.QuietTactic
import Derived.BigQuiet
namespace Go.Proofs.YtiocehlefpbbhaaGreatDoor
open Go.RowKit NV

theorem at_quiet {w : World} {v : Value} {n : Nat} (h : Num w v n) (k : Nat) (hk : k < 4611686018427387904) (i : Int) (hi : i = (k : Int)) (m : Nat) :
    Calls Tryz.prog 52 #[v, .int .i64 i] (w.drewN m) fun e w'' => e = .returned (.int .u64 ((dg n k : Nat) : Int)) ∧ ∃ q, w'' = w.drewN q := by
  subst hi
  exact (at_any (h.below (below_drewN (Below.refl _ _) m)) k hk).mono (by rintro e w' ⟨rfl, rfl⟩; exact ⟨rfl, m, rfl⟩)

set_option maxHeartbeats 1600000 in
set_option maxRecDepth 100000 in
/-- The closure: the first digits of one of the two. -/
theorem part_any {w : World} {z : Value} {a n sh rs bn bs br : Nat} (hz : Num w z a) (hn : 3 ≤ n) (hn2 : n ≤ 1000000) (hs : 0 < sh) (hr : 0 < rs) (hsr : sh * rs = 1000000000) (ha : a < B ^ n) (hlt : a / (B ^ (n - 3) * rs) < 1000000000000000000)
    (cn : w.cell? ⟨bn, 0, none⟩ = some (.int .i64 (n : Int))) (cs : w.cell? ⟨bs, 0, none⟩ = some (.int .u64 (sh : Int))) (cr : w.cell? ⟨br, 0, none⟩ = some (.int .u64 (rs : Int))) :
    Calls Tryz.prog 89 #[z, .pointer (some ⟨bn, 0, none⟩), .pointer (some ⟨bs, 0, none⟩), .pointer (some ⟨br, 0, none⟩)] w fun e w' => e = .returned (.int .i64 ((a / (B ^ (n - 3) * rs) : Nat) : Int)) ∧ ∃ q, w' = w.drewN q := by
  have hp := lead_parts (lead_div hn ha hsr hr) hlt
  obtain ⟨p1, p2, p3, p4, p5⟩ := hp
  obtain ⟨V, hV⟩ : ∃ V, V = a / (B ^ (n - 3) * rs) := ⟨_, rfl⟩
  rw [← hV] at p5 hlt ⊢
  have hz1 := dg_lt a (n - 1)
  have hz2 := dg_lt a (n - 2)
  have hz3 := dg_lt a (n - 3)
  have HZ := Lib.hid hz
  have H5 := Lib.hid p5
  have hrs : (0 : Int) < (rs : Int) := by omega
  have hsh : (0 : Int) < (sh : Int) := by omega
  have hsb : (sh : Int) ≤ 1000000000 := by
    have : sh * 1 ≤ sh * rs := Nat.mul_le_mul_left _ hr
    omega
  obtain ⟨za, zc, rfl⟩ := slice_any hz
  clear hz hV p5 hsr ha
  go_enter Tryz.func89, Tryz.ntmps89
  go_wp2_with fail
  go_quiet (first
    | exact at_quiet HZ.out (n - 1) (by omega) _ (by omega) _
    | exact at_quiet HZ.out (n - 2) (by omega) _ (by omega) _
    | exact at_quiet HZ.out (n - 3) (by omega) _ (by omega) _)
  go_wp2_with fail
  go_ret
  exact ⟨ret_int H5.out, nq, rfl⟩

/-- Block b is a variable that holds v. -/
def Cl (w : World) (b : Nat) (t : TypeId) (v : Value) : Prop := w.heap[b]? = some (.cells #[v] t (0, 0))

theorem Cl.cell {w : World} {b : Nat} {t : TypeId} {v : Value} (h : Cl w b t v) : w.cell? ⟨b, 0, none⟩ = some v := by rw [Lib.cell_of_heap h]; rfl
theorem Cl.free {w : World} {b : Nat} {t : TypeId} {v : Value} (h : Cl w b t v) : w.frozen? ⟨b, 0, none⟩ = false := Lib.frozen_of_heap h 0
theorem Cl.lt {w : World} {b : Nat} {t : TypeId} {v : Value} (h : Cl w b t v) : b < w.heap.size := (Array.getElem?_eq_some_iff.1 h).1
theorem Cl.below {w w' : World} {b B : Nat} {t : TypeId} {v : Value} (h : Cl w b t v) (hb : Below B w w') (hB : b < B) : Cl w' b t v := (hb.block b hB).trans h
theorem Cl.store {w : World} {b : Nat} {t : TypeId} {v : Value} (h : Cl w b t v) (u : Value) : Cl (w.setCell ⟨b, 0, none⟩ u) b t u := heap_setCell_same w b 0 _ _ u h
theorem Cl.other {w : World} {b : Nat} {t : TypeId} {v : Value} (h : Cl w b t v) {a : Addr} (ha : b ≠ a.block) (u : Value) : Cl (w.setCell a u) b t v := (heap_setCell_other w a b u ha).trans h

/-- The number that a variable holds: for a loop's measure. -/
def cellInt (w : World) (b : Nat) : Int := intOf ((w.cell? ⟨b, 0, none⟩).getD .nilIface)
theorem Cl.int {w : World} {b : Nat} {t : TypeId} {k : IntKind} {n : Int} (h : Cl w b t (.int k n)) : cellInt w b = n := by
  rw [cellInt, h.cell]; rfl

set_option maxHeartbeats 1600000 in
set_option maxRecDepth 100000 in
/-- leading: the first digits of both, at the same places. -/
theorem leading_any {w : World} {x y : Value} {a b : Nat} (hx : Num w x a) (hy : Num w y b) (hba : b ≤ a) (ha : 3 ≤ ln a) (ha2 : ln a ≤ 1000000) :
    Calls Tryz.prog 71 #[x, y] w fun e w' => ∃ S a0 b0 : Nat, e = .returned (.tuple #[.int .i64 (a0 : Int), .int .i64 (b0 : Int)]) ∧ 0 < S ∧ a0 = a / S ∧ b0 = b / S ∧ a0 < 1000000000000000000 ∧ Below w.heap.size w w' := by
  have hmf : ∀ (fn : Fn) (first cap : Array Value) (w : World), (Instr.makeFunc fn first cap).run Tryz.prog w = .ok (.func fn first cap) w := fun _ _ _ _ => rfl
  obtain ⟨n, hn⟩ : ∃ n, n = ln a := ⟨_, rfl⟩
  obtain ⟨xb, xc, rfl, hxb, _⟩ := slice_form hx (by omega)
  obtain ⟨ya, yc, rfl⟩ := slice_any hy
  have hmn : ∃ m, ln a = m + 1 := ⟨ln a - 1, by omega⟩
  have htop : 1 ≤ dg a (n - 1) := by
    obtain ⟨m, hm⟩ := hmn
    have := dg_top hm
    rw [hn, hm]
    show 1 ≤ dg a m
    omega
  have htl := dg_lt a (n - 1)
  have hapow : a < B ^ n := by rw [hn]; exact lt_pow_ln a
  have hbpow : b < B ^ n := Nat.lt_of_le_of_lt hba hapow
  have hxn : n ≤ ln a := by omega
  have hn3 : 3 ≤ n := by omega
  have hn6 : n ≤ 1000000 := by omega
  have HX := Lib.hid hx
  have HY := Lib.hid hy
  have HAP := Lib.hid hapow
  have HBP := Lib.hid hbpow
  have HBA := Lib.hid hba
  have hn1 : (n : Int) - 1 = ((n - 1 : Nat) : Int) := by omega
  have hidx : ((n - 1 : Nat) : Int) < (n : Int) := by omega
  have HN := Lib.hid hn
  rw [← hn]
  clear hx hy hn hmn hapow hbpow hba ha ha2
  go_enter Tryz.func71, Tryz.ntmps71
  go_wp2_with fail
  have hw : Below w.heap.size w (((w.alloc (Obj.cells #[Value.int IntKind.i64 (n : Int)] 3)).alloc (Obj.cells #[Value.int IntKind.u64 1] 65)).alloc (Obj.cells #[Value.int IntKind.u64 1000000000] 65)) := (((Below.refl _ _).alloc (Nat.le_refl _) _).alloc (by simp) _).alloc (by simp; omega) _
  have k3 : Cl (((w.alloc (Obj.cells #[Value.int IntKind.i64 (n : Int)] 3)).alloc (Obj.cells #[Value.int IntKind.u64 1] 65)).alloc (Obj.cells #[Value.int IntKind.u64 1000000000] 65)) (w.heap.size + 1 + 1) 65 (.int .u64 1000000000) := by
    have := heap_alloc_new ((w.alloc (Obj.cells #[Value.int IntKind.i64 (n : Int)] 3)).alloc (Obj.cells #[Value.int IntKind.u64 1] 65)) (Obj.cells #[Value.int IntKind.u64 1000000000] 65)
    simpa [Cl] using this
  have k2 : Cl (((w.alloc (Obj.cells #[Value.int IntKind.i64 (n : Int)] 3)).alloc (Obj.cells #[Value.int IntKind.u64 1] 65)).alloc (Obj.cells #[Value.int IntKind.u64 1000000000] 65)) (w.heap.size + 1) 65 (.int .u64 1) := by
    have := heap_alloc_new (w.alloc (Obj.cells #[Value.int IntKind.i64 (n : Int)] 3)) (Obj.cells #[Value.int IntKind.u64 1] 65)
    refine (Lib.alloc_old _ _ _ (by simp)).trans ?_
    simpa using this
  have k1 : Cl (((w.alloc (Obj.cells #[Value.int IntKind.i64 (n : Int)] 3)).alloc (Obj.cells #[Value.int IntKind.u64 1] 65)).alloc (Obj.cells #[Value.int IntKind.u64 1000000000] 65)) w.heap.size 3 (.int .i64 (n : Int)) := by
    refine (Lib.alloc_old _ _ _ (by simp; omega)).trans ((Lib.alloc_old _ _ _ (by simp)).trans ?_)
    exact heap_alloc_new w _
  obtain ⟨bs, hbs⟩ : ∃ bs, bs = w.heap.size + 1 := ⟨_, rfl⟩
  rw [← hbs] at k2 k3 ⊢
  generalize ((w.alloc (Obj.cells #[Value.int IntKind.i64 (n : Int)] 3)).alloc (Obj.cells #[Value.int IntKind.u64 1] 65)).alloc (Obj.cells #[Value.int IntKind.u64 1000000000] 65) = w1 at hw k1 k2 k3 ⊢
  have hbn : w.heap.size < bs := by omega
  have ne1 : bs + 1 ≠ bs := by omega
  have ne2 : w.heap.size ≠ bs := by omega
  have ne3 : w.heap.size ≠ bs + 1 := by omega
  have HST := Lib.hid (And.intro k1 (And.intro k2 (And.intro k3 hw)))
  clear hbs k1 k2 k3 hw
  go_loopw [] (fun wr => ∃ sh rs : Nat, Cl wr w.heap.size 3 (.int .i64 (n : Int)) ∧ Cl wr bs 65 (.int .u64 (sh : Int)) ∧ Cl wr (bs + 1) 65 (.int .u64 (rs : Int)) ∧ Hid (sh * rs = 1000000000 ∧ (∃ k, k ≤ 8 ∧ sh = 10 ^ k ∧ rs = 10 ^ (9 - k)) ∧ dg a (n - 1) * sh < 1000000000) ∧ Below w.heap.size w wr) (fun wr => 1000000000 - (cellInt wr bs).toNat)
  case atStart => exact ⟨1, 1000000000, HST.out.1, HST.out.2.1, HST.out.2.2.1, Lib.hid ⟨by omega, ⟨0, by omega, by simp, by simp⟩, by omega⟩, HST.out.2.2.2⟩
  case round =>
    obtain ⟨sh, rs, k1, k2, k3, hh, hbr⟩ := hrel
    clear HST
    obtain ⟨h1, h2, h3⟩ := hh.out
    have hs0 : 0 < sh := by obtain ⟨k, _, e, _⟩ := h2; rw [e]; exact Nat.pow_pos (by omega)
    have hr0 : 0 < rs := by obtain ⟨k, _, _, e⟩ := h2; rw [e]; exact Nat.pow_pos (by omega)
    have hsm : sh * 1 ≤ sh * rs := Nat.mul_le_mul_left _ hr0
    have hrm : 1 * rs ≤ sh * rs := Nat.mul_le_mul_right _ hs0
    have hsb : (sh : Int) ≤ 1000000000 := by omega
    have hrb : (rs : Int) ≤ 1000000000 := by omega
    have hs0' : (0 : Int) < (sh : Int) := by omega
    have hr0' : (0 : Int) < (rs : Int) := by omega
    have hpe : ((dg a (n - 1) : Nat) : Int) * (sh : Int) = ((dg a (n - 1) * sh : Nat) : Int) := by simp
    have hpl : ((dg a (n - 1) : Nat) : Int) * (sh : Int) < 1000000000 := by rw [hpe]; omega
    have hp0 : 0 ≤ ((dg a (n - 1) : Nat) : Int) * (sh : Int) := by rw [hpe]; omega
    have c0 := (HX.out.below hbr).cell (j := n - 1) (by omega)
    have c1 := k1.cell
    have c2 := k2.cell
    have c3 := k3.cell
    have hq := fun q => below_drewN (Below.refl wr.heap.size wr) q
    have HQ := Lib.hid hq
    clear hq
    by_cases hc : dg a (n - 1) * sh < 100000000
    · have hst := lead_step htop h1 h2 hc
      have hpc : ((dg a (n - 1) : Nat) : Int) * (sh : Int) < 100000000 := by rw [hpe]; omega
      have hsh8 : (sh : Int) < 100000000 := by have := hst.2.2.2; omega
      have HS := Lib.hid hst
      have K1 := Lib.hid k1
      have K2 := Lib.hid k2
      have K3 := Lib.hid k3
      have HBR := Lib.hid hbr
      have HM := Lib.hid k2.int
      clear hst h1 h2 h3 hh hpe hc hsm hrm k1 k2 k3 hbr
      go_wp2_with fail
      go_quiet (fail)
      have k1 := K1.out.below (HQ.out nq) K1.out.lt
      have k2 := K2.out.below (HQ.out nq) K2.out.lt
      have k3 := K3.out.below (HQ.out nq) K3.out.lt
      have hbr := below_drewN HBR.out nq
      clear c0 c1 c2 c3 K1 K2 K3 HBR HQ
      generalize wr.drewN nq = w2 at k1 k2 k3 hbr ⊢
      have c2 := k2.cell
      have f2 := k2.free
      have s1 := k1.other (a := ⟨bs, 0, none⟩) ne2 (.int .u64 ((sh : Int) * 10))
      have s2 := k2.store (.int .u64 ((sh : Int) * 10))
      have s3 := k3.other (a := ⟨bs, 0, none⟩) ne1 (.int .u64 ((sh : Int) * 10))
      have hb2 := hbr.setCell (p := ⟨bs, 0, none⟩) (show w.heap.size ≤ bs by omega) (.int .u64 ((sh : Int) * 10))
      have c3 := s3.cell
      have f3 := s3.free
      have t1 := s1.other (a := ⟨bs + 1, 0, none⟩) ne3 (.int .u64 ((rs : Int) / 10))
      have t2 := s2.other (a := ⟨bs + 1, 0, none⟩) ne1.symm (.int .u64 ((rs : Int) / 10))
      have t3 := s3.store (.int .u64 ((rs : Int) / 10))
      have hb3 := hb2.setCell (p := ⟨bs + 1, 0, none⟩) (show w.heap.size ≤ bs + 1 by omega) (.int .u64 ((rs : Int) / 10))
      have T := Lib.hid (And.intro t1 (And.intro t2 (And.intro t3 hb3)))
      clear k1 k2 k3 s1 s2 s3 t1 t2 t3 hb2 hb3 hbr
      go_wp2_with fail
      go_roundw
      case rel => exact ⟨sh * 10, rs / 10, T.out.1, by have := T.out.2.1; rwa [show ((sh * 10 : Nat) : Int) = (sh : Int) * 10 by simp], by have := T.out.2.2.1; rwa [show ((rs / 10 : Nat) : Int) = (rs : Int) / 10 by simp], Lib.hid ⟨HS.out.1, HS.out.2.1, HS.out.2.2.1⟩, T.out.2.2.2⟩
      case measure =>
        rw [HM.out, T.out.2.1.int]
        omega
    · have hpc0 : 100000000 ≤ dg a (n - 1) * sh := by omega
      have hal := lead_lt hn3 HAP.out h1 hr0 h3
      have hbl : b / (B ^ (n - 3) * rs) < 1000000000000000000 := Nat.lt_of_le_of_lt (Nat.div_le_div_right HBA.out) hal
      have HAL := Lib.hid hal
      have HH := Lib.hid (show 0 < B ^ (n - 3) * rs from Nat.mul_pos (pow_pos _) hr0)
      have hA : ∀ q, Calls Tryz.prog 89 #[.slice (some ⟨xb, 0, none⟩) n xc, .pointer (some ⟨w.heap.size, 0, none⟩), .pointer (some ⟨bs, 0, none⟩), .pointer (some ⟨bs + 1, 0, none⟩)] (wr.drewN q) fun e w' => e = .returned (.int .i64 ((a / (B ^ (n - 3) * rs) : Nat) : Int)) ∧ ∃ q', w' = (wr.drewN q).drewN q' := fun q =>
        part_any (n := n) (by have := HX.out.below (hbr.trans (below_drewN (Below.refl _ _) q)); rwa [← HN.out] at this) hn3 hn6 hs0 hr0 h1 HAP.out hal (k1.below (HQ.out q) k1.lt).cell (k2.below (HQ.out q) k2.lt).cell (k3.below (HQ.out q) k3.lt).cell
      have hB : ∀ q, Calls Tryz.prog 89 #[.slice ya (ln b) yc, .pointer (some ⟨w.heap.size, 0, none⟩), .pointer (some ⟨bs, 0, none⟩), .pointer (some ⟨bs + 1, 0, none⟩)] (wr.drewN q) fun e w' => e = .returned (.int .i64 ((b / (B ^ (n - 3) * rs) : Nat) : Int)) ∧ ∃ q', w' = (wr.drewN q).drewN q' := fun q =>
        part_any (n := n) (HY.out.below (hbr.trans (below_drewN (Below.refl _ _) q))) hn3 hn6 hs0 hr0 h1 HBP.out hbl (k1.below (HQ.out q) k1.lt).cell (k2.below (HQ.out q) k2.lt).cell (k3.below (HQ.out q) k3.lt).cell
      have HA := Lib.hid hA
      have HB := Lib.hid hB
      have HBR := Lib.hid hbr
      have hpc : 100000000 ≤ ((dg a (n - 1) : Nat) : Int) * (sh : Int) := by rw [hpe]; omega
      have hpb : decide (((dg a (n - 1) : Nat) : Int) * (sh : Int) < 100000000) = false := decide_eq_false (by omega)
      clear hA hB hal hbl h1 h2 h3 hh hpe hc hsm hrm k1 k2 k3 hbr hpc0 hpc
      go_wp2_with fail
      go_quiet (fail)
      go_wp2_with fail
      refine (HA.out nq).mono ?_
      rintro e w2 ⟨rfl, q2, rfl⟩
      go_wp2_with fail
      refine (HB.out (nq + q2)).mono ?_
      rintro e w3 ⟨rfl, q3, rfl⟩
      go_wp2_with fail
      go_ret2
      exact ⟨_, _, _, rfl, HH.out, rfl, rfl, HAL.out, below_drewN HBR.out _⟩

end Go.Proofs.YtiocehlefpbbhaaGreatDoor
