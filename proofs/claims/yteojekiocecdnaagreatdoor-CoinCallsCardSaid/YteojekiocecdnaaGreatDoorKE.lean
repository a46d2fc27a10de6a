/-
  What CoinCounts draws besides: share, Same of outcomes, the errors of Law and Late. Same of outcomes; the errors of count, Law and Late.
-/
import Derived.Test.YteojekiocecdnaaGreatDoorKD
import Derived.Test.YteojekiocecdnaaGreatDoorKB
import Derived.Test.YteojekiocecdnaaGreatDoorHE
import Derived.Test.YteojekiocecdnaaGreatDoorU20
namespace Go.Proofs.YteojekiocecdnaaGreatDoor
open Go.RowKit NV
open Go.Lib (decDigits)

theorem rMakeC {k n : Nat} (hn : n ≤ 256) (hk : k ≤ 2 ^ n) (w : World) :
    Calls Tryz.prog 92 #[.string (dstr k), .string (dstr (2 ^ n))] w fun e w' => e = .returned (.tuple #[.string (qstr (cQ k n)), .int .i64 0]) ∧ Below w.heap.size w w' := by
  have ok1 : Ok k := ok_two (n := n) (by omega) hk
  have ok2 : Ok (2 ^ n) := ok_two (n := n) (by omega) (Nat.le_refl _)
  have s1 : (dstr k).size ≤ 1000000 := by rw [dstr_size]; unfold Ok at ok1; omega
  have s2 : (dstr (2 ^ n)).size ≤ 1000000 := by rw [dstr_size]; unfold Ok at ok2; omega
  have h := rMake_q (s := istr false k) (t := dstr (2 ^ n)) w s1 s2 (chkI_istr ok1 (by simp)) (by rw [dstr_list, ok2.chk]) (by rw [dstr_list, dv_dec]; exact Nat.pos_iff_ne_zero.1 (Nat.pow_pos (by omega)))
  rw [istr_minus, istr_rest, dstr_list, dv_dec, dstr_list, dv_dec] at h
  exact rq_done (r := cQ k n) h rfl (cQ_ok hn hk)

theorem rInt_all {x : Int} (h0 : 0 ≤ x) (h1 : x ≤ 9223372036854775807) (w : World) :
    Calls Tryz.prog 47 #[.int .i64 x] w fun e w' => e = .returned (.string (dstr x.toNat)) ∧ Below w.heap.size w w' := by
  obtain ⟨k, rfl⟩ : ∃ k : Nat, x = (k : Int) := ⟨x.toNat, by omega⟩
  exact rInt_nat k (by omega) w

open Go.RowKit NV
open Go.Lib (decDigits)

theorem held_mass : Tryz.prog.stoodInHeld 38 = false := by kernel_rfl
theorem struct_mass : Tryz.prog.underlying 38 = some (.struct (Tryz.prog.fieldsOf 38)) := by kernel_rfl
def fieldsM : List (String × Nat × Nat) := [("Key", 9, 0), ("P", 22, 1)]
theorem fields_mass : (Tryz.prog.fieldsOf 38).toList.map (fun f => (f.name, f.type, f.offset)) = fieldsM := by kernel_rfl
theorem part_str (cs : Array Value) (off : Nat) (v : Value) (h : cs[off]? = some v) (W : World) : (part 9 cs off).run Tryz.prog W = .ok v W := by
  simp [part, isAgg, run_underlying Tryz.underlying9, h]
theorem part_num (cs : Array Value) (off : Nat) (v : Value) (h : cs[off]? = some v) (W : World) : (part 22 cs off).run Tryz.prog W = .ok v W := by
  simp [part, isAgg, run_underlying Tryz.underlying22, h]
theorem list_two {α : Type} {l : List α} (h : l.length = 2) : ∃ a b, l = [a, b] := by
  match l, h with
  | [a, b], _ => exact ⟨a, b, rfl⟩
theorem eqIn_mass (x y : ByteArray) (W : World) : (Op.equalIn 10000 38 (.agg #[.string x, .string y]) (.agg #[.string x, .string y])).run Tryz.prog W = .ok true W := by
  rw [run_equalIn_agg W 9999 _ _ _ struct_mass held_mass]
  have hf := fields_mass
  generalize (Tryz.prog.fieldsOf 38).toList = l at hf ⊢
  unfold fieldsM at hf
  obtain ⟨f0, f1, rfl⟩ := list_two (show l.length = 2 by have := congrArg List.length hf; simpa using this)
  simp only [List.map_cons, List.map_nil, List.cons.injEq, Prod.mk.injEq, and_true] at hf
  obtain ⟨⟨n0, t0, o0⟩, ⟨n1, t1, o1⟩⟩ := hf
  simp only [Op.eqFields, n0, t0, o0, n1, t1, o1]
  simp [Sem.run_bind, part_str #[.string x, .string y] 0 (.string x) rfl, part_num #[.string x, .string y] 1 (.string y) rfl,
    run_equalIn_string _ _ _ _ _ Tryz.underlying9, run_equalIn_string _ _ _ _ _ Tryz.underlying22]
theorem neq_mass (x y : ByteArray) (W : World) : (binOp .neq 38 (.agg #[.string x, .string y]) (.agg #[.string x, .string y])).run Tryz.prog W = .ok (.bool false) W := by
  rw [run_neq_struct, eqIn_mass]; rfl

theorem mass_form {w : World} {base N : Nat} {v : Value} {xs : List Value} (h : w.ownsRow base 38 2 v N xs) (h0 : N ≠ 0) : ∃ g cap, v = .slice (some ⟨g, 0, none⟩) N cap ∧ g < w.heap.size := by
  rcases h.2 with ⟨_, h1⟩ | ⟨g, cap, cur, h1, hb, hg, _⟩
  · exact absurd h1 h0
  · exact ⟨g, cap, h1, (Array.getElem?_eq_some_iff.1 hg).1⟩
theorem mass_cells {w : World} {base cap g N : Nat} {L : List (ByteArray × ByteArray)} (h : w.ownsRow base 38 2 (.slice (some ⟨g, 0, none⟩) N cap) N (cellsM L)) {k : Nat} {x y : ByteArray} (hk : L[k]? = some (x, y)) :
    w.cell? ⟨g, k * 2, none⟩ = some (.string x) ∧ w.cell? ⟨g, k * 2 + 1, none⟩ = some (.string y) := by
  obtain ⟨h1, h2⟩ := cellsM_get L k (x, y) hk
  have a := h.cells (g := g) rfl (k * 2) _ h1
  have b := h.cells (g := g) rfl (k * 2 + 1) _ h2
  rw [Addr.add_lit, Nat.zero_add] at a b
  exact ⟨a, b⟩

set_option maxHeartbeats 3200000 in
set_option maxRecDepth 100000 in
theorem Same_mass {w : World} {b1 b2 : Nat} {v1 v2 : Value} {L : List (ByteArray × ByteArray)} (h1 : w.ownsRow b1 38 2 v1 L.length (cellsM L)) (h2 : w.ownsRow b2 38 2 v2 L.length (cellsM L)) (hN : L.length ≤ 1000) :
    Calls Tryz.prog 17 #[v1, v2] w fun e w' => e = .returned (.bool true) ∧ Below w.heap.size w w' := by
  obtain ⟨N, hL⟩ : ∃ N, L.length = N := ⟨_, rfl⟩
  rw [hL] at h1 h2 hN
  have hf1 : ∃ a m c, v1 = .slice a N c ∧ m = N := by
    rcases h1.2 with ⟨hv, h0⟩ | ⟨g, cap, cur, hv, _⟩
    · exact ⟨_, _, _, by rw [hv, h0], rfl⟩
    · exact ⟨_, _, _, hv, rfl⟩
  have hf2 : ∃ a m c, v2 = .slice a N c ∧ m = N := by
    rcases h2.2 with ⟨hv, h0⟩ | ⟨g, cap, cur, hv, _⟩
    · exact ⟨_, _, _, by rw [hv, h0], rfl⟩
    · exact ⟨_, _, _, hv, rfl⟩
  obtain ⟨a1, m1, k1, rfl, _⟩ := hf1
  obtain ⟨a2, m2, k2, rfl, _⟩ := hf2
  have HL := Lib.hid hL
  have H1 := Lib.hid h1
  have H2 := Lib.hid h2
  clear h1 h2 hL
  go_enter Tryz.func17, Tryz.ntmps17
  go_wp2_with fail
  go_loopw [5] (fun i wr => ∃ k : Nat, k ≤ N ∧ i = .int .i64 (k : Int) ∧ Below w.heap.size w wr) (fun i _ => N - (intOf i).toNat)
  case atStart => exact ⟨0, Nat.zero_le _, rfl, Below.refl _ _⟩
  case round =>
    obtain ⟨k, hk, rfl, hbr⟩ := hrel
    by_cases hlt : k < N
    · obtain ⟨m, hm⟩ : ∃ m, L[k]? = some m := ⟨L[k]'(by rw [HL.out]; exact hlt), List.getElem?_eq_getElem _⟩
      obtain ⟨x, y⟩ := m
      have r1 := row_below2 H1.out hbr
      have r2 := row_below2 H2.out hbr
      obtain ⟨g, cap, hg, _⟩ := mass_form r1 (by omega)
      obtain ⟨g', cap', hg', _⟩ := mass_form r2 (by omega)
      simp only [Value.slice.injEq, true_and] at hg hg'
      obtain ⟨rfl, rfl⟩ := hg
      obtain ⟨rfl, rfl⟩ := hg'
      obtain ⟨c0, c1⟩ := mass_cells r1 hm
      obtain ⟨d0, d1⟩ := mass_cells r2 hm
      have he := neq_mass x y
      have HB := Lib.hid hbr
      clear hbr r1 r2 hm H1 H2
      go_wp2_with fail
      go_quiet (fail)
      go_wp2_with fail
      go_roundw
      case rel => exact ⟨k + 1, by omega, by go_num, below_drewN HB.out _⟩
      case measure => simp [intOf]; omega
    · have HB := Lib.hid hbr
      clear hbr
      go_wp2_with fail
      go_ret
      exact ⟨rfl, HB.out⟩

set_option maxHeartbeats 3200000 in
set_option maxRecDepth 100000 in
theorem count_p {s : ByteArray} (hs : s.size ≤ 1000000) (hp : prE s ≠ 0) (n : Int) (w : World) (hm : ML w) :
    Calls Tryz.prog 61 #[.string s, .int .i64 n] w fun e w' => e = .returned (.tuple #[.agg #[.string ⟨#[]⟩, .string ⟨#[]⟩, .string ⟨#[]⟩, .string ⟨#[]⟩], .int .i64 ((prE s : Nat) : Int)]) ∧ Below w.heap.size w w' := by
  have HP := Lib.hid (fun W (h : Below w.heap.size w W) => cparts_no hs hp W (ml_keep hm (ml_pos hm) h))
  have HB := Lib.hid ((Below.refl w.heap.size w).alloc (Nat.le_refl _) (cObj empB empB empB empB))
  have HR := Lib.hid (CB.new w empB empB empB empB)
  have hne := errne hp
  generalize prE s = c at *
  clear hs hp hm
  go_enter Tryz.func61, Tryz.ntmps61
  go_wp2_with fail
  refine (HP.out _ HB.out).mono ?_
  rintro e w1 ⟨rfl, hb1⟩
  have hr := HR.out.below hb1
  obtain ⟨r0, r1, r2, r3⟩ := hr.c
  have q0 := hr.f 0
  have q1 := hr.f 1
  have q2 := hr.f 2
  have q3 := hr.f 3
  have HRES := Lib.hid (And.intro hr (HB.out.trans (hb1.mono HB.out.size)))
  clear hb1 HP HR HB hr
  go_wp2_with fail
  exact bodyPost_ret ((HRES.out.1.st empB empB empB empB).resultC rfl rfl) rfl ⟨rfl, below_sc4 HRES.out.2 (Nat.le_refl _) _ _ _ _⟩

set_option maxHeartbeats 1600000 in
theorem Late_p {s : ByteArray} (hs : s.size ≤ 1000000) (hp : prE s ≠ 0) (n : Int) (w : World) (hm : ML w) :
    Calls Tryz.prog 13 #[.string s, .int .i64 n] w fun e w' => e = .returned (.tuple #[.string ⟨#[]⟩, .int .i64 ((prE s : Nat) : Int)]) ∧ Below w.heap.size w w' := by
  have HC := Lib.hid (count_p hs hp n w hm)
  have hne := errne hp
  generalize prE s = c at *
  clear hs hp hm
  go_enter Tryz.func13, Tryz.ntmps13
  go_wp2_with fail
  refine HC.out.mono ?_
  rintro e w1 ⟨rfl, hb1⟩
  have HB := Lib.hid (hb1.alloc hb1.size (cObj empB empB empB empB))
  clear hb1 HC
  go_wp2_with fail
  go_ret2
  exact ⟨rfl, HB.out⟩

set_option maxHeartbeats 1600000 in
theorem Law_p {s : ByteArray} (hs : s.size ≤ 1000000) (hp : prE s ≠ 0) (n : Int) (w : World) (hm : ML w) :
    Calls Tryz.prog 15 #[.string s, .int .i64 n] w fun e w' => e = .returned (.tuple #[.slice none 0 0, .int .i64 ((prE s : Nat) : Int)]) ∧ Below w.heap.size w w' := by
  have HC := Lib.hid (count_p hs hp n w hm)
  have hne := errne hp
  generalize prE s = c at *
  clear hs hp hm
  go_enter Tryz.func15, Tryz.ntmps15
  go_wp2_with fail
  refine HC.out.mono ?_
  rintro e w1 ⟨rfl, hb1⟩
  have HB := Lib.hid (hb1.alloc hb1.size (cObj empB empB empB empB))
  clear hb1 HC
  go_wp2_with fail
  go_ret2
  exact ⟨rfl, HB.out⟩

end Go.Proofs.YteojekiocecdnaaGreatDoor
