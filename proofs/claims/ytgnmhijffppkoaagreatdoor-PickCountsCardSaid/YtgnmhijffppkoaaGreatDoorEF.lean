/-
  What PickCounts draws: the reference's All, share; Has of a distribution. PickCounts returns true for any weights and int. PickCounts returns true for any weights and int: the walk.
-/
import Derived.Test.YtgnmhijffppkoaaGreatDoorEE
import Derived.Test.YtgnmhijffppkoaaGreatDoorBB
import Derived.Test.YtgnmhijffppkoaaGreatDoorHE
import Derived.Test.YtgnmhijffppkoaaGreatDoorU20
import Derived.Deep.AppendLies
import Derived.Laws.OwnMore
import Derived.Deep.QuietTactic
import Derived.BigQuiet
import Derived.Sort.Walk0
import Derived.Laws.Cover1
namespace Go.Proofs.YtgnmhijffppkoaaGreatDoor
open Go.RowKit NV
open Go.Lib (decDigits)

theorem slice_of_rowP {w : World} {base size n : Nat} {e : TypeId} {v : Value} {xs : List Value} (h : w.ownsRow base e size v n xs) : ∃ ao m c, v = .slice ao m c := by
  rcases h.2 with ⟨hv, _⟩ | ⟨g, cap, cur, hv, _⟩
  · exact ⟨_, _, _, hv⟩
  · exact ⟨_, _, _, hv⟩

theorem wstr_listKP (k n : Nat) : (wstr k n).data.toList = wbits k n := by unfold wstr; simp
theorem wbits_oneP {i j : Nat} (hi : i < 2 ^ j) : wbits (2 * i) (j + 1) = wbits i j ++ [48] ∧ wbits (2 * i + 1) (j + 1) = wbits i j ++ [49] := by
  have hp : 2 ^ (j + 1) = 2 ^ j * 2 := Nat.pow_succ ..
  have key : ∀ c : UInt8, (c = 48 ∨ c = 49) → wbits (2 * i + (c.toNat - 48)) (j + 1) = wbits i j ++ [c] := by
    intro c hc
    apply bv_inj
    · exact wbits_bits _ _
    · intro x hx
      rcases List.mem_append.1 hx with hx | hx
      · exact wbits_bits _ _ x hx
      · rw [List.mem_singleton] at hx; rw [hx]; exact hc
    · rw [List.length_append, wbits_len, wbits_len]; rfl
    · have hlt : 2 * i + (c.toNat - 48) < 2 ^ (j + 1) := by
        rcases hc with rfl | rfl
        · show 2 * i + 0 < _; omega
        · show 2 * i + 1 < _; omega
      rw [bv_append, wbits_val hi, wbits_val hlt]
      have h1 : bv [c] = c.toNat - 48 := by
        show 2 * 0 + (c.toNat - 48) = _; omega
      rw [h1]; simp; omega
  exact ⟨key 48 (.inl rfl), key 49 (.inr rfl)⟩
theorem wstr_oneP {i j : Nat} (hi : i < 2 ^ j) : wstr i j ++ (⟨#[48]⟩ : ByteArray) = wstr (2 * i) (j + 1) ∧ wstr i j ++ (⟨#[49]⟩ : ByteArray) = wstr (2 * i + 1) (j + 1) := by
  obtain ⟨h1, h2⟩ := wbits_oneP hi
  constructor
  · apply ba_ext; rw [app_list, wstr_listKP, wstr_listKP, h1]
  · apply ba_ext; rw [app_list, wstr_listKP, wstr_listKP, h2]

/-- The first k words of j bits. -/
def wsLP (j k : Nat) : List Value := (List.range k).map (fun i => Value.string (wstr i j))
theorem wsL_getP {j k i : Nat} (h : i < k) : (wsLP j k)[i]? = some (.string (wstr i j)) := by unfold wsLP; simp [h]
theorem wsL_twoP (j i : Nat) (hi : i < 2 ^ j) : wsLP (j + 1) (2 * (i + 1)) = wsLP (j + 1) (2 * i) ++ [.string (wstr i j ++ (⟨#[48]⟩ : ByteArray)), .string (wstr i j ++ (⟨#[49]⟩ : ByteArray))] := by
  obtain ⟨h1, h2⟩ := wstr_oneP hi
  rw [h1, h2]
  unfold wsLP
  rw [show 2 * (i + 1) = 2 * i + 1 + 1 by omega, List.range_succ, List.range_succ, List.map_append, List.map_append, List.append_assoc]
  rfl

theorem row_formP {w : World} {base N : Nat} {v : Value} {xs : List Value} (h : w.ownsRow base 22 1 v N xs) (h0 : N ≠ 0) : ∃ g cap, v = .slice (some ⟨g, 0, none⟩) N cap ∧ base ≤ g ∧ g < w.heap.size := by
  rcases h.2 with ⟨_, h1⟩ | ⟨g, cap, cur, h1, hb, hg, _⟩
  · exact absurd h1 h0
  · exact ⟨g, cap, h1, hb, (Array.getElem?_eq_some_iff.1 hg).1⟩

set_option maxHeartbeats 6400000 in
set_option maxRecDepth 100000 in
theorem rAll_okP (n : Nat) (hn : n ≤ 12) (w : World) :
    Calls Tryz.prog 51 #[.int .i64 (n : Int)] w fun e w' => ∃ v, e = .returned (.tuple #[v, .int .i64 0]) ∧ w'.ownsRow w.heap.size 22 1 v (2 ^ n) (wsLP n (2 ^ n)) ∧ Below w.heap.size w w' := by
  obtain ⟨i0, hi, hz0, hz1, hz2⟩ := info_parts infoBits
  have hr0 : (w.alloc (.cells #[.string ⟨#[]⟩] 22)).ownsRow w.heap.size 22 1 (.slice (some ⟨w.heap.size, 0, none⟩) 1 1) 1 (wsLP 0 1) := World.ownsRow_lit w #[.string ⟨#[]⟩] 1 (Nat.le_refl _) (by unfold maxLen; omega) rfl
  have HR0 := Lib.hid (And.intro hr0 ((Below.refl w.heap.size w).alloc (Nat.le_refl _) (.cells #[.string ⟨#[]⟩] 22)))
  clear hr0
  go_enter Tryz.func51, Tryz.ntmps51
  go_wp2_with fail
  go_loopw [0, 4] (fun nv ov wr => ∃ j : Nat, j ≤ n ∧ nv = .int .i64 ((n : Int) - (j : Int)) ∧ wr.ownsRow w.heap.size 22 1 ov (2 ^ j) (wsLP j (2 ^ j)) ∧ Below w.heap.size w wr) (fun nv _ _ => (intOf nv).toNat)
  case atStart => exact ⟨0, Nat.zero_le _, by simp, HR0.out.1, HR0.out.2⟩
  case round =>
    obtain ⟨j, hj, rfl, hrow, hb⟩ := hrel
    clear HR0
    obtain ⟨N, hN⟩ : ∃ N, N = 2 ^ j := ⟨_, rfl⟩
    have hN0 : N ≠ 0 := by rw [hN]; exact Nat.pos_iff_ne_zero.1 (Nat.pow_pos (by omega))
    have hN4 : N ≤ 4096 := by
      rw [hN]; exact Nat.le_trans (Nat.pow_le_pow_right (n := 2) (by omega) (show j ≤ 12 by omega)) (by decide)
    have HN := Lib.hid hN
    rw [← hN] at hrow
    obtain ⟨g, cap, rfl, _, hg⟩ := row_formP hrow hN0
    by_cases hjn : j < n
    · have hpos : (0 : Int) < (n : Int) - (j : Int) := by omega
      have HCELL := Lib.hid (show ∀ i, i < N → wr.cell? ⟨g, i, none⟩ = some (.string (wstr i j)) from fun i hi => by
        have := hrow.cells (g := g) rfl i (.string (wstr i j)) (wsL_getP hi)
        rw [Addr.add_lit, Nat.zero_add] at this; exact this)
      have HB := Lib.hid (And.intro hb hg)
      clear hrow hb hg
      clear hN
      go_wp2_with fail
      obtain ⟨wo, rfl⟩ : ∃ wo, wo = wr := ⟨_, rfl⟩
      go_loopw [6, 5] (fun iv nx wr => ∃ k : Nat, k ≤ N ∧ iv = .int .i64 (k : Int) ∧ wr.ownsRow wo.heap.size 22 1 nx (2 * k) (wsLP (j + 1) (2 * k)) ∧ Below wo.heap.size wo wr) (fun iv _ _ => N - (intOf iv).toNat)
      case atStart => exact ⟨0, Nat.zero_le _, rfl, World.ownsRow_nil _ _ _ _, Below.refl _ _⟩
      case round =>
        obtain ⟨k, hk, rfl, hrn, hb2⟩ := hrel
        by_cases hlt : k < N
        · have HT := Lib.hid (wsL_twoP j k (by rw [← HN.out]; exact hlt))
          have c0 : wr.cell? ⟨g, k, none⟩ = some (.string (wstr k j)) := (hb2.cell (p := ⟨g, k, none⟩) HB.out.2).trans (HCELL.out k hlt)
          have hxs : (wstr k j).size ≤ 12 := by rw [Go.Lib.size_eq, wstr_listKP, wbits_len]; omega
          generalize hX : wstr k j = X at hxs c0 HT
          have HX := Lib.hid hX
          have hx1 : X.size < 9223372036854775807 := by omega
          have hx2 : X.size + 1 ≤ 9223372036854775807 := by omega
          have hx3 : ¬ 9223372036854775807 < X.size + 1 := by omega
          have hx48 : ∀ W : World, (Op.stringOp .add X ⟨#[48]⟩).run Tryz.prog W = .ok (.string (X ++ (⟨#[48]⟩ : ByteArray))) W := fun W => run_string_add_sum W X _ hx2
          have hx49 : ∀ W : World, (Op.stringOp .add X ⟨#[49]⟩).run Tryz.prog W = .ok (.string (X ++ (⟨#[49]⟩ : ByteArray))) W := fun W => run_string_add_sum W X _ hx2
          clear hX
          obtain ⟨xo, xm, xc, rfl⟩ := slice_of_rowP hrn
          have HKP := Lib.hid (show ∀ W, Below wo.heap.size wo W → W.cell? ⟨g, k, none⟩ = some (.string X) from fun W h => HX.out ▸ (h.cell (p := ⟨g, k, none⟩) HB.out.2).trans (HCELL.out k hlt))
          have HROW := Lib.hid (show wr.ownsRow wo.heap.size 22 1 (.slice xo xm xc) (2 * k) (wsLP (j + 1) (2 * k)) from hrn)
          have HB2 := Lib.hid hb2
          clear hrn hb2
          go_wp2_with fail
          go_region_held3 (fun W => W.cell? ⟨g, k, none⟩ = some (.string X))
            (first | exact c0 | assumption | exact HKP.out _ (HB2.out.alloc HB2.out.size _).drew | exact HKP.out _ (HB2.out.alloc HB2.out.size _))
            (first
              | (refine step_append_lies _ rfl _ _ _ rfl wo.heap.size 22 i0 (.string ⟨#[]⟩) 1 16 Tryz.underlying25 hi hz0 hz1 hz2 rfl (by decide) _ _ _ rfl (HROW.out.alloc _) ⟨_, 0, none⟩ 2 2 [.string (X ++ (⟨#[48]⟩ : ByteArray)), .string (X ++ (⟨#[49]⟩ : ByteArray))] rfl rfl (World.news_of_block (heap_alloc_new _ _)) (fun u hu => by simp at hu; rcases hu with rfl | rfl <;> rfl) (by omega) (by unfold maxLen; omega) (by omega) (by have := HB2.out.size; simp; omega) _ rfl ?_; intro gg cc w6 hown hgrow hat hlt6; have hlt5 := HROW.out.lt; have hbf := ((HB2.out.alloc HB2.out.size _).drew).grown hgrow (by have := HB2.out.size; simp; omega) (fun q hq => (hlt5 q hq).1); have hk6 : w6.cell? ⟨g, k, none⟩ = some (.string X) := HKP.out _ hbf))
          have HF := Lib.hid (And.intro hown hbf)
          clear hown hgrow hat hlt6 hlt5 hbf hk6 HROW c0
          go_wp2_with fail
          go_roundw
          case rel => exact ⟨k + 1, by omega, by go_num, by rw [HT.out, show 2 * (k + 1) = 2 * k + 2 by omega]; exact HF.out.1, HF.out.2⟩
          case measure => simp [intOf]; omega
        · obtain rfl : k = N := by omega
          obtain ⟨xo, xm, xc, rfl⟩ := slice_of_rowP hrn
          have HF := Lib.hid (And.intro hrn hb2)
          clear hrn hb2
          go_wp2_with fail
          go_roundw
          case rel => exact ⟨j + 1, by omega, by go_num, by rw [show 2 ^ (j + 1) = 2 * k by rw [HN.out, Nat.pow_succ]; omega]; exact row_baseP HF.out.1 HB.out.1.size, HB.out.1.trans (HF.out.2.mono HB.out.1.size)⟩
          case measure => simp [intOf]; omega
    · obtain rfl : j = n := by omega
      have hpos : ¬ (0 : Int) < (j : Int) - (j : Int) := by omega
      have HF := Lib.hid (And.intro hrow hb)
      clear hrow hb
      go_wp2_with fail
      go_ret2
      exact ⟨_, rfl, by rw [← HN.out]; exact HF.out.1, HF.out.2⟩

theorem rMakeCP {k n : Nat} (hn : n ≤ 256) (hk : k ≤ 2 ^ n) (w : World) :
    Calls Tryz.prog 120 #[.string (dstr k), .string (dstr (2 ^ n))] w fun e w' => e = .returned (.tuple #[.string (qstr (cQ k n)), .int .i64 0]) ∧ Below w.heap.size w w' := by
  have ok1 : Ok k := ok_two (n := n) (by omega) hk
  have ok2 : Ok (2 ^ n) := ok_two (n := n) (by omega) (Nat.le_refl _)
  have s1 : (dstr k).size ≤ 1000000 := by rw [dstr_size]; unfold Ok at ok1; omega
  have s2 : (dstr (2 ^ n)).size ≤ 1000000 := by rw [dstr_size]; unfold Ok at ok2; omega
  have h := rMake_q (s := istr false k) (t := dstr (2 ^ n)) w s1 s2 (chkI_istr ok1 (by simp)) (by rw [dstr_list, ok2.chk]) (by rw [dstr_list, dv_dec]; exact Nat.pos_iff_ne_zero.1 (Nat.pow_pos (by omega)))
  rw [istr_minus, istr_rest, dstr_list, dv_dec, dstr_list, dv_dec] at h
  exact rq_done (r := cQ k n) h rfl (cQ_ok hn hk)

theorem rInt_allP {x : Int} (h0 : 0 ≤ x) (h1 : x ≤ 9223372036854775807) (w : World) :
    Calls Tryz.prog 53 #[.int .i64 x] w fun e w' => e = .returned (.string (dstr x.toNat)) ∧ Below w.heap.size w w' := by
  obtain ⟨k, rfl⟩ : ∃ k : Nat, x = (k : Int) := ⟨x.toNat, by omega⟩
  exact rInt_nat k (by omega) w

set_option maxHeartbeats 3200000 in
set_option maxRecDepth 100000 in
theorem share4_okP {k n : Nat} (hn : n ≤ 12) (hk : k ≤ 2 ^ n) (w : World) :
    Calls Tryz.prog 54 #[.int .i64 (k : Int), .int .i64 (n : Int)] w fun e w' => e = .returned (.string (qstr (cQ k n))) ∧ Below w.heap.size w w' := by
  obtain ⟨N, hN⟩ : ∃ N, N = 2 ^ n := ⟨_, rfl⟩
  have hN4 : N ≤ 4096 := by rw [hN]; exact Nat.pow_le_pow_right (n := 2) (by omega) hn
  have hk4 : k ≤ 4096 := by omega
  have hw : IntKind.i64.wrap ((2 : Int) ^ n) = ((N : Nat) : Int) := by
    have : ((2 : Int) ^ n) = ((N : Nat) : Int) := by rw [hN]; simp
    rw [this]; simp [IntKind.wrap, IntKind.signed, IntKind.bits]; omega
  have HW := Lib.hid hw
  have HI := Lib.hid (fun (W : World) (x : Int) (h : x = (k : Int) ∨ x = IntKind.i64.wrap ((2 : Int) ^ n)) => rInt_allP (x := x) (by rcases h with rfl | rfl <;> (try rw [hw]) <;> omega) (by rcases h with rfl | rfl <;> (try rw [hw]) <;> omega) W)
  have HM := Lib.hid (fun (W : World) (s t : ByteArray) (h1 : s = dstr (k : Int).toNat) (h2 : t = dstr (IntKind.i64.wrap ((2 : Int) ^ n)).toNat) => (by
    subst h1; subst h2; rw [hw, Int.toNat_natCast, Int.toNat_natCast, hN]; exact rMakeCP (by omega) hk W : Calls Tryz.prog 120 #[.string s, .string t] W fun e w' => e = .returned (.tuple #[.string (qstr (cQ k n)), .int .i64 0]) ∧ Below W.heap.size W w'))
  generalize qstr (cQ k n) = sq at *
  clear hw hk hN
  go_enter Tryz.func54, Tryz.ntmps54
  go_wp2_with fail
  have hD0 := (Below.refl w.heap.size w).drew
  go_region_held3 (fun _ => True) (trivial)
    (first
      | (go_at_call 53; refine (lift_shP (w0 := w) (by assumption) (HI.out _ _ (by first | (left; rfl) | (right; rfl)))).mono ?_; rintro e u1 ⟨rfl, hb1, hB1⟩)
      | (go_at_call 120; refine (lift_shP (w0 := w) (by assumption) (HM.out _ _ _ rfl rfl)).mono ?_; rintro e u3 ⟨rfl, hb3, hB3⟩))
  have HB := Lib.hid hB3
  clear hb1 hB1 hb3 hB3
  go_wp2_with fail
  go_ret
  exact ⟨rfl, HB.out⟩

theorem eqIn_massG (x y a b : ByteArray) (W : World) : (Op.equalIn 10000 54 (.agg #[.string x, .string y]) (.agg #[.string a, .string b])).run Tryz.prog W = .ok (x.toList == a.toList && y.toList == b.toList) W := by
  rw [run_equalIn_agg W 9999 _ _ _ struct_massP held_massP]
  have hf := fields_massP
  generalize (Tryz.prog.fieldsOf 54).toList = l at hf ⊢
  unfold fieldsMP at hf
  obtain ⟨f0, f1, rfl⟩ := list_twoP (show l.length = 2 by have := congrArg List.length hf; simpa using this)
  simp only [List.map_cons, List.map_nil, List.cons.injEq, Prod.mk.injEq, and_true] at hf
  obtain ⟨⟨n0, t0, o0⟩, ⟨n1, t1, o1⟩⟩ := hf
  simp only [Op.eqFields, n0, t0, o0, n1, t1, o1]
  by_cases h0 : x.toList = a.toList <;> by_cases h1 : y.toList = b.toList <;>
    simp [Sem.run_bind, part_strP #[.string x, .string y] 0 (.string x) rfl, part_numP #[.string x, .string y] 1 (.string y) rfl, part_strP #[.string a, .string b] 0 (.string a) rfl, part_numP #[.string a, .string b] 1 (.string b) rfl,
      run_equalIn_string _ _ _ _ _ Tryz.underlying9, run_equalIn_string _ _ _ _ _ Tryz.underlying23, h0, h1]
theorem eql_massG (x y a b : ByteArray) (W : World) : (binOp .eql 54 (.agg #[.string x, .string y]) (.agg #[.string a, .string b])).run Tryz.prog W = .ok (.bool (x.toList == a.toList && y.toList == b.toList)) W := by
  rw [run_eql_struct, eqIn_massG]; rfl

open Go.RowKit NV
open Go.Lib (decDigits)

/-- How many of the first i bit strings lead to j. -/
def cP (f : Nat → Nat) (m n i j : Nat) : Nat := min i (endP f m n j) - fstP f m n j
theorem cP_in {f : Nat → Nat} {m n i j : Nat} (h1 : fstP f m n j ≤ i) (h2 : i < endP f m n j) : cP f m n (i + 1) j = cP f m n i j + 1 := by unfold cP; omega
theorem cP_out {f : Nat → Nat} {m n i j : Nat} (h : ¬ (fstP f m n j ≤ i ∧ i < endP f m n j)) : cP f m n (i + 1) j = cP f m n i j := by unfold cP; omega
theorem end_le {f : Nat → Nat} {m n j : Nat} (hs : ScF f m) (hj : j < m) : endP f m n j ≤ 2 ^ n := by
  unfold endP
  have h := Nat.div_le_div_right (c := f m) (Nat.mul_le_mul_right (2 ^ n) (hs.mono _ _ hj (Nat.le_refl _)))
  rwa [Nat.mul_comm (f m), Nat.mul_div_cancel _ hs.pos] at h
theorem cP_all {f : Nat → Nat} {m n j : Nat} (hs : ScF f m) (hj : j < m) : cP f m n (2 ^ n) j = cntP f m n j := by
  have := end_le hs hj (n := n)
  unfold cP cntP; rw [Nat.min_eq_right this]
theorem wsum_up {g h : Nat → Nat} {v : Nat} : ∀ {m : Nat}, v < m → (∀ j, j < m → j ≠ v → g j = h j) → g v = h v + 1 → wsum g m = wsum h m + 1
  | 0, hv, _, _ => absurd hv (Nat.not_lt_zero _)
  | m + 1, hv, e, hg => by
    show wsum g m + g m = wsum h m + h m + 1
    rcases Nat.lt_or_ge v m with h1 | h1
    · rw [wsum_up h1 (fun j hj => e j (by omega)) hg, e m (by omega) (by omega)]; omega
    · obtain rfl : v = m := by omega
      rw [wsum_congr (fun j hj => e j (by omega) (by omega)), hg]; omega
theorem sumP_wsum (f : Nat → Nat) (m n : Nat) : ∀ i, sumP f m n i = wsum (cntP f m n) i
  | 0 => rfl
  | i + 1 => by show sumP f m n i + cntP f m n i = wsum (cntP f m n) i + cntP f m n i; rw [sumP_wsum f m n i]
/-- What a whole bit string leads to. -/
theorem pick_class {f : Nat → Nat} {m n i : Nat} {d : Bool} {v u : Nat} (hs : ScF f m) (hi : i < 2 ^ n) (h : PickIs f m (wbits i n) d v u) :
    (d = true ∧ v < m ∧ fstP f m n v ≤ i ∧ i < endP f m n v ∧ ∀ j, j < m → j ≠ v → ¬ (fstP f m n j ≤ i ∧ i < endP f m n j)) ∨ (d = false ∧ v = 0 ∧ ∀ j, j < m → ¬ (fstP f m n j ≤ i ∧ i < endP f m n j)) := by
  rcases h with ⟨rfl, hv, hu, hc, _⟩ | ⟨rfl, rfl, _, hn⟩
  · have h1 := inC_take (wbits_bits i n) hu (Nat.le_refl _) hc
    rw [List.take_length, wbits_len, wbits_val hi] at h1
    have h2 := (inC_iff hs).1 h1
    exact .inl ⟨rfl, hv, h2.1, h2.2, fun j hj hne hc2 => hne (inC_one hs hj hv ((inC_iff hs).2 hc2) h1)⟩
  · refine .inr ⟨rfl, rfl, fun j hj hc => hn j hj ?_⟩
    rw [wbits_len, wbits_val hi]; exact (inC_iff hs).2 hc

/-- A list of counts in memory. -/
def KArr (w : World) (g N : Nat) (c : Nat → Nat) : Prop :=
  ∃ cur, w.heap[g]? = some (.cells cur 3 (0, 0)) ∧ cur.size = N ∧ ∀ j, j < N → cur[j]? = some (.int .i64 ((c j : Nat) : Int))
theorem KArr.cell {w : World} {g N : Nat} {c : Nat → Nat} (h : KArr w g N c) {j : Nat} (hj : j < N) : w.cell? ⟨g, j, none⟩ = some (.int .i64 ((c j : Nat) : Int)) := by
  obtain ⟨cur, h1, h2, h3⟩ := h
  rw [cell_of_row w g j cur _ _ h1]
  exact h3 j hj
theorem KArr.free {w : World} {g N : Nat} {c : Nat → Nat} (h : KArr w g N c) (j : Nat) : w.frozen? ⟨g, j, none⟩ = false := by
  obtain ⟨cur, h1, h2, h3⟩ := h
  exact frozen_of_row w g j cur _ h1
theorem KArr.lt {w : World} {g N : Nat} {c : Nat → Nat} (h : KArr w g N c) : g < w.heap.size := by
  obtain ⟨cur, h1, _⟩ := h
  exact (Array.getElem?_eq_some_iff.1 h1).1
theorem KArr.below {w w' : World} {g N : Nat} {c : Nat → Nat} (h : KArr w g N c) (hb : Below w.heap.size w w') : KArr w' g N c := by
  have hlt := h.lt
  obtain ⟨cur, h1, h2, h3⟩ := h
  exact ⟨cur, (hb.block g hlt).trans h1, h2, h3⟩
theorem KArr.congr {w : World} {g N : Nat} {c d : Nat → Nat} (h : KArr w g N c) (e : ∀ j, j < N → c j = d j) : KArr w g N d := by
  obtain ⟨cur, h1, h2, h3⟩ := h
  exact ⟨cur, h1, h2, fun j hj => by rw [← e j hj]; exact h3 j hj⟩
theorem KArr.store {w : World} {g N : Nat} {c : Nat → Nat} (h : KArr w g N c) (i : Nat) (x : Nat) : KArr (w.setCell ⟨g, i, none⟩ (.int .i64 (x : Int))) g N (fun j => if j = i then x else c j) := by
  obtain ⟨cur, h1, h2, h3⟩ := h
  refine ⟨cur.setIfInBounds i (.int .i64 (x : Int)), heap_setCell_same w g i cur _ _ h1, by simpa using h2, fun j hj => ?_⟩
  rw [Array.getElem?_setIfInBounds]
  by_cases e : i = j
  · subst e
    rw [if_pos rfl, if_pos (by omega)]
    show _ = some (Value.int .i64 (((if i = i then x else c i) : Nat) : Int))
    rw [if_pos rfl]
  · rw [if_neg e]
    show _ = some (Value.int .i64 (((if j = i then x else c j) : Nat) : Int))
    rw [if_neg (fun h => e h.symm)]
    exact h3 j hj
theorem infoIntK : (Tryz.prog.info? 3).map (fun i => (i.zero, i.size, i.bytes)) = some (some (.int .i64 0), 1, 8) := by kernel_rfl
theorem KArr.made {w : World} {base g N : Nat} (h : w.ownsRow base 3 1 (.slice (some ⟨g, 0, none⟩) N N) N (madeCells (Value.int .i64 0).cells (N * 1)).toList) : KArr w g N (fun _ => 0) := by
  rcases h.2 with ⟨h', _⟩ | ⟨g', cap', cur, h', hb, hg, hnc, hcm, hcs, htake⟩
  · simp at h'
  · simp only [Value.slice.injEq, Option.some.injEq, Addr.mk.injEq, and_true, true_and] at h'
    obtain ⟨rfl, rfl⟩ := h'
    refine ⟨cur, hg, by omega, fun j hj => ?_⟩
    have e : (cur.toList.take (N * 1))[j]? = some (.int .i64 0) := by
      rw [htake, Nat.mul_one]
      show (madeCells #[Value.int .i64 0] N).toList[j]? = _
      rw [toList_madeCells_one, List.getElem?_replicate, if_pos hj]
    rw [List.getElem?_take, if_pos (by omega)] at e
    simpa using e

set_option maxHeartbeats 12800000 in
set_option maxRecDepth 100000 in
theorem pcounts_far1 {ao : Option Addr} {N cap : Nat} {f : Nat → ByteArray} {n : Int} {w : World} (h : PRow w ao N f) (hN : N ≤ 9223372036854775807) (htab : Tab w) (hl : wLong f N = true) :
    Calls Tryz.prog 7 #[.slice ao N cap, .int .i64 n] w fun e w' => e = .returned (.bool true) ∧ Below w.heap.size w w' := by
  have HL := Lib.hid (lives5_any w htab)
  have hlg := fun W (hb : Below w.heap.size w W) => long_any (cap := cap) (h.below hb) hN
  rw [hl] at hlg
  have HLG := Lib.hid hlg
  clear h hN htab hlg hl
  go_enter Tryz.func7, Tryz.ntmps7
  go_wp2_with fail
  refine HL.out.mono ?_
  rintro e w1 ⟨rfl, hb⟩
  have HB := Lib.hid hb
  clear hb HL
  go_wp2_with fail
  refine (HLG.out _ HB.out).mono ?_
  rintro e w2 ⟨rfl, rfl⟩
  clear HLG
  go_wp2_with fail
  go_ret
  exact ⟨rfl, HB.out⟩

set_option maxHeartbeats 12800000 in
set_option maxRecDepth 100000 in
theorem pcounts_far2 {ao : Option Addr} {N cap : Nat} {f : Nat → ByteArray} {n : Int} {w : World} (h : PRow w ao N f) (hN : N ≤ 9223372036854775807) (htab : Tab w) (hl : wLong f N = false) (h2 : n < 0) :
    Calls Tryz.prog 7 #[.slice ao N cap, .int .i64 n] w fun e w' => e = .returned (.bool true) ∧ Below w.heap.size w w' := by
  have HL := Lib.hid (lives5_any w htab)
  have hlg := fun W (hb : Below w.heap.size w W) => long_any (cap := cap) (h.below hb) hN
  rw [hl] at hlg
  have HLG := Lib.hid hlg
  clear h hN htab hlg hl
  go_enter Tryz.func7, Tryz.ntmps7
  go_wp2_with fail
  refine HL.out.mono ?_
  rintro e w1 ⟨rfl, hb⟩
  have HB := Lib.hid hb
  clear hb HL
  go_wp2_with fail
  refine (HLG.out _ HB.out).mono ?_
  rintro e w2 ⟨rfl, rfl⟩
  clear HLG
  go_wp2_with fail
  go_ret
  exact ⟨rfl, HB.out⟩

set_option maxHeartbeats 12800000 in
set_option maxRecDepth 100000 in
theorem pcounts_far3 {ao : Option Addr} {N cap : Nat} {f : Nat → ByteArray} {n : Int} {w : World} (h : PRow w ao N f) (hN : N ≤ 9223372036854775807) (htab : Tab w) (hl : wLong f N = false) (h2 : ¬ n < 0) (h3 : 8 < n) :
    Calls Tryz.prog 7 #[.slice ao N cap, .int .i64 n] w fun e w' => e = .returned (.bool true) ∧ Below w.heap.size w w' := by
  have HL := Lib.hid (lives5_any w htab)
  have hlg := fun W (hb : Below w.heap.size w W) => long_any (cap := cap) (h.below hb) hN
  rw [hl] at hlg
  have HLG := Lib.hid hlg
  clear h hN htab hlg hl
  go_enter Tryz.func7, Tryz.ntmps7
  go_wp2_with fail
  refine HL.out.mono ?_
  rintro e w1 ⟨rfl, hb⟩
  have HB := Lib.hid hb
  clear hb HL
  go_wp2_with fail
  refine (HLG.out _ HB.out).mono ?_
  rintro e w2 ⟨rfl, rfl⟩
  clear HLG
  go_wp2_with fail
  go_ret
  exact ⟨rfl, HB.out⟩

set_option maxHeartbeats 12800000 in
set_option maxRecDepth 100000 in
theorem pcounts_err {ao : Option Addr} {N cap : Nat} {f : Nat → ByteArray} {n : Int} {w : World} (h : PRow w ao N f) (hN : N ≤ 9223372036854775807) (htab : Tab w) (hl : wLong f N = false) (h2 : ¬ n < 0) (h3 : ¬ 8 < n) (he : pickE f N ≠ 0) :
    Calls Tryz.prog 7 #[.slice ao N cap, .int .i64 n] w fun e w' => e = .returned (.bool true) ∧ Below w.heap.size w w' := by
  have HL := Lib.hid (lives5_any w htab)
  have hlg := fun W (hb : Below w.heap.size w W) => long_any (cap := cap) (h.below hb) hN
  rw [hl] at hlg
  have HLG := Lib.hid hlg
  have hsz : ∀ j, j < N → (f j).size ≤ 140737488351232 := fun j hj => by have := (wLong_no hl).1 j hj; omega
  have hce : cntE f N n ≠ 0 := by unfold cntE; rw [if_pos he]; exact he
  have H1 := Lib.hid (fun W (hb : Below w.heap.size w W) => pLaw_err (cap := cap) (h.below hb) hsz hce)
  have H2 := Lib.hid (fun W (hb : Below w.heap.size w W) => pLate_err (cap := cap) (h.below hb) hsz hce)
  have hne := errneP hce
  generalize cntE f N n = c at *
  clear h hN htab hlg hl hsz he hce
  go_enter Tryz.func7, Tryz.ntmps7
  go_wp2_with fail
  refine HL.out.mono ?_
  rintro e w1 ⟨rfl, hb⟩
  have HB := Lib.hid hb
  clear hb HL
  go_wp2_with fail
  refine (HLG.out _ HB.out).mono ?_
  rintro e w2 ⟨rfl, rfl⟩
  clear HLG
  go_wp2_with fail
  refine (H1.out _ HB.out).mono ?_
  rintro e w3 ⟨rfl, hb⟩
  replace HB := Lib.hid (HB.out.trans (hb.mono HB.out.size))
  clear hb H1
  go_wp2_with fail
  refine (H2.out _ HB.out).mono ?_
  rintro e w4 ⟨rfl, hb⟩
  replace HB := Lib.hid (HB.out.trans (hb.mono HB.out.size))
  clear hb H2
  go_wp2_with fail
  go_ret
  exact ⟨ret_bool (by simp), HB.out⟩

set_option maxHeartbeats 3200000 in
set_option maxRecDepth 100000 in
theorem Has_any {w : World} {b1 : Nat} {v1 : Value} {L : List Item} {x : Item} (h1 : w.ownsRow b1 54 2 v1 L.length (cellsI L)) (hx : x ∈ L) (hN : L.length ≤ 1000) :
    Calls Tryz.prog 52 #[v1, .agg #[.string x.1, .string x.2]] w fun e w' => e = .returned (.bool true) ∧ Below w.heap.size w w' := by
  obtain ⟨K, hK, hx⟩ := List.mem_iff_getElem.1 hx
  have hxK : L[K]? = some x := by rw [List.getElem?_eq_getElem hK, hx]
  obtain ⟨N, hL⟩ : ∃ N, L.length = N := ⟨_, rfl⟩
  rw [hL] at h1 hN hK
  obtain ⟨a1, k1, rfl, _⟩ := row_shape h1
  have HL := Lib.hid (And.intro hL hxK)
  obtain ⟨w0, hw0⟩ : ∃ w0, w.alloc (.cells #[.string x.1, .string x.2] 54) = w0 := ⟨_, rfl⟩
  have hb0 : Below w.heap.size w w0 := by rw [← hw0]; exact (Below.refl _ w).alloc (Nat.le_refl _) _
  have hx0 : w0.heap[w.heap.size]? = some (.cells #[.string x.1, .string x.2] 54 (0, 0)) := by rw [← hw0]; exact heap_alloc_new w _
  have H1 := Lib.hid (And.intro (row_belowP h1 hb0) (And.intro hb0 hx0))
  obtain ⟨x1, x2⟩ := x
  clear h1 hL hxK hx hb0 hx0
  go_enter Tryz.func52, Tryz.ntmps52
  go_wp2_with fail
  clear hw0
  go_loopw [5] (fun iv wr => ∃ k : Nat, k ≤ K ∧ iv = .int .i64 (k : Int) ∧ Below w0.heap.size w0 wr) (fun iv _ => N - (intOf iv).toNat)
  case atStart => exact ⟨0, Nat.zero_le _, rfl, Below.refl _ _⟩
  case round =>
    obtain ⟨k, hk, rfl, hb⟩ := hrel
    have hkN : k < N := by omega
    obtain ⟨m, hm⟩ : ∃ m, L[k]? = some m := ⟨L[k]'(by rw [HL.out.1]; exact hkN), List.getElem?_eq_getElem _⟩
    obtain ⟨m1, m2⟩ := m
    have r1 := row_belowP H1.out.1 hb
    have hx0 := (hb.block _ (Array.getElem?_eq_some_iff.1 H1.out.2.2).1).trans H1.out.2.2
    obtain ⟨g, cap, hg, _⟩ := mass_formP r1 (by omega)
    simp only [Value.slice.injEq, true_and] at hg
    obtain ⟨rfl, rfl⟩ := hg
    obtain ⟨c0, c1⟩ := mass_cellsP r1 hm
    have d0 : wr.cell? ⟨w.heap.size, 0, none⟩ = some (.string x1) := by rw [Lib.cell_of_heap hx0]; rfl
    have d1 : wr.cell? ⟨w.heap.size, 1, none⟩ = some (.string x2) := by rw [Lib.cell_of_heap hx0]; rfl
    have HB := Lib.hid (H1.out.2.1.trans (hb.mono H1.out.2.1.size))
    have HB0 := Lib.hid hb
    have he := eql_massG m1 m2 x1 x2
    by_cases hq : (m1.toList == x1.toList && m2.toList == x2.toList) = true
    · rw [hq] at he
      clear hb r1 hx0 hm H1 hq
      go_wp2_with fail
      go_quiet (fail)
      go_wp2_with fail
      go_ret
      exact ⟨rfl, below_drewN HB.out _⟩
    · have hkK : k ≠ K := fun e => hq (by
        subst e
        have h2 := hm.symm.trans HL.out.2
        simp only [Option.some.injEq, Prod.mk.injEq] at h2
        rw [h2.1, h2.2, beq_self_eq_true, beq_self_eq_true]; rfl)
      have hq : (m1.toList == x1.toList && m2.toList == x2.toList) = false := by simpa using hq
      rw [hq] at he
      clear hb r1 hx0 hm hq
      go_wp2_with fail
      go_quiet (fail)
      go_wp2_with fail
      go_roundw
      case rel => exact ⟨k + 1, by omega, by go_num, below_drewN HB0.out _⟩
      case measure => simp [intOf]; omega

open Go.RowKit NV
open Go.Lib (decDigits)

theorem KArr.stI {w : World} {g N : Nat} {c : Nat → Nat} (h : KArr w g N c) (i : Nat) (x : Nat) (y : Int) (hy : y = (x : Int)) : KArr (w.setCell ⟨g, i, none⟩ (.int .i64 y)) g N (fun j => if j = i then x else c j) := by
  subst hy; exact h.store i x

theorem sort_ge {L : List Item} (hn : (L.map keyI).Nodup) {j : Nat} {x y : Item} (hx : (sortI L)[j]? = some x) (hy : (sortI L)[j + 1]? = some y) : Op.bytesLess x.1.toList y.1.toList = true := by
  rw [bytesLess_eq, Lib.toList_data, Lib.toList_data]
  refine decide_eq_true ?_
  obtain ⟨h1, rfl⟩ := List.getElem?_eq_some_iff.1 hx
  obtain ⟨h2, rfl⟩ := List.getElem?_eq_some_iff.1 hy
  exact List.pairwise_iff_getElem.1 (sortI_strict hn) j (j + 1) h1 h2 (Nat.lt_succ_self _)

theorem late_all {f : Nat → Nat} {m n : Nat} (hs : ScF f m) : lateP f m n + wsum (cntP f m n) m = 2 ^ n := by
  have h1 := sum_le (n := n) hs m (Nat.le_refl _)
  rw [Nat.mul_div_cancel_left _ hs.pos, sumP_wsum] at h1
  unfold lateP; rw [sumP_wsum]; omega
theorem wsum_z : ∀ (m : Nat) {g : Nat → Nat}, (∀ j, j < m → g j = 0) → wsum g m = 0
  | 0, _, _ => rfl
  | m + 1, g, h => by show wsum g m + g m = 0; rw [wsum_z m (fun j hj => h j (by omega)), h m (by omega)]
theorem law_size (g : Nat → Nat) (late all m : Nat) : (lawL g late all m).length = (itemsP g all m).length + (if late = 0 then 0 else 1) := by
  unfold lawL; rw [List.length_append]; split <;> rfl

set_option maxHeartbeats 12800000 in
set_option maxRecDepth 100000 in
theorem pcounts_yes {ao : Option Addr} {N cap n : Nat} {f : Nat → ByteArray} {w : World} (h : PRow w ao N f) (hw : WOk f N) (hN : N ≤ 9223372036854775807) (hl : wLong f N = false) (hn : n ≤ 8) (htab : Tab w) :
    Calls Tryz.prog 7 #[.slice ao N cap, .int .i64 (n : Int)] w fun e w' => e = .returned (.bool true) ∧ Below w.heap.size w w' := by
  have HL := Lib.hid (lives5_any w htab)
  have hlg := fun W (hb : Below w.heap.size w W) => long_any (cap := cap) (h.below hb) hN
  rw [hl] at hlg
  have HLG := Lib.hid hlg
  have hs := hw.sc
  have h64 := hw.most
  have hN0 : N ≠ 0 := by have := hw.one; omega
  have HLAW := Lib.hid (fun W (hb : Below w.heap.size w W) => pLaw_ok (cap := cap) (n := n) (h.below hb) hw (by omega) (htab.below hb))
  have HLATE := Lib.hid (fun W (hb : Below w.heap.size w W) => pLate_ok (cap := cap) (n := n) (h.below hb) hw (by omega) (htab.below hb))
  have HALL := Lib.hid (fun W => rAll_okP n (by omega) W)
  have HDR := Lib.hid (show ∀ i, i < 2 ^ n → ∃ (d : Bool) (v u : Nat), ((d = true ∧ v < N ∧ cP (wsum (wN f)) N n (i + 1) v = cP (wsum (wN f)) N n i v + 1 ∧ ∀ j, j < N → j ≠ v → cP (wsum (wN f)) N n (i + 1) j = cP (wsum (wN f)) N n i j) ∨ (d = false ∧ v = 0 ∧ ∀ j, j < N → cP (wsum (wN f)) N n (i + 1) j = cP (wsum (wN f)) N n i j)) ∧ ∀ W, Below w.heap.size w W → PDraws ao N cap (wstr i n) d (v : Int) (u : Int) 0 W from fun i hi => by
    obtain ⟨d, v, u, hp⟩ := pick_ex (f := wsum (wN f)) (m := N) (wbits i n)
    refine ⟨d, v, u, ?_, fun W hb => pDraw_ok (h.below hb) hw (htab.below hb) (by rw [wstr_listKP]; exact wbits_bits i n) (by rw [Go.Lib.size_eq, wstr_listKP, wbits_len]; omega) (by rw [wstr_listKP]; exact hp)⟩
    rcases pick_class hs hi hp with ⟨rfl, h1, h2, h3, h4⟩ | ⟨rfl, rfl, h4⟩
    · exact .inl ⟨rfl, h1, cP_in h2 h3, fun j hj hne => cP_out (h4 j hj hne)⟩
    · exact .inr ⟨rfl, rfl, fun j hj => cP_out (h4 j hj)⟩)
  have HSH := Lib.hid (fun W (k : Nat) (hk : k ≤ 2 ^ n) => show Calls Tryz.prog 54 #[.int .i64 (k : Int), .int .i64 (n : Int)] W fun e w' => e = .returned (.string (qstr (mkQ false k (2 ^ n)))) ∧ Below W.heap.size W w' from share4_okP (n := n) (by omega) hk W)
  have hC0 : ∀ j, j < N → cP (wsum (wN f)) N n 0 j = 0 := fun j hj => by unfold cP; omega
  have hCB : ∀ i j, cP (wsum (wN f)) N n i j ≤ i := fun i j => by unfold cP; omega
  have hCE : ∀ j, j < N → cP (wsum (wN f)) N n (2 ^ n) j = cntP (wsum (wN f)) N n j := fun j hj => cP_all hs hj
  have hLA := late_all (n := n) hs
  have hM256 : 2 ^ n ≤ 256 := Nat.pow_le_pow_right (n := 2) (by omega) hn
  have hM0 : 2 ^ n ≠ 0 := Nat.pos_iff_ne_zero.1 (Nat.pow_pos (by omega))
  have hcl : ∀ j, j < N → cntP (wsum (wN f)) N n j ≤ 2 ^ n := fun j hj => by rw [← hCE j hj]; exact hCB _ _
  have hSLN := sortI_len (lawL (cntP (wsum (wN f)) N n) (lateP (wsum (wN f)) N n) (2 ^ n) N)
  have hML := law_len (cntP (wsum (wN f)) N n) (lateP (wsum (wN f)) N n) (2 ^ n) N
  have hLL := law_size (cntP (wsum (wN f)) N n) (lateP (wsum (wN f)) N n) (2 ^ n) N
  have hGE : ∀ j x y, (sortI (lawL (cntP (wsum (wN f)) N n) (lateP (wsum (wN f)) N n) (2 ^ n) N))[j]? = some x → (sortI (lawL (cntP (wsum (wN f)) N n) (lateP (wsum (wN f)) N n) (2 ^ n) N))[j + 1]? = some y → Op.bytesLess x.1.toList y.1.toList = true := fun j x y hx hy => sort_ge (law_nodup _ _ _ _) hx hy
  have hMEM : ∀ i, i < N → cntP (wsum (wN f)) N n i ≠ 0 → (dstr i, qstr (mkQ false (cntP (wsum (wN f)) N n i) (2 ^ n))) ∈ sortI (lawL (cntP (wsum (wN f)) N n) (lateP (wsum (wN f)) N n) (2 ^ n) N) := fun i hi hc =>
    (sortI_perm _).mem_iff.2 (List.mem_append_left _ (items_mem.2 ⟨i, hi, hc, rfl⟩))
  have hLTM : lateP (wsum (wN f)) N n ≠ 0 → (lateS, qstr (mkQ false (lateP (wsum (wN f)) N n) (2 ^ n))) ∈ sortI (lawL (cntP (wsum (wN f)) N n) (lateP (wsum (wN f)) N n) (2 ^ n) N) := fun h0 =>
    (sortI_perm _).mem_iff.2 (List.mem_append_right _ (by rw [if_neg h0]; exact List.mem_singleton.2 rfl))
  generalize sortI (lawL (cntP (wsum (wN f)) N n) (lateP (wsum (wN f)) N n) (2 ^ n) N) = SL at *
  generalize (lawL (cntP (wsum (wN f)) N n) (lateP (wsum (wN f)) N n) (2 ^ n) N).length = M at *
  generalize cP (wsum (wN f)) N n = cf at *
  generalize cntP (wsum (wN f)) N n = c at *
  generalize lateP (wsum (wN f)) N n = lt at *
  clear h hw htab hN hlg hl hs
  generalize 2 ^ n = M2 at *
  have HC0 := Lib.hid hC0
  have HCB := Lib.hid hCB
  have HCE := Lib.hid hCE
  have HCL := Lib.hid hcl
  have HLA := Lib.hid hLA
  have HLM := Lib.hid (show lt ≤ M2 by omega)
  have HM := Lib.hid (And.intro hM256 hM0)
  have HSLN := Lib.hid hSLN
  have HML := Lib.hid (show M ≤ 65 by omega)
  have HLL := Lib.hid hLL
  have HGE := Lib.hid hGE
  have HMEM := Lib.hid hMEM
  have HLTM := Lib.hid hLTM
  have HH := Lib.hid (fun (W : World) (b : Nat) (v : Value) (x : Item) (hr : W.ownsRow b 54 2 v M (cellsI SL)) (hx : x ∈ SL) => Has_any (by rw [hSLN]; exact hr) hx (by omega))
  have hN64 : (N : Int) ≤ 64 := by omega
  obtain ⟨i0, hi0, hz0, hz1, hz2⟩ := info_parts infoIntK
  clear hC0 hCB hCE hcl hLA hM256 hM0 hSLN hML hLL hGE hMEM hLTM
  go_enter Tryz.func7, Tryz.ntmps7
  go_wp2_with fail
  refine HL.out.mono ?_
  rintro e w1 ⟨rfl, hb⟩
  have HB := Lib.hid hb
  clear hb HL
  go_wp2_with fail
  refine (HLG.out _ HB.out).mono ?_
  rintro e w2 ⟨rfl, rfl⟩
  clear HLG
  go_wp2_with fail
  refine (HLAW.out _ HB.out).mono ?_
  rintro e w2 ⟨v, rfl, hrow, hb⟩
  replace HB := Lib.hid (HB.out.trans (hb.mono HB.out.size))
  obtain ⟨vo, vc, rfl, _⟩ := row_shape hrow
  have HROW := Lib.hid hrow
  clear hb HLAW hrow
  go_wp2_with fail
  refine (HLATE.out _ HB.out).mono ?_
  rintro e w3 ⟨rfl, hb⟩
  replace HB := Lib.hid (HB.out.trans (hb.mono HB.out.size))
  replace HROW := Lib.hid (row_belowP HROW.out hb)
  clear hb HLATE
  go_wp2_with fail
  refine (HALL.out _).mono ?_
  rintro e w4 ⟨al, rfl, hal, hb⟩
  replace HB := Lib.hid (HB.out.trans (hb.mono HB.out.size))
  replace HROW := Lib.hid (row_belowP HROW.out hb)
  obtain ⟨ga, ca, rfl, _, hga⟩ := row_formP hal HM.out.2
  have HCELL := Lib.hid (show ∀ i, i < M2 → w4.cell? ⟨ga, i, none⟩ = some (.string (wstr i n)) from fun i hi => by
    have := hal.cells (g := ga) rfl i (.string (wstr i n)) (wsL_getP hi)
    rw [Addr.add_lit, Nat.zero_add] at this; exact this)
  have HGA := Lib.hid hga
  clear hb HALL hal hga
  go_wp2_with fail
  obtain ⟨w5, hrun, hown, hgrow⟩ := run_make_full (P := Tryz.prog) w4 w4.heap.size 68 3 i0 (.int .i64 0) 1 Tryz.underlying68 hi0 hz0 hz1 .i64 .i64 N (by rw [hz2]; omega) (by unfold maxLen; omega) (Nat.le_refl _)
  rw [hrun]
  simp only [Result.andThen]
  rw [Oper.upon_value]
  have HAR := Lib.hid (And.intro (KArr.made (base := w4.heap.size) hown) ((Below.refl w4.heap.size w4).grown hgrow (Nat.le_refl _) (fun k hk => by cases hk)))
  clear hrun hown hgrow hi0 hz0 hz1 hz2
  go_wp2_with fail
  go_loopw [12, 13] (fun nv iv wr => ∃ i nn : Nat, i ≤ M2 ∧ nv = .int .i64 (nn : Int) ∧ iv = .int .i64 (i : Int) ∧ KArr wr w4.heap.size N (cf i) ∧ Hid (nn + wsum (cf i) N = i) ∧ Below w4.heap.size w4 wr) (fun _ iv _ => M2 - (intOf iv).toNat)
  case atStart => exact ⟨0, 0, Nat.zero_le _, rfl, rfl, HAR.out.1.congr (fun j hj => (HC0.out j hj).symm), Lib.hid (by rw [wsum_z N HC0.out]), HAR.out.2⟩
  case round =>
    obtain ⟨i, nn, hi, rfl, rfl, hka, HNN, hbr⟩ := hrel
    clear HAR HC0
    by_cases hlt : i < M2
    · obtain ⟨d, v, u, hcase, hD⟩ := HDR.out i hlt
      have c0 : wr.cell? ⟨ga, i, none⟩ = some (.string (wstr i n)) := (hbr.cell (p := ⟨ga, i, none⟩) HGA.out).trans (HCELL.out i hlt)
      have HD := Lib.hid (show Calls Tryz.prog 37 #[.slice ao N cap, .string (wstr i n)] wr fun e w' => e = .returned (.tuple #[.agg #[.bool d, .int .i64 v, .int .i64 u], .int .i64 0]) ∧ Below wr.heap.size wr w' from hD wr (HB.out.trans (hbr.mono HB.out.size)))
      have HK := Lib.hid hka
      have HBB := Lib.hid hbr
      have hnn : nn ≤ i := by have := HNN.out; omega
      have hM := HM.out.1
      clear hka hbr hD HDR HSH HGE HMEM HLTM HH HLL HML HSLN HLM HLA HCL HCE
      rcases hcase with ⟨rfl, hv, hup, hoth⟩ | ⟨rfl, rfl, hoth⟩
      · have HU := Lib.hid (And.intro hup hoth)
        have hcb := HCB.out i v
        clear hup hoth HCB
        generalize hcv : cf i v = a at hcb
        have HCV := Lib.hid hcv
        clear hcv
        go_wp2_with fail
        refine HD.out.mono ?_
        rintro e w6 ⟨rfl, hb6⟩
        have hbx := hb6.alloc hb6.size (drO true v u)
        obtain ⟨x0, x1, x2⟩ := (DR.new w6 true v u).c
        have hk6 := HK.out.below hbx
        have y0 := hk6.cell hv
        rw [HCV.out] at y0
        have f0 := hk6.free v
        have HK6 := Lib.hid hk6
        have HB6 := Lib.hid (HBB.out.trans (hbx.mono HBB.out.size))
        clear hb6 hbx hk6 HD HK HBB
        go_wp2_with fail
        go_roundw
        case rel => exact ⟨i + 1, nn, by omega, rfl, by go_num, (HK6.out.stI v (a + 1) _ (by omega)).congr (fun j hj => by
            by_cases e : j = v
            · show (if j = v then a + 1 else cf i j) = _
              rw [if_pos e, e, HU.out.1, HCV.out]
            · show (if j = v then a + 1 else cf i j) = _
              rw [if_neg e]; exact (HU.out.2 j hj e).symm), Lib.hid (by have h1 := HNN.out; rw [wsum_up hv HU.out.2 HU.out.1]; omega), HB6.out.setCell (p := ⟨w4.heap.size, v, none⟩) (Nat.le_refl _) _⟩
        case measure => simp [intOf]; omega
      · have HU := Lib.hid hoth
        clear hoth HCB
        go_wp2_with fail
        refine HD.out.mono ?_
        rintro e w6 ⟨rfl, hb6⟩
        have hbx := hb6.alloc hb6.size (drO false 0 u)
        obtain ⟨x0, x1, x2⟩ := (DR.new w6 false 0 u).c
        have HK6 := Lib.hid (HK.out.below hbx)
        have HB6 := Lib.hid (HBB.out.trans (hbx.mono HBB.out.size))
        clear hb6 hbx HD HK HBB
        go_wp2_with fail
        go_roundw
        case rel => exact ⟨i + 1, nn + 1, by omega, by go_num, by go_num, HK6.out.congr (fun j hj => (HU.out j hj).symm), Lib.hid (by have h1 := HNN.out; rw [wsum_congr HU.out]; omega), HB6.out⟩
        case measure => simp [intOf]; omega
    · obtain rfl : M2 = i := by omega
      obtain rfl : lt = nn := by
        have h1 := HNN.out
        rw [wsum_congr HCE.out] at h1
        have h2 := HLA.out
        omega
      have HKA := Lib.hid (hka.congr HCE.out)
      replace HROW := Lib.hid (row_belowP HROW.out hbr)
      replace HB := Lib.hid (HB.out.trans (hbr.mono HB.out.size))
      clear hka hbr HCE HNN HLA HDR HCELL HGA hlt hi HCB
      obtain ⟨wm, rfl⟩ : ∃ wm, wm = wr := ⟨_, rfl⟩
      go_wp2_with fail
      go_loopw [16, 17] (fun fv iv wr => ∃ k : Nat, k ≤ N ∧ fv = .int .i64 (((itemsP c M2 k).length : Nat) : Int) ∧ iv = .int .i64 (k : Int) ∧ Below wm.heap.size wm wr) (fun _ iv _ => N - (intOf iv).toNat)
      case atStart => exact ⟨0, Nat.zero_le _, rfl, rfl, Below.refl _ _⟩
      case round =>
        obtain ⟨k, hk, rfl, rfl, hb⟩ := hrel
        have hfl : (itemsP c M2 k).length ≤ k := items_len c M2 k
        by_cases hlt : k < N
        · have y0 := (HKA.out.below hb).cell hlt
          by_cases hz : c k = 0
          · have HIT := Lib.hid (show itemsP c M2 (k + 1) = itemsP c M2 k from by show itemsP c M2 k ++ (if c k = 0 then [] else _) = _; rw [if_pos hz, List.append_nil])
            rw [hz] at y0
            have HBQ := Lib.hid hb
            clear hb hz HSH HMEM HLTM HH HGE HCL
            go_wp2_with fail
            go_roundw
            case rel => exact ⟨k + 1, by omega, by rw [HIT.out], by go_num, HBQ.out⟩
            case measure => simp [intOf]; omega
          · have HIT := Lib.hid (show (itemsP c M2 (k + 1)).length = (itemsP c M2 k).length + 1 from by show (itemsP c M2 k ++ (if c k = 0 then [] else _)).length = _; rw [if_neg hz, List.length_append]; rfl)
            have hne0 : ((c k : Nat) : Int) ≠ 0 := by omega
            have hmem := HMEM.out k hlt hz
            have hck := HCL.out k hlt
            have hM := HM.out.1
            obtain ⟨p, hp⟩ : ∃ p : World → Prop, p = fun W => Below wr.heap.size wr W := ⟨_, rfl⟩
            have hmk : ∀ W, Below wr.heap.size wr W → p W := fun W hW => by rw [hp]; exact hW
            have hpp : ∀ W, p W → Below wr.heap.size wr W := fun W hW => by rw [hp] at hW; exact hW
            have hpb : ∀ x : Wp p, Below wr.heap.size wr x.val := fun x => hpp _ x.holds
            have hx0 : ∀ x : Wp p, x.val.cell? ⟨w4.heap.size, k, none⟩ = some (.int .i64 ((c k : Nat) : Int)) := fun x => (HKA.out.below (hb.trans ((hpb x).mono hb.size))).cell hlt
            have HI2 := Lib.hid (fun (x : Wp p) => (rInt_nat k (by omega) x.val).mono (R' := fun e w' => e = .returned (.string (dstr k)) ∧ ∃ y : Wp p, w' = y.val) (fun e w' ⟨h1, h2⟩ => ⟨h1, ⟨w', hmk _ ((hpb x).trans (h2.mono (hpb x).size))⟩, rfl⟩))
            have HS2 := Lib.hid (fun (x : Wp p) => (HSH.out x.val (c k) hck).mono (R' := fun e w' => e = .returned (.string (qstr (mkQ false (c k) M2))) ∧ ∃ y : Wp p, w' = y.val) (fun e w' ⟨h1, h2⟩ => ⟨h1, ⟨w', hmk _ ((hpb x).trans (h2.mono (hpb x).size))⟩, rfl⟩))
            have HH2 := Lib.hid (fun (x : Wp p) => (HH.out x.val _ _ _ (row_belowP HROW.out (hb.trans ((hpb x).mono hb.size))) hmem).mono (R' := fun e w' => e = .returned (.bool true) ∧ ∃ y : Wp p, w' = y.val) (fun e w' ⟨h1, h2⟩ => ⟨h1, ⟨w', hmk _ ((hpb x).trans (h2.mono (hpb x).size))⟩, rfl⟩))
            have HPB := Lib.hid hpb
            have hne : Nonempty (Wp p) := ⟨⟨wr, hmk _ (Below.refl _ _)⟩⟩
            have HD := Lib.hid (hmk wr.drew (Below.refl _ wr).drew)
            have HBQ := Lib.hid hb
            clear hb hz HSH HMEM HLTM HH HGE HCL hmem hck hp hmk hpp hpb
            generalize c k = ck at *
            generalize qstr (mkQ false ck M2) = sq at *
            generalize dstr k = sk at *
            go_wp2_with fail
            refine wp_region_quiet (C := fun W => ∃ x : Wp p, W = x.val) (by kernel_rfl) (by kernel_rfl) ⟨⟨wr.drew, HD.out⟩, rfl⟩ ?_
            change wpQuiet _ _ _ _ (_ :: _) _
            repeat (go_big_quiet_step (first
              | (go_at_call 53; exact HI2.out _)
              | (go_at_call 54; exact HS2.out _)
              | (go_at_call 52; exact HH2.out _)))
            refine wpQuiet_nil ?_
            rintro w6 ⟨x6, rfl⟩
            have HB6 := Lib.hid (HBQ.out.trans ((HPB.out x6).mono HBQ.out.size))
            generalize x6.val = w6 at HB6 ⊢
            clear hx0 hne HBQ HPB HD HI2 HS2 HH2 y0
            go_wp2_with fail
            go_roundw
            case rel => exact ⟨k + 1, by omega, by rw [HIT.out]; go_num, by go_num, HB6.out⟩
            case measure => simp [intOf]; omega
        · obtain rfl : N = k := by omega
          have HROW2 := Lib.hid (row_belowP HROW.out hb)
          have HB2 := Lib.hid (HB.out.trans (hb.mono HB.out.size))
          have HLL2 := Lib.hid HLL.out
          have hM := HM.out.1
          have hltM := HLM.out
          clear hb HROW HB HKA HMEM HCL hlt hk
          by_cases hlz : lt = 0
          · have hMM : (itemsP c M2 N).length = M := by have := HLL2.out; rw [if_pos hlz] at this; omega
            generalize (itemsP c M2 N).length = FN at hMM ⊢
            obtain rfl : M = FN := hMM.symm
            subst hlz
            generalize hsl : qstr (mkQ false 0 M2) = sL at *
            have HSL := Lib.hid hsl
            clear hsl
            go_wp2_with fail
            have HBT := Lib.hid (HB2.out)
            have HRT := Lib.hid (HROW2.out)
            generalize wr = wt at HBT HRT ⊢
            clear HB2 HROW2 HLL HLL2 HH HLTM
            go_loopw [18] (fun iv wr => ∃ j : Nat, j ≤ M ∧ iv = .int .i64 ((j : Int) + 1) ∧ Below wt.heap.size wt wr) (fun iv _ => M + 1 - (intOf iv).toNat)
            case atStart => exact ⟨0, Nat.zero_le _, rfl, Below.refl _ _⟩
            case round =>
              obtain ⟨j, hj, rfl, hb⟩ := hrel
              by_cases hlt : j + 1 < M
              · obtain ⟨x, hx⟩ : ∃ x, SL[j]? = some x := ⟨SL[j]'(by rw [HSLN.out]; omega), List.getElem?_eq_getElem _⟩
                obtain ⟨y, hy⟩ : ∃ y, SL[j + 1]? = some y := ⟨SL[j + 1]'(by rw [HSLN.out]; omega), List.getElem?_eq_getElem _⟩
                have hge := HGE.out j x y hx hy
                have hrw := row_belowP HRT.out hb
                obtain ⟨gd, cd, hgd, _⟩ := mass_formP hrw (by omega)
                simp only [Value.slice.injEq, true_and] at hgd
                obtain ⟨rfl, rfl⟩ := hgd
                obtain ⟨x1, x2⟩ := x
                obtain ⟨y1, y2⟩ := y
                obtain ⟨c0, c1⟩ := mass_cellsP hrw hx
                obtain ⟨d0, d1⟩ := mass_cellsP hrw hy
                have HBB := Lib.hid hb
                have hMb : (M : Int) ≤ 1000 := by have := HML.out; omega
                clear hb hrw hx hy HRT HBT HGE HSH
                go_wp2_with fail
                go_quiet (fail)
                go_wp2_with fail
                go_roundw
                case rel => exact ⟨j + 1, by omega, by go_num, below_drewN HBB.out _⟩
                case measure => simp [intOf]; omega
              · have HBB := Lib.hid (HBT.out.trans (hb.mono HBT.out.size))
                have HS3 := Lib.hid (show Calls Tryz.prog 54 #[.int .i64 0, .int .i64 (n : Int)] wr (fun e w1 => e = .returned (.string (qstr (mkQ false 0 M2))) ∧ Below wr.heap.size wr w1) from HSH.out wr 0 (Nat.zero_le _))
                have hMb : (M : Int) ≤ 1000 := by have := HML.out; omega
                clear hb HRT HBT HGE HSH
                rw [HSL.out] at HS3
                go_wp2_with fail
                refine HS3.out.mono ?_
                rintro e w9 ⟨rfl, hb⟩
                have HBF := Lib.hid (HBB.out.trans (hb.mono HBB.out.size))
                clear hb HS3 HBB
                go_wp2_with fail
                go_ret
                exact ⟨ret_bool (by simp), HBF.out⟩
          · have hMM : (itemsP c M2 N).length + 1 = M := by have := HLL2.out; rw [if_neg hlz] at this; omega
            generalize (itemsP c M2 N).length = FN at hMM ⊢
            have hlz2 : (0 : Int) < (lt : Int) := by omega
            have hFN : (FN : Int) ≤ 1000 := by have := HML.out; omega
            have HMM := Lib.hid (show (FN : Int) + 1 = (M : Int) by omega)
            have HH2 := Lib.hid (HH.out wr _ _ _ HROW2.out (HLTM.out hlz))
            generalize hsl : qstr (mkQ false lt M2) = sL at *
            have HSL := Lib.hid hsl
            clear hsl
            go_wp2_with fail
            refine HH2.out.mono ?_
            rintro e w7 ⟨rfl, hb7⟩
            replace HB2 := Lib.hid (HB2.out.trans (hb7.mono HB2.out.size))
            replace HROW2 := Lib.hid (row_belowP HROW2.out hb7)
            clear hb7 HH2
            go_wp2_with fail
            rw [HMM.out]
            clear hMM HMM
            have HBT := Lib.hid (HB2.out)
            have HRT := Lib.hid (HROW2.out)
            generalize w7 = wt at HBT HRT ⊢
            clear HB2 HROW2 HLL HLL2 HH HLTM
            go_loopw [18] (fun iv wr => ∃ j : Nat, j ≤ M ∧ iv = .int .i64 ((j : Int) + 1) ∧ Below wt.heap.size wt wr) (fun iv _ => M + 1 - (intOf iv).toNat)
            case atStart => exact ⟨0, Nat.zero_le _, rfl, Below.refl _ _⟩
            case round =>
              obtain ⟨j, hj, rfl, hb⟩ := hrel
              by_cases hlt : j + 1 < M
              · obtain ⟨x, hx⟩ : ∃ x, SL[j]? = some x := ⟨SL[j]'(by rw [HSLN.out]; omega), List.getElem?_eq_getElem _⟩
                obtain ⟨y, hy⟩ : ∃ y, SL[j + 1]? = some y := ⟨SL[j + 1]'(by rw [HSLN.out]; omega), List.getElem?_eq_getElem _⟩
                have hge := HGE.out j x y hx hy
                have hrw := row_belowP HRT.out hb
                obtain ⟨gd, cd, hgd, _⟩ := mass_formP hrw (by omega)
                simp only [Value.slice.injEq, true_and] at hgd
                obtain ⟨rfl, rfl⟩ := hgd
                obtain ⟨x1, x2⟩ := x
                obtain ⟨y1, y2⟩ := y
                obtain ⟨c0, c1⟩ := mass_cellsP hrw hx
                obtain ⟨d0, d1⟩ := mass_cellsP hrw hy
                have HBB := Lib.hid hb
                have hMb : (M : Int) ≤ 1000 := by have := HML.out; omega
                clear hb hrw hx hy HRT HBT HGE HSH
                go_wp2_with fail
                go_quiet (fail)
                go_wp2_with fail
                go_roundw
                case rel => exact ⟨j + 1, by omega, by go_num, below_drewN HBB.out _⟩
                case measure => simp [intOf]; omega
              · have HBB := Lib.hid (HBT.out.trans (hb.mono HBT.out.size))
                have HS3 := Lib.hid (HSH.out wr lt HLM.out)
                have hMb : (M : Int) ≤ 1000 := by have := HML.out; omega
                clear hb HRT HBT HGE HSH
                rw [HSL.out] at HS3
                go_wp2_with fail
                refine HS3.out.mono ?_
                rintro e w9 ⟨rfl, hb⟩
                have HBF := Lib.hid (HBB.out.trans (hb.mono HBB.out.size))
                clear hb HS3 HBB
                go_wp2_with fail
                go_ret
                exact ⟨ret_bool (by simp), HBF.out⟩

theorem pcounts_any {ao : Option Addr} {N cap : Nat} {f : Nat → ByteArray} {n : Int} {w : World} (h : PRow w ao N f) (hN : N ≤ 9223372036854775807) (htab : Tab w) :
    Calls Tryz.prog 7 #[.slice ao N cap, .int .i64 n] w fun e w' => e = .returned (.bool true) ∧ Below w.heap.size w w' := by
  cases hl : wLong f N with
  | true => exact pcounts_far1 h hN htab hl
  | false =>
    by_cases h2 : n < 0
    · exact pcounts_far2 h hN htab hl h2
    by_cases h3 : 8 < n
    · exact pcounts_far3 h hN htab hl h2 h3
    by_cases he : pickE f N = 0
    · obtain ⟨m, rfl⟩ : ∃ m : Nat, n = (m : Int) := ⟨n.toNat, by omega⟩
      exact pcounts_yes h (pickE_ok he) hN hl (by omega) htab
    · exact pcounts_err h hN htab hl h2 h3 he

end Go.Proofs.YtgnmhijffppkoaaGreatDoor
