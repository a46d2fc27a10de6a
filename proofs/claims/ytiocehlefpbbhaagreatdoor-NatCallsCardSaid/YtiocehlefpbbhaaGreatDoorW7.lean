/-
  The contract of Parse.
-/
import Derived.Test.YtiocehlefpbbhaaGreatDoorW6
namespace Go.Proofs.YtiocehlefpbbhaaGreatDoor
open Go.RowKit NV

/-- The limbs from 0 on, k of them. -/
def lvs (n k : Nat) : List Value := (List.range k).map (fun j => Value.int .u64 ((dg n j : Nat) : Int))

theorem lvs_succ (n k : Nat) : lvs n (k + 1) = lvs n k ++ [.int .u64 ((dg n k : Nat) : Int)] := by simp [lvs, List.range_succ]

theorem owns_below {w w' : World} {base : Nat} {e : TypeId} {size : Nat} {v : Value} {n : Nat} {xs : List Value} (h : w.ownsRow base e size v n xs) (hb : Below w.heap.size w w') : w'.ownsRow base e size v n xs := by
  refine ⟨h.1, ?_⟩
  rcases h.2 with h' | ⟨g, cap, cur, rfl, hbg, hg, rest⟩
  · exact .inl h'
  · exact .inr ⟨g, cap, cur, rfl, hbg, (hb.block g (Array.getElem?_eq_some_iff.1 hg).1).trans hg, rest⟩

theorem owns_trim {w : World} {base g k c n : Nat} (h : w.ownsRow base 65 1 (.slice (some ⟨g, 0, none⟩) k c) k (lvs n k)) (hk : ln n ≤ k) : Own w base (.slice (some ⟨g, 0, none⟩) (ln n) c) n := by
  refine ⟨⟨g, c, rfl⟩, by simp, ?_⟩
  rcases h.2 with ⟨h', _⟩ | ⟨g', cap, cur, h', hb, hg, hnc, hcm, hcs, htake⟩
  · simp at h'
  · simp only [Value.slice.injEq, Option.some.injEq, Addr.mk.injEq, and_true, true_and] at h'
    obtain ⟨rfl, rfl⟩ := h'
    refine .inr ⟨g, c, cur, rfl, hb, hg, by omega, hcm, hcs, ?_⟩
    have e : cur.toList.take (ln n * 1) = (cur.toList.take (k * 1)).take (ln n) := by rw [List.take_take]; congr 1; omega
    rw [e, htake, lvs, ← List.map_take, List.take_range, Nat.min_eq_left hk]

/-- Byte j of a text, and the number that its first q digits are. -/
def bt (l : List UInt8) (j : Nat) : Nat := (l.getD j 0).toNat
def tv (l : List UInt8) (q : Nat) : Nat := dv (l.take q)

theorem bytes_cell {w : World} {g : Nat} (hg : g = w.heap.size) (s : ByteArray) (cap : Nat) (e : TypeId) (fr : Nat × Nat) {j : Nat} (hj : j < s.size) :
    ((w.alloc (.cells (bytesRow s cap) e fr)).drew).cell? ⟨g, j, none⟩ = some (.int .u8 ((bt s.data.toList j : Nat) : Int)) := by
  have h1 : ((w.alloc (.cells (bytesRow s cap) e fr)).drew).heap[g]? = some (.cells (bytesRow s cap) e fr) := by
    show (w.heap.push _)[g]? = _
    rw [hg]; simp
  rw [cell_of_row _ g j _ _ _ h1]
  have h2 := byte_at s j hj
  have hj' : j < s.data.size := hj
  rw [bytesRow, Array.getElem?_append_left (by simpa using hj'), Array.getElem?_map]
  rw [Array.getElem?_toList] at h2
  rw [h2]
  simp [bt, List.getD, h2]

theorem take_getD (l : List UInt8) {j : Nat} (h : j < l.length) : l.take (j + 1) = l.take j ++ [l.getD j 0] := by
  rw [List.take_add_one]; simp [List.getD, h]

theorem tv_succ (l : List UInt8) {j : Nat} (h : j < l.length) : tv l (j + 1) = 10 * tv l j + (bt l j - 48) := by
  rw [tv, take_getD l h, dv_snoc]; rfl

theorem digs_getD {l : List UInt8} (hd : Digs l) {j : Nat} (h : j < l.length) : 48 ≤ bt l j ∧ bt l j ≤ 57 := by
  have : l.getD j 0 ∈ l := by simp [List.getD, h]
  exact hd _ this

theorem tv_lt {l : List UInt8} (hd : Digs l) {j : Nat} (h : j ≤ 9) : tv l j < 1000000000 := by
  unfold tv
  have h1 := dv_lt (hd.take j)
  have h2 : (10 : Nat) ^ (l.take j).length ≤ 10 ^ 9 := Nat.pow_le_pow_right (by omega) (by rw [List.length_take]; omega)
  omega

set_option maxHeartbeats 1600000 in
set_option maxRecDepth 100000 in
/-- Parse returns the number that a text of digits is, in memory of its own. -/
theorem eparse_any (s : ByteArray) (w : World) (hs : s.size ≤ 1000000) (hd : Digs s.data.toList) :
    Calls Tryz.prog 50 #[.string s] w fun e w' => ∃ v, e = .returned v ∧ Own w' w.heap.size v (dv s.data.toList) ∧ Below w.heap.size w w' := by
  obtain ⟨i0, hi, hz0, hz1, hz2⟩ := info_parts info72
  have HSZ := Lib.hid (Go.Lib.size_eq s)
  obtain ⟨n, hn⟩ : ∃ n, n = dv s.data.toList := ⟨_, rfl⟩
  rw [← hn]
  have HN := Lib.hid hn
  clear hn
  go_enter Tryz.func50, Tryz.ntmps50
  go_wp2_with (at_make; refine wpList_make_own _ rfl _ _ 40 rfl w.heap.size 65 i0 (.int .u64 0) 1 Tryz.underlying40 hi hz0 hz1 _ _ _ (s.size / 9 + 1) rfl rfl (by omega) (by rw [hz2]; omega) (by unfold maxLen; omega) (by simp) ?_)
  intro w1 hown1 hgrow1
  have hb1 : Below w.heap.size w w1 := (Below.refl _ _).grown hgrow1 (by simp) (fun k hk => by cases hk)
  go_wp2_with fail
  go_loopw [3, 4] (fun v e wr => ∃ k : Nat, 9 * k < s.size + 9 ∧ k ≤ s.size / 9 + 1 ∧ v = .slice (some ⟨w.heap.size, 0, none⟩) k (s.size / 9 + 1) ∧ e = .int .i64 ((s.size : Int) - 9 * (k : Int)) ∧ wr.ownsRow w.heap.size 65 1 (.slice (some ⟨w.heap.size, 0, none⟩) k (s.size / 9 + 1)) k (lvs n k) ∧ Below w.heap.size w wr) (fun _ e _ => (intOf e).toNat)
  case atStart => exact ⟨0, by omega, by omega, rfl, by go_num, hown1, hb1⟩
  case round =>
    obtain ⟨k, hk, hk2, rfl, rfl, hown, hbr⟩ := hrel
    clear hown1 hgrow1 hb1
    obtain ⟨wo, rfl⟩ : ∃ wo : World, wo = wr := ⟨_, rfl⟩
    by_cases hlt : 9 * k < s.size
    · obtain ⟨e, he⟩ : ∃ e : Nat, e = s.size - 9 * k := ⟨_, rfl⟩
      obtain ⟨lo, hlo⟩ : ∃ lo : Nat, lo = e - 9 := ⟨_, rfl⟩
      have he1 : (e : Int) = (s.size : Int) - 9 * (k : Int) := by omega
      have G1 := Lib.hid (show (s.size : Int) - 9 * (k : Int) - 9 < 0 → (lo : Int) = 0 by omega)
      have G2 := Lib.hid (show (0 : Int) ≤ (s.size : Int) - 9 * (k : Int) - 9 → (lo : Int) = (s.size : Int) - 9 * (k : Int) - 9 by omega)
      have HP := Lib.hid (dv_piece hd (e := e) (lo := lo) (k := k) (by rw [← HSZ.out]; omega) hlo)
      have hlo1 : (lo : Int) ≤ (s.size : Int) - 9 * (k : Int) := by omega
      have hlo2 : (s.size : Int) - 9 * (k : Int) ≤ (lo : Int) + 9 := by omega
      clear hlo he
      have hcv := fun (wx : World) (sx : ByteArray) => run_bytes_of_string (P := Tryz.prog) wx 9 79 5 sx Tryz.underlying9 Tryz.underlying79 Tryz.underlying5
      go_wp2_with fail
      refine (greatest_int _ _ (lo : Int) G1.out G2.out _ wo.heap.size (cell_at_new rfl _ _)).mono ?_
      rintro e' w2 ⟨rfl, rfl⟩
      go_wp2_with fail
      obtain ⟨m, hm⟩ : ∃ m, m = s.size - 9 * k - lo := ⟨_, rfl⟩
      rw [← hm]
      have hm9 : m ≤ 9 := by omega
      have hm1 : ((s.size : Int) - 9 * (k : Int)).toNat = s.size - 9 * k := by omega
      obtain ⟨t, ht⟩ : ∃ t, t = s.extract lo (s.size - 9 * k) := ⟨_, rfl⟩
      have htl : t.data.toList = (s.data.toList.take (s.size - 9 * k)).drop lo := by
        rw [ht, Go.Lib.extract_data]; exact List.drop_take.symm
      have htz : t.size = m := by
        rw [Go.Lib.size_eq, htl, List.length_drop, List.length_take, ← HSZ.out]; omega
      have hdt : Digs t.data.toList := by rw [htl]; exact (hd.take _).drop _
      have htn : dv t.data.toList = dg n k := by rw [htl, HN.out, ← HP.out, show e = s.size - 9 * k by omega]
      have htlen : t.data.toList.length = m := by rw [← Go.Lib.size_eq, htz]
      rw [← ht]
      have hcells : ∀ j, j < m → (((wo.alloc (Obj.cells #[Value.int IntKind.i64 0] 3)).alloc (Obj.cells (bytesRow t (grownCap (wo.alloc (Obj.cells #[Value.int IntKind.i64 0] 3)) m 0 5)) 5 ((bytesRow t (grownCap (wo.alloc (Obj.cells #[Value.int IntKind.i64 0] 3)) m 0 5)).size, (bytesRow t (grownCap (wo.alloc (Obj.cells #[Value.int IntKind.i64 0] 3)) m 0 5)).size + 1))).drew).cell? ⟨wo.heap.size + 1, j, none⟩ = some (.int .u8 ((bt t.data.toList j : Nat) : Int)) := fun j hj => bytes_cell (by simp) t _ _ _ (by omega)
      have hbW : Below wo.heap.size wo (((wo.alloc (Obj.cells #[Value.int IntKind.i64 0] 3)).alloc (Obj.cells (bytesRow t (grownCap (wo.alloc (Obj.cells #[Value.int IntKind.i64 0] 3)) m 0 5)) 5 ((bytesRow t (grownCap (wo.alloc (Obj.cells #[Value.int IntKind.i64 0] 3)) m 0 5)).size, (bytesRow t (grownCap (wo.alloc (Obj.cells #[Value.int IntKind.i64 0] 3)) m 0 5)).size + 1))).drew) := (((Below.refl _ _).alloc (Nat.le_refl _) _).alloc (by simp) _).drew
      generalize (((wo.alloc (Obj.cells #[Value.int IntKind.i64 0] 3)).alloc (Obj.cells (bytesRow t (grownCap (wo.alloc (Obj.cells #[Value.int IntKind.i64 0] 3)) m 0 5)) 5 ((bytesRow t (grownCap (wo.alloc (Obj.cells #[Value.int IntKind.i64 0] 3)) m 0 5)).size, (bytesRow t (grownCap (wo.alloc (Obj.cells #[Value.int IntKind.i64 0] 3)) m 0 5)).size + 1))).drew) = W at hcells hbW ⊢
      have HT := Lib.hid htn
      have HL := Lib.hid htlen
      clear htn htlen htz htl hm hcv he1 G1 G2 HP ht
      generalize t.data.toList = pl at *
      have hownW := owns_below hown hbW
      go_loop [5, 28] (fun c i => ∃ q : Nat, q ≤ m ∧ i = .int .i64 q ∧ c = .int .u64 ((tv pl q : Nat) : Int)) (fun _ i => m - (intOf i).toNat)
      case atStart => exact ⟨0, Nat.zero_le _, rfl, rfl⟩
      case round =>
        obtain ⟨q, hq, rfl, rfl⟩ := hrel
        by_cases hqm : q < m
        · have c1 := hcells q hqm
          have d1 := digs_getD hdt (j := q) (by rw [HL.out]; exact hqm)
          have d2 := tv_lt hdt (j := q) (by omega)
          have HS := Lib.hid (show ((tv pl q : Nat) : Int) * 10 + ((bt pl q : Nat) - 48 : Int) = ((tv pl (q + 1) : Nat) : Int) by
            rw [tv_succ _ (by rw [HL.out]; exact hqm)]; omega)
          clear hcells
          go_wp2_with fail
          go_round
          case rel => exact ⟨q + 1, by omega, by go_num, by rw [HS.out]⟩
          case measure => simp [intOf]; omega
        · obtain rfl : q = m := by omega
          have hq : tv pl q = dg n k := by
            rw [← HT.out, tv, List.take_of_length_le (by rw [HL.out]; exact Nat.le_refl _)]
          have hbw := hbr.trans (hbW.mono hbr.size)
          clear hcells
          go_wp2_with (at_builtin; refine wpList_append_fits _ rfl (.tmp 39) (.tmp 41) 40 rfl w.heap.size 65 i0 1 Tryz.underlying40 hi hz1 w.heap.size k (s.size / 9 + 1) _ rfl (hownW.alloc _) ⟨W.heap.size, 0, none⟩ 1 1 [.int .u64 ((dg n k : Nat) : Int)] rfl rfl (cell_one_new _ _ _) (by intro u hu; simp at hu; subst hu; rfl) (by omega) ?_)
          intro w3 hown3 hgrow3
          clear hq
          go_wp2_with fail
          go_roundw
          case rel => exact ⟨k + 1, by omega, by omega, rfl, by go_num, by rw [lvs_succ]; exact hown3, (hbw.alloc hbw.size _).grown hgrow3 (by simp; have := hbw.size; omega) (fun k hk => by cases hk; exact Nat.le_refl _)⟩
          case measure => simp [intOf]; omega
    · have hln : n < B ^ k := by rw [HN.out]; exact dv_lt_pow hd (by rw [← HSZ.out]; omega)
      have HC := Lib.hid (show ∀ j, j < k → wo.cell? ⟨w.heap.size, j, none⟩ = some (.int .u64 ((dg n j : Nat) : Int)) from fun j hj => by
        rw [hown.cellAt j (by omega)]; simp [lvs, hj])
      go_wp2_with fail
      refine (trim_any (n := n) (by omega) (by omega) hln HC.out).mono ?_
      rintro e' w2 ⟨rfl, rfl⟩
      go_wp2_with fail
      go_ret
      exact ⟨_, rfl, owns_trim hown (ln_le hln), hbr⟩

end Go.Proofs.YtiocehlefpbbhaaGreatDoor
