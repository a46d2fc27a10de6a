/-
  Rows of words and of columns that are the call's own.
-/
import Derived.Test.YtgehldadfaonbaaDoorRB
import Derived.Laws.OwnMore
import Derived.Maps.AppendAt
import Derived.Deep.AppendLies
import Derived.OwnWalk
namespace Go.Proofs.YtgehldadfaonbaaDoor
open Go.RowKit Go.Shelf Go.ChangeMaps Go.Maps

section
variable {P : Program}
/-- append; what is appended may be nothing. -/
theorem wpList_append_rowL {ops : Array Oper} {rest : List Oper} {o : Oper} {a : Act} {w : World} {Q : Exit → Act → World → Prop} (hgd : o.guard = none) (s x : Operand) (t : TypeId)
    (ho : o.op = .call { callee := .builtin .append, args := #[s, x], argTypes := #[t, t] })
    (base : Nat) (e : TypeId) (i : TypeInfo) (z : Value) (size bytes : Nat) (ht : P.underlying t = some (.slice e)) (hi : P.info? e = some i) (hz : i.zero = some z)
    (hsize : i.size = size) (hby : i.bytes = bytes) (hzs : z.cells.size = size) (hsz : 0 < size)
    (v : Value) (n : Nat) (xs : List Value) (hs : a.eval s = v) (hown : w.ownsRow base e size v n xs)
    (ao : Option Addr) (m c : Nat) (news : List Value) (hx : a.eval x = .slice ao m c) (hl : news.length = m * size) (hnews : ∀ ad, ao = some ad → ∀ j u, news[j]? = some u → w.cell? (ad.add j) = some u) (hnone : ao = none → m = 0 ∧ c = 0) (h1 : ∀ u ∈ news, u.oneCell' = true)
    (h63 : n + m ≤ maxLen) (hbytes : (n + m) * bytes ≤ 140737488355328) (hbase : base ≤ w.heap.size)
    (h : ∀ v' w', w'.ownsRow base e size v' (n + m) (xs ++ news) → w.grownBy w' v.ownBlock → (v'.ownBlock = v.ownBlock ∨ v'.ownBlock = some w.heap.size) → wpList P ops Q rest (a.put o.dst v') w') :
    wpList P ops Q (o :: rest) a w := by
  refine wpList_plain hgd fun K hK => ?_
  cases ao with
  | none =>
    obtain ⟨rfl, rfl⟩ := hnone rfl
    have hr := run_append_owned_none (P := P) (w := w) base t o.type e i size ht hi v n xs hown
    obtain rfl : news = [] := by
      cases news with
      | nil => rfl
      | cons _ _ => simp at hl
    unfold Oper.wp execOp
    simp only [ho, resolve, invoke, builtin, Sem.run_bind, Sem.run_pure, Result.andThen_ok, List.map_toArray, List.map_cons, List.map_nil, hs, hx, hr]
    exact hK _ _ (h v w (by rw [List.append_nil]; exact hown) ⟨rfl, rfl, rfl, Nat.le_refl _, fun _ _ _ => rfl⟩ (.inl rfl))
  | some ad =>
    obtain ⟨v', w', hr, h2, h3, _, h5⟩ := run_append_own_at (P := P) w base t o.type e i z size bytes ht hi hz hsize hby hzs hsz v n xs hown ad m c news hl (hnews ad rfl) h1 h63 hbytes hbase
    unfold Oper.wp execOp
    simp only [ho, resolve, invoke, builtin, Sem.run_bind, Sem.run_pure, Result.andThen_ok, List.map_toArray, List.map_cons, List.map_nil, hs, hx, hr]
    exact hK _ _ (h v' w' h2 h3 h5)
end

theorem infoK : (Tryd.prog.info? 9).map (fun i => (i.zero, i.size, i.bytes)) = some (some (.string ⟨#[]⟩), 1, 16) := by kernel_rfl
theorem infoC : (Tryd.prog.info? 44).map (fun i => (i.zero, i.size, i.bytes)) = some (some (.agg #[.string ⟨#[]⟩, .int .i64 0, .int .i64 0, .slice none 0 0]), 4, 56) := by kernel_rfl

theorem own_slice {w : World} {base : Nat} {e : TypeId} {size : Nat} {v : Value} {n : Nat} {xs : List Value} (h : w.ownsRow base e size v n xs) : ∃ ao c, v = .slice ao n c ∧ c ≤ maxLen ∧ n ≤ c ∧ (ao = none → c = 0) := by
  rcases h.2 with ⟨rfl, rfl⟩ | ⟨g, cap, cur, rfl, _, _, h1, h2, _⟩
  · exact ⟨none, 0, rfl, Nat.zero_le _, Nat.le_refl _, fun _ => rfl⟩
  · exact ⟨_, cap, rfl, h2, h1, (fun h => by cases h)⟩
theorem own_ch {S : Nat → Prop} {w w' : World} {base : Nat} {e : TypeId} {size : Nat} {v : Value} {n : Nat} {xs : List Value} (h : w.ownsRow base e size v n xs) (hc : Ch S w w') (hs : ∀ g cur, w.heap[g]? = some (.cells cur e (0, 0)) → v.ownBlock = some g → ¬ S g) : w'.ownsRow base e size v n xs := by
  refine ⟨h.1, ?_⟩
  rcases h.2 with hn | ⟨g, cap, cur, rfl, hb, hgg, rest⟩
  · exact .inl hn
  · exact .inr ⟨g, cap, cur, rfl, hb, (hc.block g (Array.getElem?_eq_some_iff.1 hgg).1 (hs g cur hgg rfl)).trans hgg, rest⟩
/-- The words of a column in a row of the call's own. -/
def WOwn (w : World) (B : Nat) (c : Col) : Prop := w.ownsRow B 9 1 (.slice c.wa c.ws.length c.wc) c.ws.length (c.ws.map Value.string)
theorem WOwn.tl {w : World} {B : Nat} {c : Col} (h : WOwn w B c) : TL w c.wa c.ws := by
  have h' := h
  rcases h'.2 with ⟨_, h2⟩ | ⟨g, cap, cur, hv, _, hg, _⟩
  · exact .inl (List.eq_nil_of_length_eq_zero h2)
  · simp only [Value.slice.injEq] at hv
    obtain ⟨e1, _, e3⟩ := hv
    refine .inr ⟨_, e1, (Array.getElem?_eq_some_iff.1 hg).1, fun j hj => ?_⟩
    have e : (⟨g, 0, none⟩ : Addr).add j = ⟨g, j, none⟩ := by unfold Addr.add; split <;> simp_all
    unfold WOwn at h
    rw [e1, e3] at h
    rw [e, h.cellAt j (by omega)]
    rw [List.getElem?_map, List.getD_eq_getElem?_getD, List.getElem?_eq_getElem hj]; rfl
theorem WOwn.ch {S : Nat → Prop} {w w' : World} {B : Nat} {c : Col} (h : WOwn w B c) (hc : Ch S w w') (hs : ∀ g cur, w.heap[g]? = some (.cells cur 9 (0, 0)) → ¬ S g) : WOwn w' B c := own_ch h hc (fun g cur h _ => hs g cur h)
/-- The cells of columns, one behind the other. -/
def flat (L : List Col) : List Value := L.flatMap fun c => c.cells.toList
theorem flat_length (L : List Col) : (flat L).length = L.length * 4 := by
  unfold flat
  induction L with
  | nil => rfl
  | cons c r ih => rw [List.flatMap_cons, List.length_append, ih, List.length_cons]; simp; omega
theorem flat_get (L : List Col) (j i : Nat) (hj : j < L.length) (hi : i < 4) : (flat L)[j * 4 + i]? = (L.getD j default).cells.toList[i]? := by
  unfold flat
  induction L generalizing j with
  | nil => simp at hj
  | cons c r ih =>
    rw [List.flatMap_cons]
    cases j with
    | zero => rw [Nat.zero_mul, Nat.zero_add, List.getElem?_append_left (by simpa using hi)]; rfl
    | succ j => rw [List.getElem?_append_right (by simp; omega), show (j + 1) * 4 + i - c.cells.toList.length = j * 4 + i by simp; omega, ih j (by simpa using hj), List.getD_cons_succ]
theorem flat_snoc (L : List Col) (c : Col) : flat (L ++ [c]) = flat L ++ c.cells.toList := by unfold flat; simp
theorem flat_one (L : List Col) : ∀ u ∈ flat L, u.oneCell' = true := by
  intro u hu
  unfold flat at hu
  rw [List.mem_flatMap] at hu
  obtain ⟨c, _, h⟩ := hu
  simp at h
  rcases h with rfl | rfl | rfl | rfl <;> rfl
/-- The columns in a row of the call's own, their words in rows of their own. -/
structure COwn (w : World) (B : Nat) (s : Sch) : Prop where
  row : w.ownsRow B 44 4 (.slice s.ca s.cols.length s.cc) s.cols.length (flat s.cols)
  words : ∀ j, j < s.cols.length → WOwn w B (s.cols.getD j default)
theorem COwn.ch {S : Nat → Prop} {w w' : World} {B : Nat} {s : Sch} (h : COwn w B s) (hc : Ch S w w') (h1 : ∀ g cur, w.heap[g]? = some (.cells cur 9 (0, 0)) → ¬ S g) (h2 : ∀ g cur, w.heap[g]? = some (.cells cur 44 (0, 0)) → s.ca = some ⟨g, 0, none⟩ → ¬ S g) : COwn w' B s := by
  refine ⟨?_, fun j hj => (h.words j hj).ch hc h1⟩
  refine ⟨h.row.1, ?_⟩
  rcases h.row.2 with hn | ⟨g, cap, cur, hv, hb, hgg, rest⟩
  · exact .inl hn
  · simp only [Value.slice.injEq] at hv
    exact .inr ⟨g, cap, cur, by rw [hv.1, hv.2.2], hb, (hc.block g (Array.getElem?_eq_some_iff.1 hgg).1 (h2 g cur hgg hv.1)).trans hgg, rest⟩
theorem row_cl {w : World} {B : Nat} {s : Sch} (hr : w.ownsRow B 44 4 (.slice s.ca s.cols.length s.cc) s.cols.length (flat s.cols)) : CL w s.ca s.cols := by
  rcases hr.2 with ⟨_, h2⟩ | ⟨g, cap, cur, hv, _, hg, _⟩
  · exact .inl (List.eq_nil_of_length_eq_zero h2)
  · simp only [Value.slice.injEq] at hv
    obtain ⟨e1, _, e3⟩ := hv
    refine .inr ⟨_, e1, (Array.getElem?_eq_some_iff.1 hg).1, fun j hj => ?_⟩
    rw [e1, e3] at hr
    have e : ∀ i, (⟨g, 0, none⟩ : Addr).add i = ⟨g, i, none⟩ := fun i => by unfold Addr.add; split <;> simp_all
    have f : ∀ i, i < 4 → w.cell? ⟨g, j * 4 + i, none⟩ = (s.cols.getD j default).cells.toList[i]? := fun i hi => by rw [hr.cellAt (j * 4 + i) (by omega), flat_get _ _ _ hj hi]
    rw [e]
    exact ⟨f 0 (by omega), f 1 (by omega), f 2 (by omega), f 3 (by omega)⟩
theorem COwn.cl {w : World} {B : Nat} {s : Sch} (h : COwn w B s) : CL w s.ca s.cols := row_cl h.row
/-- Columns that hold what others hold. -/
theorem COwn.ok {w w0 : World} {B : Nat} {s : Sch} {L : List Col} (h : COwn w B s) (he : L.map erC = s.cols.map erC) (hO : ColsOk w0 L) : ColsOk w s.cols := by
  intro j hj
  have hl : L.length = s.cols.length := by have := congrArg List.length he; simpa using this
  have e := erC_at he j (by omega)
  unfold erC at e
  simp only [Prod.mk.injEq] at e
  have o := hO j (by omega)
  exact ⟨(h.words j hj).tl, by rw [← e.2.2.2]; exact o.few, by rw [← e.1]; exact o.short, by rw [← e.2.2.2]; exact o.shorts, by rw [← e.2.1]; exact o.lo1, by rw [← e.2.1]; exact o.lo2, by rw [← e.2.2.1]; exact o.hi1, by rw [← e.2.2.1]; exact o.hi2⟩
theorem TL.news {w : World} {ao : Option Addr} {l : List ByteArray} (h : TL w ao l) : ∀ ad, ao = some ad → ∀ j u, (l.map Value.string)[j]? = some u → w.cell? (ad.add j) = some u := by
  intro ad ha j u hu
  rcases h with rfl | ⟨a, h1, _, h3⟩
  · simp at hu
  · obtain rfl := Option.some.inj (ha.symm.trans h1)
    rw [List.getElem?_map] at hu
    cases hl : l[j]? with
    | none => rw [hl] at hu; cases hu
    | some y =>
      rw [hl] at hu
      obtain rfl := Option.some.inj hu
      have hj := (List.getElem?_eq_some_iff.1 hl).1
      rw [h3 j hj, List.getD_eq_getElem?_getD, hl]; rfl
theorem words_one (l : List ByteArray) : ∀ u ∈ l.map Value.string, u.oneCell' = true := by
  intro u hu
  obtain ⟨y, _, rfl⟩ := List.mem_map.1 hu
  rfl
theorem none_nil {ao : Option Addr} {n c : Nat} (hle : n ≤ c) (hn : ao = none → c = 0) : ao = none → n = 0 ∧ c = 0 := fun h => by have := hn h; omega

set_option maxHeartbeats 1600000 in
set_option maxRecDepth 100000 in
/-- slices.Clone of words. -/
theorem cloneW_any {w : World} {ao : Option Addr} {l : List ByteArray} {c : Nat} (hT : TL w ao l) (hle : l.length ≤ c) (hn : ao = none → c = 0) (h100 : l.length ≤ 100) :
    Calls Tryd.prog 44 #[.slice ao l.length c] w fun e w' => ∃ a' c', e = .returned (.slice a' l.length c') ∧ w'.ownsRow w.heap.size 9 1 (.slice a' l.length c') l.length (l.map Value.string) ∧ Below w.heap.size w w' := by
  have q49 : ∀ (w : World) (a : Option Addr) (n c n' c' : Nat), (binOp .eql 41 (.slice a n c) (.slice none n' c')).run Tryd.prog w = .ok (.bool a.isNone) w := fun w a n c n' c' => Lib.run_eql_slice_nil w _ _ a n c n' c' Tryd.underlying41
  cases ao with
  | none =>
    have h0 := hn rfl
    have hl : l = [] := List.eq_nil_of_length_eq_zero (by omega)
    subst hl h0
    go_enter Tryd.func44, Tryd.ntmps44
    go_wp2
    go_ret
    exact ⟨none, 0, rfl, World.ownsRow_nil _ _ _ _, Below.refl _ _⟩
  | some ad =>
    obtain ⟨i0, hi, hz0, hz1, hz2⟩ := info_parts infoK
    have HR := Lib.hid (show (w.alloc (.cells #[] 9)).ownsRow w.heap.size 9 1 (.slice (some ⟨w.heap.size, 0, none⟩) 0 0) 0 [] from World.ownsRow_lit w #[] 0 (Nat.le_refl _) (by unfold maxLen; omega) rfl)
    have hB : Below w.heap.size w (w.alloc (.cells #[] 9)) := (Below.refl _ _).alloc (Nat.le_refl _) _
    have HN := Lib.hid (hT.below hB).news
    have HB := Lib.hid hB
    obtain ⟨N, hN⟩ : ∃ N, N = l.length := ⟨_, rfl⟩
    rw [← hN] at h100
    rw [← hN]
    have HL := Lib.hid hN
    clear hB hT hle hn hN
    go_enter Tryd.func44, Tryd.ntmps44
    go_wp2_with (at_builtin; refine wpList_append_rowL rfl _ _ 41 rfl w.heap.size 9 i0 (.string ⟨#[]⟩) 1 16 Tryd.underlying41 hi hz0 hz1 hz2 rfl (by decide) _ _ _ rfl HR.out (some ad) N c (l.map Value.string) rfl ?c1 ?c2 ?c6 (words_one l) ?c3 ?c4 ?c5 ?_)
    case c1 => rw [List.length_map, ← HL.out]; omega
    case c2 => exact HN.out
    case c6 => intro h; cases h
    case c3 => unfold maxLen; omega
    case c4 => omega
    case c5 => simp
    intro v' w1 hown hg hat
    have HF := Lib.hid (HB.out.grown hg HB.out.size (fun k hk => by simp [Value.ownBlock] at hk; omega))
    obtain ⟨a', c', rfl, _⟩ := own_slice hown
    have HO := Lib.hid hown
    clear hown hg hat HR HN HB
    go_wp2_with fail
    go_ret
    exact ⟨a', c', rfl, HO.out, HF.out⟩

theorem CL.news {w : World} {ao : Option Addr} {L : List Col} (h : CL w ao L) : ∀ ad, ao = some ad → ∀ j u, (flat L)[j]? = some u → w.cell? (ad.add j) = some u := by
  intro ad ha j u hu
  have hlt : j < L.length * 4 := by rw [← flat_length]; exact (List.getElem?_eq_some_iff.1 hu).1
  obtain ⟨a, h1, c0, c1, c2, c3⟩ := h.at (j := j / 4) (by omega)
  obtain rfl := Option.some.inj (ha.symm.trans h1)
  have e : j = j / 4 * 4 + j % 4 := by omega
  have hr : j % 4 < 4 := Nat.mod_lt _ (by omega)
  rw [e] at hu ⊢
  rw [flat_get L (j / 4) (j % 4) (by omega) hr] at hu
  rw [← Go.Deep.add_add]
  generalize j % 4 = r at hr hu ⊢
  obtain rfl | rfl | rfl | rfl : r = 0 ∨ r = 1 ∨ r = 2 ∨ r = 3 := by omega
  · obtain rfl := Option.some.inj hu; exact c0
  · obtain rfl := Option.some.inj hu; exact c1
  · obtain rfl := Option.some.inj hu; exact c2
  · obtain rfl := Option.some.inj hu; exact c3

set_option maxHeartbeats 1600000 in
set_option maxRecDepth 100000 in
/-- slices.Clone of columns. -/
theorem cloneC_any {w : World} {ao : Option Addr} {L : List Col} {c : Nat} (hT : CL w ao L) (hle : L.length ≤ c) (hn : ao = none → c = 0) (h100 : L.length ≤ 100) :
    Calls Tryd.prog 43 #[.slice ao L.length c] w fun e w' => ∃ a' c', e = .returned (.slice a' L.length c') ∧ w'.ownsRow w.heap.size 44 4 (.slice a' L.length c') L.length (flat L) ∧ Below w.heap.size w w' := by
  have q49 : ∀ (w : World) (a : Option Addr) (n c n' c' : Nat), (binOp .eql 22 (.slice a n c) (.slice none n' c')).run Tryd.prog w = .ok (.bool a.isNone) w := fun w a n c n' c' => Lib.run_eql_slice_nil w _ _ a n c n' c' Tryd.underlying22
  cases ao with
  | none =>
    have h0 := hn rfl
    have hl : L = [] := List.eq_nil_of_length_eq_zero (by omega)
    subst hl h0
    go_enter Tryd.func43, Tryd.ntmps43
    go_wp2
    go_ret
    exact ⟨none, 0, rfl, World.ownsRow_nil _ _ _ _, Below.refl _ _⟩
  | some ad =>
    obtain ⟨i0, hi, hz0, hz1, hz2⟩ := info_parts infoC
    have HR := Lib.hid (show (w.alloc (.cells #[] 44)).ownsRow w.heap.size 44 4 (.slice (some ⟨w.heap.size, 0, none⟩) 0 0) 0 [] from World.ownsRow_lit w #[] 0 (Nat.le_refl _) (by unfold maxLen; omega) rfl)
    have hB : Below w.heap.size w (w.alloc (.cells #[] 44)) := (Below.refl _ _).alloc (Nat.le_refl _) _
    have HN := Lib.hid (hT.below hB).news
    have HB := Lib.hid hB
    obtain ⟨N, hN⟩ : ∃ N, N = L.length := ⟨_, rfl⟩
    rw [← hN] at h100
    rw [← hN]
    have HL := Lib.hid hN
    clear hB hT hle hn hN
    go_enter Tryd.func43, Tryd.ntmps43
    go_wp2_with (at_builtin; refine wpList_append_rowL rfl _ _ 22 rfl w.heap.size 44 i0 (.agg #[.string ⟨#[]⟩, .int .i64 0, .int .i64 0, .slice none 0 0]) 4 56 Tryd.underlying22 hi hz0 hz1 hz2 rfl (by decide) _ _ _ rfl HR.out (some ad) N c (flat L) rfl ?c1 ?c2 ?c6 (flat_one L) ?c3 ?c4 ?c5 ?_)
    case c1 => rw [flat_length, ← HL.out]
    case c2 => exact HN.out
    case c6 => intro h; cases h
    case c3 => unfold maxLen; omega
    case c4 => omega
    case c5 => simp
    intro v' w1 hown hg hat
    have HF := Lib.hid (HB.out.grown hg HB.out.size (fun k hk => by simp [Value.ownBlock] at hk; omega))
    obtain ⟨a', c', rfl, _⟩ := own_slice hown
    have HO := Lib.hid hown
    clear hown hg hat HR HN HB
    go_wp2_with fail
    go_ret
    exact ⟨a', c', rfl, HO.out, HF.out⟩

end Go.Proofs.YtgehldadfaonbaaDoor
