/-
  The words of a column: all names, no two equal.
-/
import Derived.Test.YtgehldadfaonbaaDoorSJ
namespace Go.Proofs.YtgehldadfaonbaaDoor
open Go.RowKit Go.Shelf Go.ChangeMaps Go.Maps

theorem enters_name : ∀ args w, (callFunc 23 args).run Tryd.prog w = .ok (.enter 23 args) w := enters_of Tryd.func23 (by kernel_rfl) rfl
theorem all_getD (p : ByteArray → Bool) (l : List ByteArray) : l.all p = true ↔ ∀ j, j < l.length → p (l.getD j ByteArray.empty) = true := by
  rw [List.all_eq_true]
  constructor
  · intro h j hj
    rw [List.getD_eq_getElem?_getD, List.getElem?_eq_getElem hj]
    exact h _ (List.getElem_mem hj)
  · intro h x hx
    obtain ⟨j, hj, rfl⟩ := List.mem_iff_getElem.1 hx
    have := h j hj
    rwa [List.getD_eq_getElem?_getD, List.getElem?_eq_getElem hj] at this

theorem allNames_any {w : World} {a : Option Addr} {l : List ByteArray} {c : Nat} (ht : TL w a l) (hf : l.length ≤ 9223372036854775807) (hR : Res w) :
    Calls Tryd.prog 86 #[.slice a l.length c, .func (.func 23) #[] #[]] w fun e w' => e = .returned (.bool (l.all nmB)) ∧ Below w.heap.size w w' := by
  refine (all_any (g := 23) (cb := #[]) (fun k W => Below w.heap.size w W ∧ ∀ j, j < k → nmB (l.getD j ByteArray.empty) = true) (fun W => Below w.heap.size w W ∧ ∃ j, j < l.length ∧ nmB (l.getD j ByteArray.empty) = false) hf enters_name (fun k W h => ht.below h.1) ?_ ⟨Below.refl _ _, fun j hj => absurd hj (Nat.not_lt_zero _)⟩).mono ?_
  · rintro k W hk ⟨hb, hj⟩
    refine (name_any (l.getD k ByteArray.empty) W (hR.of hb)).mono ?_
    rintro e W' ⟨rfl, hb'⟩
    refine ⟨_, rfl, fun h => ⟨hb.trans (hb'.mono hb.size), fun j hj' => ?_⟩, fun h => ⟨hb.trans (hb'.mono hb.size), k, hk, h⟩⟩
    rcases Nat.lt_succ_iff_lt_or_eq.1 hj' with h1 | rfl
    · exact hj j h1
    · exact h
  · rintro e W' ⟨b, rfl, hy, hn⟩
    cases b with
    | true => exact ⟨by rw [(all_getD nmB l).2 (hy rfl).2], (hy rfl).1⟩
    | false =>
      obtain ⟨hb, j, hj, hx⟩ := hn rfl
      have : l.all nmB = false := by
        cases e : l.all nmB with
        | false => rfl
        | true => rw [(all_getD nmB l).1 e j hj] at hx; cases hx
      exact ⟨by rw [this], hb⟩
theorem wc2_any {w : World} {b : Nat} {c : Col} (h : ColAt w b c) (ho : ColOk w c) (hR : Res w) : Calls Tryd.prog 85 #[.pointer (some ⟨b, 0, none⟩)] w fun e w' => e = .returned (.bool (c.ws.all nmB)) ∧ Below w.heap.size w w' := by
  have c3 := h.c3
  have HN := Lib.hid (allNames_any (c := c.wc) ho.words ho.few hR)
  clear h ho
  go_enter Tryd.func85, Tryd.ntmps85
  go_wp2_with fail
  refine HN.out.mono ?_
  rintro e w1 ⟨rfl, hb⟩
  have HB := Lib.hid hb
  obtain ⟨v, hv⟩ : ∃ v, v = c.ws.all nmB := ⟨_, rfl⟩
  rw [← hv]
  have HV := Lib.hid hv
  clear hb c3 hv
  go_wp2
  go_ret
  exact ⟨by rw [← HV.out]; rfl, HB.out⟩

def memB (x : ByteArray) (l : List ByteArray) : Bool := l.any fun y => decide (y = x)
theorem memB_iff {x : ByteArray} {l : List ByteArray} : memB x l = true ↔ x ∈ l := by
  unfold memB
  rw [List.any_eq_true]
  exact ⟨fun ⟨y, hy, e⟩ => (of_decide_eq_true e) ▸ hy, fun h => ⟨x, h, decide_eq_true rfl⟩⟩
theorem memB_snoc (x : ByteArray) (l : List ByteArray) (y : ByteArray) : memB x (l ++ [y]) = (memB x l || decide (x = y)) := by
  unfold memB
  rw [List.any_append]
  simp only [List.any_cons, List.any_nil, Bool.or_false]
  congr 1
  rw [decide_eq_decide]; exact eq_comm
/-- Words more, in the column c. -/
def putL (S : ByteArray → ByteArray → Bool) (c : ByteArray) (l : List ByteArray) : ByteArray → ByteArray → Bool := fun c' x' => S c' x' || (decide (c' = c) && memB x' l)
theorem putL_nil (S : ByteArray → ByteArray → Bool) (c : ByteArray) : ∀ c' x', S c' x' = putL S c [] c' x' := fun c' x' => by simp [putL, memB]
theorem take_getD {l : List ByteArray} {k : Nat} (h : k < l.length) : l.take (k + 1) = l.take k ++ [l.getD k ByteArray.empty] := by
  rw [List.take_succ_eq_append_getElem h, List.getD_eq_getElem?_getD, List.getElem?_eq_getElem h]; rfl
theorem putL_succ (S : ByteArray → ByteArray → Bool) (c : ByteArray) {l : List ByteArray} {k : Nat} (h : k < l.length) : ∀ c' x', putS (putL S c (l.take k)) c (l.getD k ByteArray.empty) c' x' = putL S c (l.take (k + 1)) c' x' := by
  intro c' x'
  unfold putS putL
  rw [take_getD h, memB_snoc]
  cases S c' x' <;> cases decide (c' = c) <;> simp
theorem mem_take_getD {l : List ByteArray} {k : Nat} {x : ByteArray} (hk : k ≤ l.length) : x ∈ l.take k ↔ ∃ j, j < k ∧ l.getD j ByteArray.empty = x := by
  constructor
  · intro h
    obtain ⟨j, hj, rfl⟩ := List.mem_iff_getElem.1 h
    rw [List.length_take] at hj
    refine ⟨j, by omega, ?_⟩
    rw [List.getElem_take, List.getD_eq_getElem?_getD, List.getElem?_eq_getElem (by omega)]; rfl
  · rintro ⟨j, hj, rfl⟩
    rw [List.getD_eq_getElem?_getD, List.getElem?_eq_getElem (by omega)]
    exact List.mem_take_iff_getElem.2 ⟨j, by omega, rfl⟩

/-- All words, asked by a closure of marks.in: true if no two are equal. -/
theorem allNew_any {w : World} {a : Option Addr} {l : List ByteArray} {c bi mb n : Nat} {nm : ByteArray} {S : ByteArray → ByteArray → Bool} (ht : TL w a l) (hf : l.length ≤ 9223372036854775807) (hs : ∀ j, (l.getD j ByteArray.empty).size ≤ maxLen) (hnm : nm.size ≤ maxLen)
    (hi : InAt w bi mb nm) (hm : Marks w mb n S) (hS : ∀ x, S nm x = false) (hn : n + l.length < maxLen) :
    Calls Tryd.prog 86 #[.slice a l.length c, inV bi] w fun e w' => e = .returned (.bool (!twiceB l)) ∧ (twiceB l = false → Marks w' mb (n + l.length) (putL S nm l)) ∧ Ch (fun j => j = mb) w w' := by
  have nb : ∀ b t u, Boxed w b t u → ¬ (b = mb) := fun b t u hb e => by
    subst e
    obtain ⟨D, ⟨es, clock, hb2, _⟩, _⟩ := hm
    unfold Boxed at hb
    rw [hb] at hb2
    injection hb2 with hb2
    cases hb2
  have htl : ∀ W, Ch (fun j => j = mb) w W → TL W a l := fun W hc => ht.ch hc (fun ad v e h0 => fun e2 => by
    obtain ⟨o, ho, hx⟩ := cells_of_cell h0
    obtain ⟨D, ⟨es, clock, hb2, _⟩, _⟩ := hm
    have e3 : ad.block = mb := e2
    have hbk : (ad.add 0).block = mb := by rw [addS_block]; exact e3
    unfold World.cell? at h0
    rw [hbk, hb2] at h0
    cases h0)
  refine (all_any (g := 71) (cb := #[.pointer (some ⟨bi + 1, 0, none⟩), .pointer (some ⟨bi, 0, none⟩)])
    (fun k W => Ch (fun j => j = mb) w W ∧ Marks W mb (n + k) (putL S nm (l.take k)) ∧ ∀ i, i < k → ∀ j, j < i → l.getD j ByteArray.empty ≠ l.getD i ByteArray.empty)
    (fun W => Ch (fun j => j = mb) w W ∧ twiceB l = true) hf enters_in (fun k W h => htl W h.1) ?_ ⟨Ch.refl _ _, hm.congr (putL_nil S nm), fun i hi => absurd hi (Nat.not_lt_zero _)⟩).mono ?_
  · rintro k W hk ⟨hc, hmk, hd⟩
    have hiW : InAt W bi mb nm := hi.ch hc (nb _ _ _ hi.1) (nb _ _ _ hi.2)
    refine (in1_any hiW hmk hnm (hs k) (by omega)).mono ?_
    rintro e W' ⟨rfl, hm', hc'⟩
    have hv : putL S nm (l.take k) nm (l.getD k ByteArray.empty) = memB (l.getD k ByteArray.empty) (l.take k) := by unfold putL; rw [hS]; simp
    refine ⟨_, rfl, fun h => ⟨hc.trans hc', hm'.congr (putL_succ S nm hk), fun i hi j hj => ?_⟩, fun h => ⟨hc.trans hc', ?_⟩⟩
    · rcases Nat.lt_succ_iff_lt_or_eq.1 hi with h1 | rfl
      · exact hd i h1 j hj
      · intro e
        rw [hv, memB_iff.2 ((mem_take_getD (Nat.le_of_lt hk)).2 ⟨j, hj, e⟩)] at h
        cases h
    · rw [hv] at h
      have hin : l.getD k ByteArray.empty ∈ l.take k := by
        cases e : memB (l.getD k ByteArray.empty) (l.take k) with
        | true => exact memB_iff.1 e
        | false => rw [e] at h; cases h
      obtain ⟨j, hj, e⟩ := (mem_take_getD (Nat.le_of_lt hk)).1 hin
      exact (twice_iff l).2 ⟨k, j, hj, hk, e⟩
  · rintro e W' ⟨b, rfl, hy, hn'⟩
    cases b with
    | true =>
      obtain ⟨hc, hmk, hd⟩ := hy rfl
      have ht' := twice_no hd
      rw [ht']
      exact ⟨rfl, fun _ => by rwa [List.take_of_length_le (Nat.le_refl _)] at hmk, hc⟩
    | false =>
      obtain ⟨hc, ht'⟩ := hn' rfl
      rw [ht']
      exact ⟨rfl, (fun h => by cases h), hc⟩

theorem in_lift {w0 W : World} (h0 : Below w0.heap.size w0 W) (mb : Nat) (c : ByteArray) :
    Calls Tryd.prog 45 #[.map (some mb), .string c] W fun e w' => ∃ bi, e = .returned (inV bi) ∧ w0.heap.size ≤ bi ∧ InAt w' bi mb c ∧ Below w0.heap.size w0 w' :=
  (in_any W mb c).mono fun _ _ ⟨h1, h2, h3, _⟩ => ⟨_, h1, h0.size, h2, h0.trans (h3.mono h0.size)⟩

set_option maxHeartbeats 1600000 in
theorem wc3_any {w : World} {b q mb n : Nat} {c : Col} {S : ByteArray → ByteArray → Bool} (h : ColAt w b c) (ho : ColOk w c) (hq : Boxed w q 61 (.map (some mb))) (hm : Marks w mb n S) (hS : ∀ x, S c.name x = false) (hn : n + c.ws.length < maxLen) :
    Calls Tryd.prog 87 #[.pointer (some ⟨b, 0, none⟩), .pointer (some ⟨q, 0, none⟩)] w fun e w' => e = .returned (.bool (!twiceB c.ws)) ∧ (twiceB c.ws = false → Marks w' mb (n + c.ws.length) (putL S c.name c.ws)) ∧ Ch (fun j => j = mb) w w' := by
  have nb : ¬ (b = mb) ∧ ¬ (q = mb) := by
    obtain ⟨D, ⟨es, clock, hb2, _⟩, _⟩ := hm
    constructor
    · intro e
      unfold ColAt at h
      rw [e, hb2] at h
      injection h with h
      cases h
    · intro e
      unfold Boxed at hq
      rw [e, hb2] at hq
      injection hq with hq
      cases hq
  have HS := Lib.hid (show ∀ W, Ch (fun j => j = mb) w W → W.cell? ⟨b, 3, none⟩ = some (.slice c.wa c.ws.length c.wc) ∧ W.cell? ⟨q, 0, none⟩ = some (.map (some mb)) ∧ W.cell? ⟨b, 0, none⟩ = some (.string c.name) from fun W hb =>
    ⟨(h.ch hb nb.1).c3, (hb.boxed nb.2 hq).cell, (h.ch hb nb.1).c0⟩)
  have HA := Lib.hid (show ∀ bi W, InAt W bi mb c.name → Below w.heap.size w W → Calls Tryd.prog 86 #[.slice c.wa c.ws.length c.wc, inV bi] W fun e w' => e = .returned (.bool (!twiceB c.ws)) ∧ ((twiceB c.ws = false → Marks w' mb (n + c.ws.length) (putL S c.name c.ws)) ∧ Ch (fun j => j = mb) w w') from fun bi W hi hb =>
    (allNew_any (ho.words.below hb) ho.few ho.shorts ho.short hi (hm.ch (Ch.below (S := fun _ => False) hb) (fun h => h)) hS hn).mono (fun _ _ h => ⟨h.1, h.2.1, (Ch.below hb).trans h.2.2⟩))
  have hD := (Below.refl w.heap.size w).drew
  clear h ho hq hm hS hn nb
  go_enter Tryd.func87, Tryd.ntmps87
  go_wp2_with fail
  go_region_held3 (fun W => W.cell? ⟨b, 3, none⟩ = some (.slice c.wa c.ws.length c.wc) ∧ W.cell? ⟨q, 0, none⟩ = some (.map (some mb)) ∧ W.cell? ⟨b, 0, none⟩ = some (.string c.name))
    (first | exact HS.out _ (Ch.below hD) | exact HS.out _ (Ch.below hB) | exact HS.out _ hF.2)
    (first
      | (go_at_call 45; refine (in_lift (w0 := w) (by assumption) _ _).mono ?_; rintro e u1 ⟨bi, rfl, hbi, hia, hB⟩)
      | (go_at_call 86; refine (HA.out bi _ hia (by assumption)).mono ?_; rintro e u2 ⟨rfl, hF⟩))
  all_goals
    have HF := Lib.hid hF
    obtain ⟨v, hv⟩ : ∃ v, v = !twiceB c.ws := ⟨_, rfl⟩
    rw [← hv]
    have HV := Lib.hid hv
    clear hF hv hia hB
    go_wp2
    go_ret
    exact ⟨by rw [← HV.out]; rfl, HF.out⟩

end Go.Proofs.YtgehldadfaonbaaDoor
