/-
  The checks of a column.
-/
import Derived.Test.YtgehldadfaonbaaDoorSL
import Derived.Laws.AppendOwn
import Derived.OwnWalk
namespace Go.Proofs.YtgehldadfaonbaaDoor
open Go.RowKit Go.Shelf Go.ChangeMaps Go.Maps

theorem infoCk : (Tryd.prog.info? 87).map (fun i => (i.zero, i.size, i.bytes)) = some (some .nilFunc, 1, 8) := by kernel_rfl
theorem apart {w : World} {b g : Nat} {cs cs' : Array Value} {t t' : TypeId} {fr fr' : Nat × Nat} (h : w.heap[b]? = some (.cells cs t fr)) (h' : w.heap[g]? = some (.cells cs' t' fr')) (hn : t ≠ t') : ¬ (b = g) := by
  rintro rfl
  rw [h] at h'
  injection h' with h'
  injection h' with _ ht
  exact hn ht
theorem ChkAt.apart {w w' : World} {g : Nat} {cs : Array Value} {fr : Nat × Nat} {v : Value} {e : Int} {f : Nat} {cb : Array Value} (h : ChkAt w v e f cb) (hg : w.heap[g]? = some (.cells cs 87 fr)) (hc : Ch (fun j => j = g) w w') : ChkAt w' v e f cb := by
  obtain ⟨b, rfl, h1, h2⟩ := h
  exact ⟨b, rfl, hc.boxed (Go.Proofs.YtgehldadfaonbaaDoor.apart h1 hg (by decide)) h1, hc.boxed (Go.Proofs.YtgehldadfaonbaaDoor.apart h2 hg (by decide)) h2⟩

/-- What every column's checks have. -/
structure HeadAt (W : World) (b q bi mb : Nat) (c : Col) (v0 v1 : Value) : Prop where
  col : ColAt W b c
  box : Boxed W q 39 (inV bi)
  isin : InAt W bi mb ⟨#[]⟩
  k0 : ChkAt W v0 19 66 #[.pointer (some ⟨b, 0, none⟩)]
  k1 : ChkAt W v1 8 67 #[.pointer (some ⟨q, 0, none⟩), .pointer (some ⟨b, 0, none⟩)]
theorem HeadAt.below {w w' : World} {b q bi mb : Nat} {c : Col} {v0 v1 : Value} (h : HeadAt w b q bi mb c v0 v1) (hb : Below w.heap.size w w') : HeadAt w' b q bi mb c v0 v1 :=
  ⟨h.col.below hb, keepB hb h.box, h.isin.ch (Ch.below (S := fun _ => False) hb) (fun h => h) (fun h => h), h.k0.below hb, h.k1.below hb⟩
theorem HeadAt.apart {w w' : World} {b q bi mb g : Nat} {c : Col} {v0 v1 : Value} {cs : Array Value} {fr : Nat × Nat} (h : HeadAt w b q bi mb c v0 v1) (hg : w.heap[g]? = some (.cells cs 87 fr)) (hc : Ch (fun j => j = g) w w') : HeadAt w' b q bi mb c v0 v1 :=
  ⟨h.col.ch hc (Go.Proofs.YtgehldadfaonbaaDoor.apart h.col hg (by decide)), hc.boxed (Go.Proofs.YtgehldadfaonbaaDoor.apart h.box hg (by decide)) h.box, h.isin.ch hc (Go.Proofs.YtgehldadfaonbaaDoor.apart h.isin.1 hg (by decide)) (Go.Proofs.YtgehldadfaonbaaDoor.apart h.isin.2 hg (by decide)), h.k0.apart hg hc, h.k1.apart hg hc⟩
theorem WordsAt.apart {w w' : World} {bl b q mb g : Nat} {c : Col} {v0 v1 v2 v3 : Value} {cs : Array Value} {fr : Nat × Nat} (h : WordsAt w bl b q mb c v0 v1 v2 v3) (hg : w.heap[g]? = some (.cells cs 87 fr)) (hc : Ch (fun j => j = g) w w') (hb : ¬ bl = g) : WordsAt w' bl b q mb c v0 v1 v2 v3 :=
  ⟨(hc.block bl (Array.getElem?_eq_some_iff.1 h.row).1 hb).trans h.row, h.col.ch hc (Go.Proofs.YtgehldadfaonbaaDoor.apart h.col hg (by decide)), hc.boxed (Go.Proofs.YtgehldadfaonbaaDoor.apart h.box hg (by decide)) h.box, h.k0.apart hg hc, h.k1.apart hg hc, h.k2.apart hg hc, h.k3.apart hg hc⟩

/-- The cells of a list of checks. -/
def ListAt (W : World) (g : Nat) (l : List Value) : Prop := ∀ j v, l[j]? = some v → W.cell? ⟨g, j, none⟩ = some v
theorem row_cell {w : World} {g : Nat} {l : List Value} {t : TypeId} {fr : Nat × Nat} (h : w.heap[g]? = some (.cells l.toArray t fr)) : ∀ j u, l[j]? = some u → w.cell? ((⟨g, 0, none⟩ : Addr).add j) = some u := by
  intro j u hu
  have e : (⟨g, 0, none⟩ : Addr).add j = ⟨g, j, none⟩ := by unfold Addr.add; split <;> simp_all
  rw [e, cell_of_row w g j _ t fr h]
  simpa using hu
theorem row_own {w : World} {base g n : Nat} {l : List Value} (hb : base ≤ g) (h : w.heap[g]? = some (.cells l.toArray 87 (0, 0))) (hl : l.length = n) (hn : n ≤ maxLen) : w.ownsRow base 87 1 (.slice (some ⟨g, 0, none⟩) n n) n l :=
  ⟨by omega, .inr ⟨g, n, l.toArray, rfl, hb, h, Nat.le_refl _, hn, by simp [hl], by rw [Nat.mul_one, ← hl]; simp⟩⟩
theorem ListAt.own {w : World} {base n : Nat} {v : Value} {l : List Value} (h : w.ownsRow base 87 1 v n l) (hn : 0 < n) : ∃ g cap, v = .slice (some ⟨g, 0, none⟩) n cap ∧ base ≤ g ∧ ListAt w g l ∧ ∃ cs, w.heap[g]? = some (.cells cs 87 (0, 0)) := by
  rcases h.2 with ⟨_, h0⟩ | ⟨g, cap, cur, hv, hg, hh, _⟩
  · omega
  · refine ⟨g, cap, hv, hg, fun j u hu => ?_, cur, hh⟩
    subst hv
    have := h.cells (g := g) rfl j u hu
    rwa [Addr.add_lit, Nat.zero_add] at this

set_option maxRecDepth 100000 in
set_option maxHeartbeats 3200000 in
/-- A column with words has six checks. -/
theorem columnChecks_words (w : World) (c : Col) (mb : Nat) (_hf : c.ws.length ≤ 9223372036854775807) (hw : 0 < c.ws.length) :
    Calls Tryd.prog 41 #[.agg c.cells, .map (some mb)] w fun e w' => ∃ g cap b q bi v0 v1 bl bw qw u0 u1 u2 u3, e = .returned (.slice (some ⟨g, 0, none⟩) 6 cap) ∧ w.heap.size ≤ g ∧ ListAt w' g [v0, v1, u0, u1, u2, u3] ∧ (∃ cs, w'.heap[g]? = some (.cells cs 87 (0, 0))) ∧ HeadAt w' b q bi mb c v0 v1 ∧ WordsAt w' bl bw qw mb c u0 u1 u2 u3 ∧ Below w.heap.size w w' := by
  obtain ⟨i0, hi, hz0, hz1, hz2⟩ := info_parts infoCk
  obtain ⟨A, hA⟩ : ∃ A, A = w.alloc (.cells #[.string c.name, .int .i64 c.lo, .int .i64 c.hi, .slice c.wa c.ws.length c.wc] 44) := ⟨_, rfl⟩
  have sA : A.heap.size = w.heap.size + 1 := by rw [hA]; simp
  have HA := Lib.hid (show ColAt A w.heap.size c by rw [hA]; exact heap_alloc_new w _)
  have HI := Lib.hid (show Below w.heap.size w A by rw [hA]; exact (Below.refl _ _).alloc (Nat.le_refl _) _)
  have HSA := Lib.hid sA
  clear sA
  go_enter Tryd.func41, Tryd.ntmps41
  go_wp2_with fail
  rw [← hA]
  clear hA
  refine (in_any A mb _).mono ?_
  rintro e w1 ⟨rfl, k1, h1, hsz⟩
  have H1 := Lib.hid (And.intro k1 h1)
  clear k1 h1 hsz
  obtain ⟨B, hB⟩ : ∃ B, B = w1.alloc (.cells #[inV A.heap.size] 39) := ⟨_, rfl⟩
  have HQ := Lib.hid (show Boxed B w1.heap.size 39 (inV A.heap.size) by rw [hB]; exact Boxed.new w1 _ _)
  have HB := Lib.hid (show Below w1.heap.size w1 B by rw [hB]; exact (Below.refl _ _).alloc (Nat.le_refl _) _)
  go_wp2_with fail
  rw [← hB]
  clear hB
  refine (demand_any 19 _ _ B).mono ?_
  rintro e w2 ⟨v0, rfl, k0, h2⟩
  have H2 := Lib.hid (And.intro k0 h2)
  have hv0 : ∃ cap, v0 = .func (.func 83) #[] cap := by obtain ⟨b, rfl, _⟩ := k0; exact ⟨_, rfl⟩
  clear k0 h2
  obtain ⟨p0, rfl⟩ := hv0
  go_wp2_with fail
  refine (demand_any 8 _ _ w2).mono ?_
  rintro e w3 ⟨v1, rfl, k1, h3⟩
  have H3 := Lib.hid (And.intro k1 h3)
  have hv1 : ∃ cap, v1 = .func (.func 83) #[] cap := by obtain ⟨b, rfl, _⟩ := k1; exact ⟨_, rfl⟩
  clear k1 h3
  obtain ⟨p1, rfl⟩ := hv1
  obtain ⟨C, hC⟩ : ∃ C, C = w3.alloc (.cells #[.func (.func 83) #[] p0, .func (.func 83) #[] p1] 87) := ⟨_, rfl⟩
  have hiC : Below w3.heap.size w3 C := by rw [hC]; exact (Below.refl _ _).alloc (Nat.le_refl _) _
  have hrow : C.heap[w3.heap.size]? = some (.cells #[.func (.func 83) #[] p0, .func (.func 83) #[] p1] 87 (0, 0)) := by rw [hC]; exact heap_alloc_new w3 _
  have t1 := HB.out.size
  have t2 := H2.out.2.size
  have t3 := H3.out.2.size
  have t4 := H1.out.2.size
  have t5 := HI.out.size
  have b3 := H3.out.2.trans (hiC.mono t3)
  have b2 := H2.out.2.trans (b3.mono t2)
  have b1 := HB.out.trans (b2.mono t1)
  have b0 := H1.out.2.trans (b1.mono t4)
  have bw := HI.out.trans (b0.mono t5)
  have hd : HeadAt C w.heap.size w1.heap.size A.heap.size mb c (.func (.func 83) #[] p0) (.func (.func 83) #[] p1) :=
    ⟨HA.out.below b0, keepB b2 HQ.out, H1.out.1.ch (Ch.below (S := fun _ => False) b1) (fun h => h) (fun h => h), H2.out.1.below b3, H3.out.1.below hiC⟩
  have d0 := hd.col.c0
  have d1 := hd.col.c1
  have d2 := hd.col.c2
  have d3 := hd.col.c3
  have HH := Lib.hid (And.intro hd (And.intro bw hrow))
  have HT := Lib.hid (show w.heap.size ≤ w3.heap.size by omega)
  clear hd bw b0 b1 b2 b3 hrow hiC t1 t2 t3 t4 t5 H1 H2 H3 HQ HB HI HA HSA
  subst hC
  go_wp2_with fail
  clear d0 d1 d2 d3
  refine (wordChecks_any _ c mb).mono ?_
  rintro e w5 ⟨bl, bx, qx, u0, u1, u2, u3, rfl, hbl, hwd, h5⟩
  obtain ⟨hd, bw, hrow⟩ := HH.out
  have hd5 := hd.below h5
  have hrow5 : w5.heap[w3.heap.size]? = some (.cells [.func (.func 83) #[] p0, .func (.func 83) #[] p1].toArray 87 (0, 0)) := (h5.block _ (Array.getElem?_eq_some_iff.1 hrow).1).trans hrow
  rw [World.size_alloc] at hbl
  have hown := row_own (n := 2) HT.out hrow5 rfl (by unfold maxLen; omega)
  have hnews := row_cell (l := [u0, u1, u2, u3]) hwd.row
  have HX := Lib.hid (And.intro hd5 (And.intro hrow5 (And.intro hwd (And.intro (bw.trans (h5.mono bw.size)) hbl))))
  have hone : ∀ u ∈ [u0, u1, u2, u3], u.oneCell' = true := by
    intro u hu
    obtain ⟨_, e0, _⟩ := hwd.k0
    obtain ⟨_, e1, _⟩ := hwd.k1
    obtain ⟨_, e2, _⟩ := hwd.k2
    obtain ⟨_, e3, _⟩ := hwd.k3
    simp only [List.mem_cons, List.not_mem_nil, or_false] at hu
    rcases hu with rfl | rfl | rfl | rfl
    · rw [e0]; rfl
    · rw [e1]; rfl
    · rw [e2]; rfl
    · rw [e3]; rfl
  have HS5 := Lib.hid (show w.heap.size ≤ w5.heap.size from Nat.le_trans bw.size h5.size)
  clear hd bw hrow hd5 hrow5 hwd h5 hbl HH
  have HW := Lib.hid hown
  have HN := Lib.hid hnews
  have HO := Lib.hid hone
  clear hown hnews hone
  go_wp2_with (at_builtin; refine wpList_append_own _ rfl (.tmp 18) (.tmp 21) _ rfl w.heap.size 87 i0 _ 1 8 Tryd.underlying58 hi hz0 hz1 hz2 rfl (by omega) _ _ _ rfl HW.out ⟨bl, 0, none⟩ 4 4 [u0, u1, u2, u3] rfl rfl HN.out HO.out (by unfold maxLen; omega) (by omega) HS5.out ?_; intro v' w6 hown6 hgrow6 hnil6; clear hnil6; have hgr6 : w5.grownBy w6 (some w3.heap.size) := hgrow6; clear hgrow6)
  have how6 : w6.ownsRow w.heap.size 87 1 v' 6 [.func (.func 83) #[] p0, .func (.func 83) #[] p1, u0, u1, u2, u3] := hown6
  clear hown6
  obtain ⟨g, cap, hv, hg, hl, hcs⟩ := ListAt.own how6 (by omega)
  have hc6 : Ch (fun j => j = w3.heap.size) w5 w6 := Ch.grownBy hgr6 (fun r e => by injection e with e; exact e.symm)
  obtain ⟨hd5, hrow5, hwd, hb5, hbl⟩ := HX.out
  have hd6 := hd5.apart hrow5 hc6
  have hwd6 := hwd.apart hrow5 hc6 (by omega)
  have hb6 : Below w.heap.size w w6 := hb5.trans (hc6.to_below hb5.size (fun j e => by rw [e]; exact HT.out))
  have HF := Lib.hid (And.intro hg (And.intro hl (And.intro hcs (And.intro hd6 (And.intro hwd6 hb6)))))
  clear how6 hg hl hcs hgr6 hc6 hd5 hrow5 hwd hb5 hbl hd6 hwd6 hb6 HX HW HN HO HS5
  subst hv
  go_ret
  exact ⟨g, cap, _, _, _, _, _, _, _, _, _, _, _, _, rfl, HF.out⟩

set_option maxRecDepth 100000 in
set_option maxHeartbeats 3200000 in
/-- A column without words has three checks. -/
theorem columnChecks_none (w : World) (c : Col) (mb : Nat) (_hf : c.ws.length ≤ 9223372036854775807) (hw : ¬ 0 < c.ws.length) :
    Calls Tryd.prog 41 #[.agg c.cells, .map (some mb)] w fun e w' => ∃ g cap b q bi v0 v1 u, e = .returned (.slice (some ⟨g, 0, none⟩) 3 cap) ∧ w.heap.size ≤ g ∧ ListAt w' g [v0, v1, u] ∧ (∃ cs, w'.heap[g]? = some (.cells cs 87 (0, 0))) ∧ HeadAt w' b q bi mb c v0 v1 ∧ ChkAt w' u 2 69 #[.pointer (some ⟨b, 0, none⟩)] ∧ Below w.heap.size w w' := by
  obtain ⟨i0, hi, hz0, hz1, hz2⟩ := info_parts infoCk
  obtain ⟨A, hA⟩ : ∃ A, A = w.alloc (.cells #[.string c.name, .int .i64 c.lo, .int .i64 c.hi, .slice c.wa c.ws.length c.wc] 44) := ⟨_, rfl⟩
  have sA : A.heap.size = w.heap.size + 1 := by rw [hA]; simp
  have HA := Lib.hid (show ColAt A w.heap.size c by rw [hA]; exact heap_alloc_new w _)
  have HI := Lib.hid (show Below w.heap.size w A by rw [hA]; exact (Below.refl _ _).alloc (Nat.le_refl _) _)
  have HSA := Lib.hid sA
  clear sA
  go_enter Tryd.func41, Tryd.ntmps41
  go_wp2_with fail
  rw [← hA]
  clear hA
  refine (in_any A mb _).mono ?_
  rintro e w1 ⟨rfl, k1, h1, hsz⟩
  have H1 := Lib.hid (And.intro k1 h1)
  clear k1 h1 hsz
  obtain ⟨B, hB⟩ : ∃ B, B = w1.alloc (.cells #[inV A.heap.size] 39) := ⟨_, rfl⟩
  have HQ := Lib.hid (show Boxed B w1.heap.size 39 (inV A.heap.size) by rw [hB]; exact Boxed.new w1 _ _)
  have HB := Lib.hid (show Below w1.heap.size w1 B by rw [hB]; exact (Below.refl _ _).alloc (Nat.le_refl _) _)
  go_wp2_with fail
  rw [← hB]
  clear hB
  refine (demand_any 19 _ _ B).mono ?_
  rintro e w2 ⟨v0, rfl, k0, h2⟩
  have H2 := Lib.hid (And.intro k0 h2)
  have hv0 : ∃ cap, v0 = .func (.func 83) #[] cap := by obtain ⟨b, rfl, _⟩ := k0; exact ⟨_, rfl⟩
  clear k0 h2
  obtain ⟨p0, rfl⟩ := hv0
  go_wp2_with fail
  refine (demand_any 8 _ _ w2).mono ?_
  rintro e w3 ⟨v1, rfl, k1, h3⟩
  have H3 := Lib.hid (And.intro k1 h3)
  have hv1 : ∃ cap, v1 = .func (.func 83) #[] cap := by obtain ⟨b, rfl, _⟩ := k1; exact ⟨_, rfl⟩
  clear k1 h3
  obtain ⟨p1, rfl⟩ := hv1
  obtain ⟨C, hC⟩ : ∃ C, C = w3.alloc (.cells #[.func (.func 83) #[] p0, .func (.func 83) #[] p1] 87) := ⟨_, rfl⟩
  have hiC : Below w3.heap.size w3 C := by rw [hC]; exact (Below.refl _ _).alloc (Nat.le_refl _) _
  have hrow : C.heap[w3.heap.size]? = some (.cells #[.func (.func 83) #[] p0, .func (.func 83) #[] p1] 87 (0, 0)) := by rw [hC]; exact heap_alloc_new w3 _
  have t1 := HB.out.size
  have t2 := H2.out.2.size
  have t3 := H3.out.2.size
  have t4 := H1.out.2.size
  have t5 := HI.out.size
  have b3 := H3.out.2.trans (hiC.mono t3)
  have b2 := H2.out.2.trans (b3.mono t2)
  have b1 := HB.out.trans (b2.mono t1)
  have b0 := H1.out.2.trans (b1.mono t4)
  have bw := HI.out.trans (b0.mono t5)
  have hd : HeadAt C w.heap.size w1.heap.size A.heap.size mb c (.func (.func 83) #[] p0) (.func (.func 83) #[] p1) :=
    ⟨HA.out.below b0, keepB b2 HQ.out, H1.out.1.ch (Ch.below (S := fun _ => False) b1) (fun h => h) (fun h => h), H2.out.1.below b3, H3.out.1.below hiC⟩
  have d0 := hd.col.c0
  have d1 := hd.col.c1
  have d2 := hd.col.c2
  have d3 := hd.col.c3
  have HH := Lib.hid (And.intro hd (And.intro bw hrow))
  have HT := Lib.hid (show w.heap.size ≤ w3.heap.size by omega)
  clear hd bw b0 b1 b2 b3 hrow hiC t1 t2 t3 t4 t5 H1 H2 H3 HQ HB HI HA HSA
  subst hC
  go_wp2_with fail
  clear d0 d1 d2 d3
  refine (demand_any 2 _ _ _).mono ?_
  rintro e w5 ⟨u, rfl, k2, h5⟩
  obtain ⟨hd, bw, hrow⟩ := HH.out
  obtain ⟨D, hD⟩ : ∃ D, D = w5.alloc (.cells #[u] 87) := ⟨_, rfl⟩
  have hiD : Below w5.heap.size w5 D := by rw [hD]; exact (Below.refl _ _).alloc (Nat.le_refl _) _
  have hD5 : Below (w3.heap.size + 1) (w3.alloc (.cells #[.func (.func 83) #[] p0, .func (.func 83) #[] p1] 87)) D := by
    have := h5.trans (hiD.mono h5.size)
    rwa [World.size_alloc] at this
  have hs5 : w3.heap.size + 1 ≤ w5.heap.size := by have := h5.size; rwa [World.size_alloc] at this
  have hrowD : D.heap[w3.heap.size]? = some (.cells [.func (.func 83) #[] p0, .func (.func 83) #[] p1].toArray 87 (0, 0)) := (hD5.block _ (by omega)).trans hrow
  have hnew : D.heap[w5.heap.size]? = some (.cells [u].toArray 87 (0, 0)) := by rw [hD]; exact heap_alloc_new w5 _
  have hdD := hd.below (by rw [World.size_alloc]; exact hD5)
  have kD := k2.below hiD
  have hown := row_own (n := 2) HT.out hrowD rfl (by unfold maxLen; omega)
  have hnews := row_cell (l := [u]) hnew
  have hone : ∀ x ∈ [u], x.oneCell' = true := by
    intro x hx
    obtain ⟨_, e0, _⟩ := k2
    simp only [List.mem_cons, List.not_mem_nil, or_false] at hx
    rw [hx, e0]; rfl
  have hbD : Below w.heap.size w D := bw.trans (hD5.mono (by have := HT.out; omega))
  have HX := Lib.hid (And.intro hdD (And.intro hrowD (And.intro kD hbD)))
  have HS5 := Lib.hid (show w.heap.size ≤ D.heap.size from hbD.size)
  have hu : ∃ cap, u = .func (.func 83) #[] cap := by obtain ⟨b, rfl, _⟩ := k2; exact ⟨_, rfl⟩
  clear hd bw hrow hrowD hnew hdD kD k2 h5 hD5 hiD hbD hs5 HH
  have HW := Lib.hid hown
  have HN := Lib.hid hnews
  have HO := Lib.hid hone
  clear hown hnews hone
  obtain ⟨pu, rfl⟩ := hu
  subst hD
  go_wp2_with (at_builtin; refine wpList_append_own _ rfl (.tmp 23) (.tmp 26) _ rfl w.heap.size 87 i0 _ 1 8 Tryd.underlying58 hi hz0 hz1 hz2 rfl (by omega) _ _ _ rfl HW.out ⟨w5.heap.size, 0, none⟩ 1 1 [.func (.func 83) #[] pu] rfl rfl HN.out HO.out (by unfold maxLen; omega) (by omega) HS5.out ?_; intro v' w6 hown6 hgrow6 hnil6; clear hnil6; have hgr6 : World.grownBy _ w6 (some w3.heap.size) := hgrow6; clear hgrow6)
  have how6 : w6.ownsRow w.heap.size 87 1 v' 3 [.func (.func 83) #[] p0, .func (.func 83) #[] p1, .func (.func 83) #[] pu] := hown6
  clear hown6
  obtain ⟨g, cap, hv, hg, hl, hcs⟩ := ListAt.own how6 (by omega)
  have hc6 : Ch (fun j => j = w3.heap.size) _ w6 := Ch.grownBy hgr6 (fun r e => by injection e with e; exact e.symm)
  obtain ⟨hdD, hrowD, kD, hbD⟩ := HX.out
  have hd6 := hdD.apart hrowD hc6
  have k6 := kD.apart hrowD hc6
  have hb6 : Below w.heap.size w w6 := hbD.trans (hc6.to_below hbD.size (fun j e => by rw [e]; exact HT.out))
  have HF := Lib.hid (And.intro hg (And.intro hl (And.intro hcs (And.intro hd6 (And.intro k6 hb6)))))
  clear how6 hg hl hcs hgr6 hc6 hdD hrowD kD hbD hd6 k6 hb6 HX HW HN HO HS5
  subst hv
  go_ret
  exact ⟨g, cap, _, _, _, _, _, _, rfl, HF.out⟩

end Go.Proofs.YtgehldadfaonbaaDoor
