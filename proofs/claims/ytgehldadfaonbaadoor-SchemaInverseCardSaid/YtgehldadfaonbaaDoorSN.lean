/-
  The first error of a column.
-/
import Derived.Test.YtgehldadfaonbaaDoorSM
namespace Go.Proofs.YtgehldadfaonbaaDoor
open Go.RowKit Go.Shelf Go.ChangeMaps Go.Maps

/-- The error of a column; names are those of the columns before it. -/
def chkC (names : List ByteArray) (c : Col) : Int :=
  if nmB c.name = false then 19 else if memB c.name names = true then 8 else
  if c.ws.length = 0 then (if rangeB c = true then 0 else 2)
  else if 64 < c.ws.length then 4 else if c.ws.all nmB = false then 19 else if twiceB c.ws = true then 8 else if placeB c = true then 0 else 2

theorem Marks.cells {w : World} {mb n b : Nat} {S : ByteArray → ByteArray → Bool} {cs : Array Value} {t : TypeId} {fr : Nat × Nat} (hm : Marks w mb n S) (h : w.heap[b]? = some (.cells cs t fr)) : ¬ (b = mb) := by
  rintro rfl
  obtain ⟨D, ⟨es, clock, hb2, _⟩, _⟩ := hm
  rw [h] at hb2
  injection hb2 with hb2
  cases hb2
theorem ChkAt.map {w w' : World} {v : Value} {e : Int} {f mb n : Nat} {S : ByteArray → ByteArray → Bool} {cb : Array Value} (h : ChkAt w v e f cb) (hm : Marks w mb n S) (hc : Ch (fun j => j = mb) w w') : ChkAt w' v e f cb := by
  obtain ⟨b, rfl, h1, h2⟩ := h
  exact ⟨b, rfl, hc.boxed (hm.cells h1) h1, hc.boxed (hm.cells h2) h2⟩
theorem HeadAt.map {w w' : World} {b q bi mb n : Nat} {S : ByteArray → ByteArray → Bool} {c : Col} {v0 v1 : Value} (h : HeadAt w b q bi mb c v0 v1) (hm : Marks w mb n S) (hc : Ch (fun j => j = mb) w w') : HeadAt w' b q bi mb c v0 v1 :=
  ⟨h.col.ch hc (hm.cells h.col), hc.boxed (hm.cells h.box) h.box, h.isin.ch hc (hm.cells h.isin.1) (hm.cells h.isin.2), h.k0.map hm hc, h.k1.map hm hc⟩
theorem WordsAt.map {w w' : World} {bl b q mb n : Nat} {S : ByteArray → ByteArray → Bool} {c : Col} {v0 v1 v2 v3 : Value} (h : WordsAt w bl b q mb c v0 v1 v2 v3) (hm : Marks w mb n S) (hc : Ch (fun j => j = mb) w w') : WordsAt w' bl b q mb c v0 v1 v2 v3 :=
  ⟨(hc.block bl (Array.getElem?_eq_some_iff.1 h.row).1 (hm.cells h.row)).trans h.row, h.col.ch hc (hm.cells h.col), hc.boxed (hm.cells h.box) h.box, h.k0.map hm hc, h.k1.map hm hc, h.k2.map hm hc, h.k3.map hm hc⟩
theorem TL.map {w w' : World} {mb n : Nat} {S : ByteArray → ByteArray → Bool} {ao : Option Addr} {l : List ByteArray} (h : TL w ao l) (hm : Marks w mb n S) (hc : Ch (fun j => j = mb) w w') : TL w' ao l := by
  refine h.ch hc (fun ad v _ h0 e2 => ?_)
  obtain ⟨D, ⟨es, clock, hb2, _⟩, _⟩ := hm
  have e3 : ad.block = mb := e2
  have hbk : (ad.add 0).block = mb := by rw [addS_block]; exact e3
  unfold World.cell? at h0
  rw [hbk, hb2] at h0
  cases h0
theorem ColOk.map {w w' : World} {mb n : Nat} {S : ByteArray → ByteArray → Bool} {c : Col} (h : ColOk w c) (hm : Marks w mb n S) (hc : Ch (fun j => j = mb) w w') : ColOk w' c := ⟨h.words.map hm hc, h.few, h.short, h.shorts, h.lo1, h.lo2, h.hi1, h.hi2⟩

theorem step_of {W : World} {g k gf : Nat} {v : Value} {n : Int} {cb : Array Value} {J' : World → Prop} {R' : Int → World → Prop} (hcell : W.cell? ⟨g, k, none⟩ = some v) (hk : ChkAt W v n gf cb) (hn : n ≠ 0) (eg : ∀ args w, (callFunc gf args).run Tryd.prog w = .ok (.enter gf args) w)
    (hg : Calls Tryd.prog gf cb W fun e W' => ∃ b, e = .returned (.bool b) ∧ (∀ i t u, Boxed W i t u → Boxed W' i t u) ∧ (b = true → J' W') ∧ (b = false → R' n W')) :
    ∃ cap, W.cell? ⟨g, k, none⟩ = some (.func (.func 83) #[] cap) ∧ Calls Tryd.prog 83 cap W fun e W' => ∃ r, e = .returned (.int .i64 r) ∧ (r = 0 → J' W') ∧ (r ≠ 0 → R' r W') := by
  obtain ⟨cap, rfl, hc⟩ := check_any (J := J') (R := R' n) hk eg hg
  refine ⟨cap, hcell, hc.mono ?_⟩
  rintro e W' ⟨r, rfl, ⟨rfl, h⟩ | ⟨rfl, h⟩⟩
  · exact ⟨0, rfl, fun _ => h, fun h' => absurd rfl h'⟩
  · exact ⟨_, rfl, fun h' => absurd h' hn, fun _ => h⟩

theorem en_c1 : ∀ args w, (callFunc 66 args).run Tryd.prog w = .ok (.enter 66 args) w := enters_of Tryd.func66 (by kernel_rfl) rfl
theorem en_c2 : ∀ args w, (callFunc 67 args).run Tryd.prog w = .ok (.enter 67 args) w := enters_of Tryd.func67 (by kernel_rfl) rfl
theorem en_c3 : ∀ args w, (callFunc 69 args).run Tryd.prog w = .ok (.enter 69 args) w := enters_of Tryd.func69 (by kernel_rfl) rfl
theorem en_w1 : ∀ args w, (callFunc 84 args).run Tryd.prog w = .ok (.enter 84 args) w := enters_of Tryd.func84 (by kernel_rfl) rfl
theorem en_w2 : ∀ args w, (callFunc 85 args).run Tryd.prog w = .ok (.enter 85 args) w := enters_of Tryd.func85 (by kernel_rfl) rfl
theorem en_w3 : ∀ args w, (callFunc 87 args).run Tryd.prog w = .ok (.enter 87 args) w := enters_of Tryd.func87 (by kernel_rfl) rfl
theorem en_w4 : ∀ args w, (callFunc 88 args).run Tryd.prog w = .ok (.enter 88 args) w := enters_of Tryd.func88 (by kernel_rfl) rfl

/-- The marks behind a column. -/
def markC (S : ByteArray → ByteArray → Bool) (c : Col) : ByteArray → ByteArray → Bool := putL (putS S ⟨#[]⟩ c.name) c.name c.ws
/-- What is asked of the marks ahead of a column. -/
structure Seen (names : List ByteArray) (S : ByteArray → ByteArray → Bool) : Prop where
  fore : ∀ x, S ⟨#[]⟩ x = memB x names
  other : ∀ c' x, c' ≠ ⟨#[]⟩ → memB c' names = false → S c' x = false
theorem nmB_empty {s : ByteArray} (h : nmB s = true) : s ≠ ⟨#[]⟩ := by rintro rfl; cases h
theorem Seen.word {names : List ByteArray} {S : ByteArray → ByteArray → Bool} (h : Seen names S) {c : Col} (h1 : nmB c.name = true) (h2 : memB c.name names = false) : ∀ x, putS S ⟨#[]⟩ c.name c.name x = false := by
  intro x
  unfold putS
  rw [h.other c.name x (nmB_empty h1) h2, decide_eq_false (p := c.name = ⟨#[]⟩) (nmB_empty h1)]; rfl
theorem Seen.step {names : List ByteArray} {S : ByteArray → ByteArray → Bool} (h : Seen names S) {c : Col} (h1 : nmB c.name = true) : Seen (names ++ [c.name]) (markC S c) := by
  constructor
  · intro x
    unfold markC putL putS
    rw [h.fore, memB_snoc, decide_eq_false (p := (⟨#[]⟩ : ByteArray) = c.name) (fun e => nmB_empty h1 e.symm)]
    simp
  · intro c' x h3 h4
    rw [memB_snoc, Bool.or_eq_false_iff] at h4
    unfold markC putL putS
    rw [h.other c' x h3 h4.1, decide_eq_false h3, h4.2]; rfl

end Go.Proofs.YtgehldadfaonbaaDoor
