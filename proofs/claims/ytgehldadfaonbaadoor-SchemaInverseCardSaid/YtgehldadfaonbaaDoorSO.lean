/-
  firstError of a column's checks.
-/
import Derived.Test.YtgehldadfaonbaaDoorSN
namespace Go.Proofs.YtgehldadfaonbaaDoor
open Go.RowKit Go.Shelf Go.ChangeMaps Go.Maps

/-- What holds ahead of check k of a column: what the checks before it have found, and the marks. -/
structure ColJ (w : World) (mb n : Nat) (S : ByteArray → ByteArray → Bool) (names : List ByteArray) (c : Col) (k : Nat) (W : World) : Prop where
  ch : Ch (fun j => j = mb) w W
  p1 : 1 ≤ k → nmB c.name = true
  p2 : 2 ≤ k → memB c.name names = false
  p3 : 3 ≤ k → c.ws.length ≤ 64
  p4 : 4 ≤ k → c.ws.all nmB = true
  p5 : 5 ≤ k → twiceB c.ws = false
  p6 : 6 ≤ k → placeB c = true
  m1 : k ≤ 1 → Marks W mb n S
  m2 : 2 ≤ k → k ≤ 4 → Marks W mb (n + 1) (putS S ⟨#[]⟩ c.name)
  m3 : 5 ≤ k → Marks W mb (n + 1 + c.ws.length) (markC S c)
theorem keepM {w w' : World} {mb n : Nat} {S : ByteArray → ByteArray → Bool} (hm : Marks w mb n S) (hc : Ch (fun j => j = mb) w w') : ∀ i t u, Boxed w i t u → Boxed w' i t u := fun _ _ _ h => hc.boxed (hm.cells h) h

theorem boolR {v : Bool} {e : Ending} (h : e = .returned (.bool v)) : ∃ b, e = .returned (.bool b) ∧ b = v := ⟨v, h, rfl⟩

set_option maxHeartbeats 1600000 in
/-- A column with words. -/
theorem colFirst_words {w : World} {g cap b q bi bl bw qw mb n : Nat} {c : Col} {v0 v1 u0 u1 u2 u3 : Value} {S : ByteArray → ByteArray → Bool} {names : List ByteArray}
    (hl : ListAt w g [v0, v1, u0, u1, u2, u3]) (hg : ∃ cs, w.heap[g]? = some (.cells cs 87 (0, 0))) (hh : HeadAt w b q bi mb c v0 v1) (hw : WordsAt w bl bw qw mb c u0 u1 u2 u3) (hm : Marks w mb n S) (ho : ColOk w c) (hR : Res w) (hs : Seen names S) (hn : n + 65 < maxLen) (hlen : c.ws.length ≠ 0) :
    Calls Tryd.prog 39 #[.slice (some ⟨g, 0, none⟩) 6 cap] w fun e w' => e = .returned (.int .i64 (chkC names c)) ∧ Ch (fun j => j = mb) w w' ∧ (chkC names c = 0 → Marks w' mb (n + 1 + c.ws.length) (markC S c)) := by
  obtain ⟨cs, hg⟩ := hg
  have hcell : ∀ W, Ch (fun j => j = mb) w W → ∀ j v, [v0, v1, u0, u1, u2, u3][j]? = some v → W.cell? ⟨g, j, none⟩ = some v := fun W hc j v hv => hc.cell (hm.cells hg) (hl j v hv)
  have hRW : ∀ W, Ch (fun j => j = mb) w W → Res W := fun W hc => hR.ch hc (by obtain ⟨t, fr, hr⟩ := hR; exact hm.cells hr)
  refine (first_any (c := cap) (ColJ w mb n S names c) (fun r W => Ch (fun j => j = mb) w W ∧ r = chkC names c ∧ r ≠ 0) (by omega) ?_ ⟨Ch.refl _ _, fun h => by omega, fun h => by omega, fun h => by omega, fun h => by omega, fun h => by omega, fun h => by omega, fun _ => hm, fun h => by omega, fun h => by omega⟩).mono ?_
  · intro k W hk J
    have hc := J.ch
    have hhW := hh.map hm hc
    have hwW := hw.map hm hc
    have hoW := ho.map hm hc
    have hRW' := hRW W hc
    rcases (show k = 0 ∨ k = 1 ∨ k = 2 ∨ k = 3 ∨ k = 4 ∨ k = 5 by omega) with rfl | rfl | rfl | rfl | rfl | rfl
    · refine step_of (hcell W hc 0 v0 rfl) hhW.k0 (by omega) en_c1 ((cc1_any hhW.col hRW').mono ?_)
      rintro e W' ⟨rfl, hb⟩
      have hmW := J.m1 (by omega)
      have hc' : Ch (fun j => j = mb) w W' := hc.trans (Ch.below hb)
      refine ⟨_, rfl, fun i t u h => keepB hb h, fun h => ⟨hc', fun _ => h, fun h => by omega, fun h => by omega, fun h => by omega, fun h => by omega, fun h => by omega, fun _ => hmW.ch (Ch.below (S := fun _ => False) hb) (fun h => h), fun h => by omega, fun h => by omega⟩, fun h => ⟨hc', ?_, by omega⟩⟩
      unfold chkC; rw [if_pos h]
    · have hmW := J.m1 (by omega)
      refine step_of (hcell W hc 1 v1 rfl) hhW.k1 (by omega) en_c2 ((cc2_any hhW.col hhW.box hhW.isin hmW hoW.short (by omega)).mono ?_)
      rintro e W' ⟨rfl, hm', hc2⟩
      have hc' : Ch (fun j => j = mb) w W' := hc.trans hc2
      have hsx : S ⟨#[]⟩ c.name = memB c.name names := hs.fore _
      refine ⟨_, rfl, keepM hmW hc2, fun h => ⟨hc', fun _ => J.p1 (by omega), fun _ => by rw [hsx] at h; simpa using h, fun h => by omega, fun h => by omega, fun h => by omega, fun h => by omega, fun h => by omega, fun _ _ => hm', fun h => by omega⟩, fun h => ⟨hc', ?_, by omega⟩⟩
      rw [hsx] at h
      unfold chkC; rw [if_neg (by rw [J.p1 (by omega)]; decide), if_pos (by simpa using h)]
    · have hmW := J.m2 (by omega) (by omega)
      refine step_of (hcell W hc 2 u0 rfl) hwW.k0 (by omega) en_w1 ((wc1_any hwW.col hoW.few).mono ?_)
      rintro e W' ⟨rfl, rfl⟩
      refine ⟨_, rfl, fun i t u h => h, fun h => ⟨hc, fun _ => J.p1 (by omega), fun _ => J.p2 (by omega), fun _ => of_decide_eq_true h, fun h => by omega, fun h => by omega, fun h => by omega, fun h => by omega, fun _ _ => hmW, fun h => by omega⟩, fun h => ⟨hc, ?_, by omega⟩⟩
      have h64 := of_decide_eq_false h
      unfold chkC; rw [if_neg (by rw [J.p1 (by omega)]; decide), if_neg (by rw [J.p2 (by omega)]; decide), if_neg hlen, if_pos (by omega)]
    · have hmW := J.m2 (by omega) (by omega)
      refine step_of (hcell W hc 3 u1 rfl) hwW.k1 (by omega) en_w2 ((wc2_any hwW.col hoW hRW').mono ?_)
      rintro e W' ⟨rfl, hb⟩
      have hc' : Ch (fun j => j = mb) w W' := hc.trans (Ch.below hb)
      have h64 := J.p3 (by omega)
      refine ⟨_, rfl, fun i t u h => keepB hb h, fun h => ⟨hc', fun _ => J.p1 (by omega), fun _ => J.p2 (by omega), fun _ => h64, fun _ => h, fun h => by omega, fun h => by omega, fun h => by omega, fun _ _ => hmW.ch (Ch.below (S := fun _ => False) hb) (fun h => h), fun h => by omega⟩, fun h => ⟨hc', ?_, by omega⟩⟩
      unfold chkC; rw [if_neg (by rw [J.p1 (by omega)]; decide), if_neg (by rw [J.p2 (by omega)]; decide), if_neg hlen, if_neg (by omega), if_pos h]
    · have hmW := J.m2 (by omega) (by omega)
      have h64 := J.p3 (by omega)
      refine step_of (hcell W hc 4 u2 rfl) hwW.k2 (by omega) en_w3 ((wc3_any hwW.col hoW hwW.box hmW (hs.word (J.p1 (by omega)) (J.p2 (by omega))) (by omega)).mono ?_)
      rintro e W' ⟨rfl, hm', hc2⟩
      have hc' : Ch (fun j => j = mb) w W' := hc.trans hc2
      refine ⟨_, rfl, keepM hmW hc2, fun h => ?_, fun h => ⟨hc', ?_, by omega⟩⟩
      · have ht : twiceB c.ws = false := by simpa using h
        exact ⟨hc', fun _ => J.p1 (by omega), fun _ => J.p2 (by omega), fun _ => h64, fun _ => J.p4 (by omega), fun _ => ht, fun h => by omega, fun h => by omega, fun _ h => by omega, fun _ => hm' ht⟩
      · have ht : twiceB c.ws = true := by simpa using h
        unfold chkC; rw [if_neg (by rw [J.p1 (by omega)]; decide), if_neg (by rw [J.p2 (by omega)]; decide), if_neg hlen, if_neg (by omega), if_neg (by rw [J.p4 (by omega)]; decide), if_pos ht]
    · have hmW := J.m3 (by omega)
      have h64 := J.p3 (by omega)
      refine step_of (hcell W hc 5 u3 rfl) hwW.k3 (by omega) en_w4 ((wc4_any hwW.col hoW.few).mono ?_)
      rintro e W' ⟨rfl, rfl⟩
      refine ⟨_, rfl, fun i t u h => h, fun h => ⟨hc, fun _ => J.p1 (by omega), fun _ => J.p2 (by omega), fun _ => h64, fun _ => J.p4 (by omega), fun _ => J.p5 (by omega), fun _ => h, fun h => by omega, fun _ h => by omega, fun _ => hmW⟩, fun h => ⟨hc, ?_, by omega⟩⟩
      unfold chkC; rw [if_neg (by rw [J.p1 (by omega)]; decide), if_neg (by rw [J.p2 (by omega)]; decide), if_neg hlen, if_neg (by omega), if_neg (by rw [J.p4 (by omega)]; decide), if_neg (by rw [J.p5 (by omega)]; decide), if_neg (by rw [h]; decide)]
  · rintro e W ⟨r, rfl, hy, hn'⟩
    by_cases hr : r = 0
    · subst hr
      have J := hy rfl
      have h64 := J.p3 (by omega)
      have e0 : chkC names c = 0 := by unfold chkC; rw [if_neg (by rw [J.p1 (by omega)]; decide), if_neg (by rw [J.p2 (by omega)]; decide), if_neg hlen, if_neg (by omega), if_neg (by rw [J.p4 (by omega)]; decide), if_neg (by rw [J.p5 (by omega)]; decide), if_pos (J.p6 (by omega))]
      exact ⟨by rw [e0], J.ch, fun _ => J.m3 (by omega)⟩
    · obtain ⟨hc, e0, _⟩ := hn' hr
      exact ⟨by rw [e0], hc, fun h => absurd (e0.trans h) hr⟩

/-- The same for a column without words. -/
structure ColN (w : World) (mb n : Nat) (S : ByteArray → ByteArray → Bool) (names : List ByteArray) (c : Col) (k : Nat) (W : World) : Prop where
  ch : Ch (fun j => j = mb) w W
  p1 : 1 ≤ k → nmB c.name = true
  p2 : 2 ≤ k → memB c.name names = false
  p3 : 3 ≤ k → rangeB c = true
  m1 : k ≤ 1 → Marks W mb n S
  m2 : 2 ≤ k → Marks W mb (n + 1) (putS S ⟨#[]⟩ c.name)

set_option maxHeartbeats 1600000 in
/-- A column without words. -/
theorem colFirst_none {w : World} {g cap b q bi mb n : Nat} {c : Col} {v0 v1 u : Value} {S : ByteArray → ByteArray → Bool} {names : List ByteArray}
    (hl : ListAt w g [v0, v1, u]) (hg : ∃ cs, w.heap[g]? = some (.cells cs 87 (0, 0))) (hh : HeadAt w b q bi mb c v0 v1) (hu : ChkAt w u 2 69 #[.pointer (some ⟨b, 0, none⟩)]) (hm : Marks w mb n S) (ho : ColOk w c) (hR : Res w) (hs : Seen names S) (hn : n + 1 < maxLen) (hlen : c.ws.length = 0) :
    Calls Tryd.prog 39 #[.slice (some ⟨g, 0, none⟩) 3 cap] w fun e w' => e = .returned (.int .i64 (chkC names c)) ∧ Ch (fun j => j = mb) w w' ∧ (chkC names c = 0 → Marks w' mb (n + 1 + c.ws.length) (markC S c)) := by
  obtain ⟨cs, hg⟩ := hg
  have hcell : ∀ W, Ch (fun j => j = mb) w W → ∀ j v, [v0, v1, u][j]? = some v → W.cell? ⟨g, j, none⟩ = some v := fun W hc j v hv => hc.cell (hm.cells hg) (hl j v hv)
  have hRW : ∀ W, Ch (fun j => j = mb) w W → Res W := fun W hc => hR.ch hc (by obtain ⟨t, fr, hr⟩ := hR; exact hm.cells hr)
  refine (first_any (c := cap) (ColN w mb n S names c) (fun r W => Ch (fun j => j = mb) w W ∧ r = chkC names c ∧ r ≠ 0) (by omega) ?_ ⟨Ch.refl _ _, fun h => by omega, fun h => by omega, fun h => by omega, fun _ => hm, fun h => by omega⟩).mono ?_
  · intro k W hk J
    have hc := J.ch
    have hhW := hh.map hm hc
    have huW := hu.map hm hc
    have hoW := ho.map hm hc
    have hRW' := hRW W hc
    rcases (show k = 0 ∨ k = 1 ∨ k = 2 by omega) with rfl | rfl | rfl
    · refine step_of (hcell W hc 0 v0 rfl) hhW.k0 (by omega) en_c1 ((cc1_any hhW.col hRW').mono ?_)
      rintro e W' ⟨rfl, hb⟩
      have hmW := J.m1 (by omega)
      have hc' : Ch (fun j => j = mb) w W' := hc.trans (Ch.below hb)
      refine ⟨_, rfl, fun i t u h => keepB hb h, fun h => ⟨hc', fun _ => h, fun h => by omega, fun h => by omega, fun _ => hmW.ch (Ch.below (S := fun _ => False) hb) (fun h => h), fun h => by omega⟩, fun h => ⟨hc', ?_, by omega⟩⟩
      unfold chkC; rw [if_pos h]
    · have hmW := J.m1 (by omega)
      refine step_of (hcell W hc 1 v1 rfl) hhW.k1 (by omega) en_c2 ((cc2_any hhW.col hhW.box hhW.isin hmW hoW.short (by omega)).mono ?_)
      rintro e W' ⟨rfl, hm', hc2⟩
      have hc' : Ch (fun j => j = mb) w W' := hc.trans hc2
      have hsx : S ⟨#[]⟩ c.name = memB c.name names := hs.fore _
      refine ⟨_, rfl, keepM hmW hc2, fun h => ⟨hc', fun _ => J.p1 (by omega), fun _ => by rw [hsx] at h; simpa using h, fun h => by omega, fun h => by omega, fun _ => hm'⟩, fun h => ⟨hc', ?_, by omega⟩⟩
      rw [hsx] at h
      unfold chkC; rw [if_neg (by rw [J.p1 (by omega)]; decide), if_pos (by simpa using h)]
    · have hmW := J.m2 (by omega)
      refine step_of (hcell W hc 2 u rfl) huW (by omega) en_c3 ((cc3_any hhW.col).mono ?_)
      rintro e W' ⟨rfl, rfl⟩
      refine ⟨_, rfl, fun i t u h => h, fun h => ⟨hc, fun _ => J.p1 (by omega), fun _ => J.p2 (by omega), fun _ => h, fun h => by omega, fun _ => hmW⟩, fun h => ⟨hc, ?_, by omega⟩⟩
      unfold chkC; rw [if_neg (by rw [J.p1 (by omega)]; decide), if_neg (by rw [J.p2 (by omega)]; decide), if_pos hlen, if_neg (by rw [h]; decide)]
  · rintro e W ⟨r, rfl, hy, hn'⟩
    by_cases hr : r = 0
    · subst hr
      have J := hy rfl
      have e0 : chkC names c = 0 := by unfold chkC; rw [if_neg (by rw [J.p1 (by omega)]; decide), if_neg (by rw [J.p2 (by omega)]; decide), if_pos hlen, if_pos (J.p3 (by omega))]
      refine ⟨by rw [e0], J.ch, fun _ => ?_⟩
      have hw : c.ws = [] := List.eq_nil_of_length_eq_zero hlen
      unfold markC
      rw [hw]
      exact (J.m2 (by omega)).congr (putL_nil _ _)
    · obtain ⟨hc, e0, _⟩ := hn' hr
      exact ⟨by rw [e0], hc, fun h => absurd (e0.trans h) hr⟩

end Go.Proofs.YtgehldadfaonbaaDoor
