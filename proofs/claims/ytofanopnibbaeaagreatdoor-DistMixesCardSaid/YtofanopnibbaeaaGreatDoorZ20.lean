/-
  DistSets: what it asks of two distributions and a factor.
-/
import Derived.Test.YtofanopnibbaeaaGreatDoorZ19
namespace Go.Proofs.YtofanopnibbaeaaGreatDoor
open Go.RowKit NV Go.Maps Go.Sort Go.Shelf
open Go.Lib (decDigits)

theorem Sz.zero : Sz 1 0 := ⟨by decide, by decide⟩
theorem sm_sz {g : Nat → Rat} {c : Nat} : ∀ {n : Nat}, (∀ i, i < n → Sz c (g i)) → Sz (n * (c + 1) + 1) (sm g n)
  | 0, _ => Sz.zero.mono (by omega)
  | n + 1, h => by
    have h1 := sm_sz (n := n) (fun i hi => h i (by omega))
    have h2 := Sz.add h1 (h n (by omega))
    exact h2.mono (by rw [Nat.succ_mul]; omega)
theorem mx0_sz {q : Rat} {k : Nat} (hk : 1 ≤ k) (h : Sz k q) : Sz k (mx0 q) := by
  unfold mx0
  split
  · exact h
  · exact Sz.zero.mono hk
theorem lit_sz {L : List MI} (h : litB L = true) (hok : OKM L) : ∀ k, k < L.length → Sz 24 (qZ L k) := fun k hk => by
  have hx : L[k]? = some L[k] := List.getElem?_eq_getElem hk
  obtain ⟨h1, _⟩ := hok.at hx
  have h2 := ((litB_yes h).2 L[k] (List.getElem_mem hk)).2
  rw [h1] at h2
  exact Sz.of (by omega) h2
theorem vQ_sz {L : List MI} (h : litB L = true) (hok : OKM L) (key : List UInt8) : Sz 24 (vQ L key) := by
  unfold vQ
  cases hh : hasZ key L with
  | true =>
    obtain ⟨x, hx, _, e⟩ := val_mem hh
    rw [e]
    have h2 := ((litB_yes h).2 x hx).2
    have h3 := (ratS_ok (hok x hx)).1
    rw [h3] at h2
    exact Sz.of (by omega) h2
  | false => rw [val_no hh, rat0Z]; exact Sz.zero.mono (by omega)
theorem vQ_nonneg {L : List MI} (hpos : ∀ k, k < L.length → 0 < qZ L k) (key : List UInt8) : 0 ≤ vQ L key := by
  unfold vQ
  cases hh : hasZ key L with
  | true =>
    obtain ⟨x, hx, _, e⟩ := val_mem hh
    rw [e]
    obtain ⟨j, hj, rfl⟩ := List.mem_iff_getElem.1 hx
    have := hpos j hj
    unfold qZ at this
    rw [getZ_of (List.getElem?_eq_getElem hj)] at this
    exact Rat.le_of_lt this
  | false => rw [val_no hh, rat0Z]; exact Rat.le_refl
/-- The sum that Check finds. -/
theorem sumE_run {g : Nat → Rat} {n : Nat} (h : sumE g n = 0) : runO (addS g) 0 n = some 1 := by
  unfold sumE at h
  cases hr : runO (addS g) 0 n with
  | none => rw [hr] at h; cases h
  | some s =>
    rw [hr] at h
    have h2 : (if s = 1 then 0 else 15) = 0 := h
    by_cases h3 : s = 1
    · rw [h3]
    · rw [if_neg h3] at h2; cases h2
theorem addS_sm {g : Nat → Rat} : ∀ {n : Nat} {s : Rat}, runO (addS g) 0 n = some s → s = sm g n
  | 0, s, h => (Option.some.inj h).symm
  | n + 1, s, h => by
    obtain ⟨t, ht⟩ := runO_some h n (by omega)
    rw [runO_step ht] at h
    obtain ⟨e, _⟩ := okQ_some h
    rw [← e, addS_sm ht]; rfl
theorem sum_one {L : List MI} (h : chkZ L = 0) : sm (qZ L) L.length = 1 := (addS_sm (sumE_run (chk_ok h).2.2.1)).symm

/-- The differences that Delta adds. -/
def dD (P Q : List MI) (f : Rat) (i : Nat) : Rat := mx0 (qZ P i - f * vQ Q (kZ (getZ P i)))
theorem dlt_run {P Q : List MI} {f : Rat} (hp : litB P = true) (hq : litB Q = true) (hop : OKM P) (hoq : OKM Q) (hf : Sz 24 f) :
    dltO P Q f = some (sm (dD P Q f) P.length) ∧ ∀ n, n ≤ P.length → Sz (n * 74 + 1) (sm (dD P Q f) n) := by
  have h16 := (litB_yes hp).1
  have hd : ∀ i, i < P.length → Sz 73 (dD P Q f i) := fun i hi => by
    have h1 := lit_sz hp hop i hi
    have h2 := Sz.mul hf (vQ_sz hq hoq (kZ (getZ P i)))
    exact mx0_sz (by omega) (Sz.sub h1 h2)
  have hs : ∀ n, n ≤ P.length → Sz (n * 74 + 1) (sm (dD P Q f) n) := fun n hn => sm_sz (c := 73) (fun i hi => hd i (by omega))
  refine ⟨?_, hs⟩
  unfold dltO
  refine runO_sm fun k hk => ?_
  unfold dltF exO
  have h1 := lit_sz hp hop k hk
  have h2 := Sz.mul hf (vQ_sz hq hoq (kZ (getZ P k)))
  have h3 := Sz.sub h1 h2
  rw [okQ_yes (h2.qok (by omega) (by omega))]
  show (((okQ (qZ P k + -(f * vQ Q (kZ (getZ P k))))).map mx0).bind fun d => okQ (sm (dD P Q f) k + d)) = _
  rw [← Rat.sub_eq_add_neg, okQ_yes (h3.qok (by omega) (by omega))]
  show okQ (sm (dD P Q f) k + dD P Q f k) = _
  exact okQ_yes ((hs (k + 1) (by omega)).qok (by omega) (by omega))

/-- A text is returned. -/
def Rt (t : ByteArray) (W : World) (e : Ending) (w' : World) : Prop := e = .returned (.string t) ∧ Below W.heap.size W w'
def Rb (b : Bool) (W : World) (e : Ending) (w' : World) : Prop := e = .returned (.bool b) ∧ Below W.heap.size W w'
/-- What a walk of DistSets asks. -/
structure SetsF (P : List MI) (sf : ByteArray) (sel ge : Nat → Bool) (tx ty tu tv pb tm : Nat → ByteArray) (td e1 e2 e3 e4 : ByteArray) : Prop where
  z : tx 0 = ⟨#[48]⟩ ∧ ty 0 = ⟨#[48]⟩ ∧ tu 0 = ⟨#[48]⟩ ∧ tv 0 = ⟨#[48]⟩
  px : ∀ i W, i < P.length → sel i = true → Calls Tryz.prog 37 #[.string (tx i), .string (getZ P i).2] W (Rt (tx (i + 1)) W)
  py : ∀ i W, i < P.length → sel i = true → Calls Tryz.prog 37 #[.string (ty i), .string (pb i)] W (Rt (ty (i + 1)) W)
  pxy0 : ∀ i, i < P.length → sel i = false → tx (i + 1) = tx i ∧ ty (i + 1) = ty i
  pu : ∀ i W, i < P.length → ge i = false → Calls Tryz.prog 37 #[.string (tu i), .string (getZ P i).2] W (Rt (tu (i + 1)) W)
  pv : ∀ i W, i < P.length → ge i = false → Calls Tryz.prog 37 #[.string (tv i), .string (pb i)] W (Rt (tv (i + 1)) W)
  puv0 : ∀ i, i < P.length → ge i = true → tu (i + 1) = tu i ∧ tv (i + 1) = tv i
  tmm : ∀ i W, i < P.length → Calls Tryz.prog 36 #[.string sf, .string (pb i)] W (Rt (tm i) W)
  le : ∀ i W, i < P.length → Calls Tryz.prog 33 #[.string (getZ P i).2, .string (tm i)] W (Rb (ge i) W)
  t1 : ∀ W, Calls Tryz.prog 36 #[.string sf, .string (ty P.length)] W (Rt e1 W)
  p1 : ∀ W, Calls Tryz.prog 37 #[.string e1, .string td] W (Rt e2 W)
  l1 : ∀ W, Calls Tryz.prog 33 #[.string (tx P.length), .string e2] W (Rb true W)
  t2 : ∀ W, Calls Tryz.prog 36 #[.string sf, .string (tv P.length)] W (Rt e3 W)
  p2 : ∀ W, Calls Tryz.prog 37 #[.string e3, .string td] W (Rt e4 W)
  eq : tu P.length = e4
  l2 : ∀ W, Calls Tryz.prog 33 #[.string ⟨#[48]⟩, .string td] W (Rb true W)
  l3 : ∀ W, Calls Tryz.prog 33 #[.string td, .string ⟨#[49]⟩] W (Rb true W)

theorem sets_ok {P Q : List MI} {f : Rat} (sel : Nat → Bool) (hp : litB P = true) (hq : litB Q = true) (hcp : chkZ P = 0) (hcq : chkZ Q = 0) (hf : Sz 24 f) (hf0 : 0 ≤ f) :
    ∃ ge tx ty tu tv tm e1 e2 e3 e4, SetsF P (qstr f) sel ge tx ty tu tv (fun i => qstr (vQ Q (kZ (getZ P i)))) tm (qstr (sm (dD P Q f) P.length)) e1 e2 e3 e4 := by
  obtain ⟨hop, _, _, hpp⟩ := chk_ok hcp
  obtain ⟨hoq, _, _, hpq⟩ := chk_ok hcq
  have h16 := (litB_yes hp).1
  obtain ⟨_, hds⟩ := dlt_run hp hq hop hoq hf
  obtain ⟨N, hN⟩ : ∃ N, P.length = N := ⟨_, rfl⟩
  have hone := sum_one hcp
  obtain ⟨a, ha⟩ : ∃ a, a = qZ P := ⟨_, rfl⟩
  obtain ⟨b, hb⟩ : ∃ b : Nat → Rat, b = fun i => vQ Q (kZ (getZ P i)) := ⟨_, rfl⟩
  have hd : dD P Q f = fun i => mx0 (a i - f * b i) := by funext i; rw [ha, hb]; rfl
  have sa : ∀ i, i < N → Sz 24 (a i) := fun i hi => by rw [ha]; exact lit_sz hp hop i (by omega)
  have sb : ∀ i, Sz 24 (b i) := fun i => by rw [hb]; exact vQ_sz hq hoq _
  have pa : ∀ i, i < N → 0 < a i := fun i hi => by rw [ha]; exact hpp i (by omega)
  have nb : ∀ i, 0 ≤ b i := fun i => by rw [hb]; exact vQ_nonneg hpq _
  have ga : ∀ i, i < N → (getZ P i).2 = qstr (a i) := fun i hi => by
    rw [ha]
    have hx : P[i]? = some P[i] := List.getElem?_eq_getElem (by omega)
    rw [getZ_of hx]; exact (hop.at hx).1
  have sq : ∀ {k : Nat} {q : Rat}, Sz k q → k ≤ 4000 → QOk q := fun {k q} h hk => by
    rcases Nat.eq_zero_or_pos k with h0 | h0
    · subst h0; exact (h.mono (Nat.zero_le 1)).qok (by omega) (by omega)
    · exact h.qok h0 hk
  have sx : ∀ (s : Nat → Bool) (n : Nat), n ≤ N → Sz (n * 25 + 1) (sm (fun i => if s i then a i else 0) n) := fun s n hn => sm_sz (c := 24) (fun i hi => by
    show Sz 24 (if s i then a i else 0)
    split
    · exact sa i (by omega)
    · exact Sz.zero.mono (by omega))
  have sy : ∀ (s : Nat → Bool) (n : Nat), Sz (n * 25 + 1) (sm (fun i => if s i then b i else 0) n) := fun s n => sm_sz (c := 24) (fun i hi => by
    show Sz 24 (if s i then b i else 0)
    split
    · exact sb i
    · exact Sz.zero.mono (by omega))
  have stp : ∀ (s : Nat → Bool) (g : Nat → Rat) i, s i = true → sm (fun i => if s i then g i else 0) (i + 1) = sm (fun i => if s i then g i else 0) i + g i := fun s g i h => by
    show _ + (if s i then g i else 0) = _
    rw [h]; rfl
  have stn : ∀ (s : Nat → Bool) (g : Nat → Rat) i, s i = false → sm (fun i => if s i then g i else 0) (i + 1) = sm (fun i => if s i then g i else 0) i := fun s g i h => by
    show _ + (if s i then g i else 0) = _
    rw [h]
    show _ + (0 : Rat) = _
    rw [Rat.add_zero]
  obtain ⟨gr, hgr⟩ : ∃ gr : Nat → Bool, gr = fun i => decide (f * b i < a i) := ⟨_, rfl⟩
  have hge : ∀ i, (!decide (a i ≤ f * b i)) = gr i := fun i => by
    rw [hgr]
    by_cases h : a i ≤ f * b i
    · rw [decide_eq_true h]
      show false = decide (f * b i < a i)
      rw [decide_eq_false (Rat.not_lt.2 h)]
    · rw [decide_eq_false h]
      show true = decide (f * b i < a i)
      rw [decide_eq_true (Rat.not_le.1 h)]
  have hsel := sets_le (a := a) (b := b) (f := f) (n := N) sel
  have heq := sets_eq (a := a) (b := b) (f := f) (n := N)
  have hmx := sets_one (a := a) (b := b) (f := f) (n := N) hf0 (fun i hi => Rat.le_of_lt (pa i hi)) (fun i _ => nb i) (by rw [ha, ← hN]; exact hone)
  have hnn := sets_pos (g := fun i => a i - f * b i) (n := N)
  rw [hN, hd]
  have sd : Sz (N * 74 + 1) (sm (fun i => mx0 (a i - f * b i)) N) := by
    have := hds N (by omega)
    rw [hd] at this; exact this
  generalize sm (fun i => mx0 (a i - f * b i)) N = dl at *
  have hgg : (fun i => if decide (f * b i < a i) then a i else 0) = fun i => if gr i then a i else 0 := by rw [hgr]
  have hgg2 : (fun i => if decide (f * b i < a i) then b i else 0) = fun i => if gr i then b i else 0 := by rw [hgr]
  rw [hgg, hgg2] at heq
  have sfy : ∀ s : Nat → Bool, Sz 425 (f * sm (fun i => if s i then b i else 0) N) := fun s => (Sz.mul hf (sy s N)).mono (by omega)
  have sfd : ∀ s : Nat → Bool, Sz 1700 (f * sm (fun i => if s i then b i else 0) N + dl) := fun s => (Sz.add (sfy s) sd).mono (by omega)
  refine ⟨fun i => decide (a i ≤ f * b i), fun k => qstr (sm (fun i => if sel i then a i else 0) k), fun k => qstr (sm (fun i => if sel i then b i else 0) k), fun k => qstr (sm (fun i => if gr i then a i else 0) k), fun k => qstr (sm (fun i => if gr i then b i else 0) k), fun i => qstr (f * b i),
    qstr (f * sm (fun i => if sel i then b i else 0) N), qstr (f * sm (fun i => if sel i then b i else 0) N + dl), qstr (f * sm (fun i => if gr i then b i else 0) N), qstr (f * sm (fun i => if gr i then b i else 0) N + dl), ?_⟩
  have hbb : (fun i => qstr (vQ Q (kZ (getZ P i)))) = fun i => qstr (b i) := by rw [hb]
  rw [hbb]
  have hgf : ∀ i, decide (a i ≤ f * b i) = false → gr i = true := fun i h => by rw [← hge i, h]; rfl
  have hgt : ∀ i, decide (a i ≤ f * b i) = true → gr i = false := fun i h => by rw [← hge i, h]; rfl
  constructor
  · exact ⟨q0Z, q0Z, q0Z, q0Z⟩
  · intro i W hi h
    rw [hN] at hi
    rw [ga i hi]
    have h1 := sx sel (i + 1) (by omega)
    show Calls _ _ #[.string (qstr (sm (fun i => if sel i then a i else 0) i)), _] W (Rt (qstr (sm (fun i => if sel i then a i else 0) (i + 1))) W)
    rw [stp sel a i h] at h1 ⊢
    exact lplus_q (sq (sx sel i (by omega)) (by omega)) (sq (sa i hi) (by omega)) (sq h1 (by omega)) W
  · intro i W hi h
    rw [hN] at hi
    have h1 := sy sel (i + 1)
    show Calls _ _ #[.string (qstr (sm (fun i => if sel i then b i else 0) i)), .string (qstr (b i))] W (Rt (qstr (sm (fun i => if sel i then b i else 0) (i + 1))) W)
    rw [stp sel b i h] at h1 ⊢
    exact lplus_q (sq (sy sel i) (by omega)) (sq (sb i) (by omega)) (sq h1 (by omega)) W
  · intro i hi h
    show qstr (sm (fun i => if sel i then a i else 0) (i + 1)) = qstr (sm (fun i => if sel i then a i else 0) i) ∧ qstr (sm (fun i => if sel i then b i else 0) (i + 1)) = qstr (sm (fun i => if sel i then b i else 0) i)
    rw [stn sel a i h, stn sel b i h]; exact ⟨rfl, rfl⟩
  · intro i W hi h
    rw [hN] at hi
    rw [ga i hi]
    have h1 := sx gr (i + 1) (by omega)
    show Calls _ _ #[.string (qstr (sm (fun i => if gr i then a i else 0) i)), _] W (Rt (qstr (sm (fun i => if gr i then a i else 0) (i + 1))) W)
    rw [stp gr a i (hgf i h)] at h1 ⊢
    exact lplus_q (sq (sx gr i (by omega)) (by omega)) (sq (sa i hi) (by omega)) (sq h1 (by omega)) W
  · intro i W hi h
    rw [hN] at hi
    have h1 := sy gr (i + 1)
    show Calls _ _ #[.string (qstr (sm (fun i => if gr i then b i else 0) i)), .string (qstr (b i))] W (Rt (qstr (sm (fun i => if gr i then b i else 0) (i + 1))) W)
    rw [stp gr b i (hgf i h)] at h1 ⊢
    exact lplus_q (sq (sy gr i) (by omega)) (sq (sb i) (by omega)) (sq h1 (by omega)) W
  · intro i hi h
    show qstr (sm (fun i => if gr i then a i else 0) (i + 1)) = qstr (sm (fun i => if gr i then a i else 0) i) ∧ qstr (sm (fun i => if gr i then b i else 0) (i + 1)) = qstr (sm (fun i => if gr i then b i else 0) i)
    rw [stn gr a i (hgt i h), stn gr b i (hgt i h)]; exact ⟨rfl, rfl⟩
  · intro i W hi
    exact ltimes_q (sq hf (by omega)) (sq (sb i) (by omega)) (sq (Sz.mul hf (sb i)) (by omega)) W
  · intro i W hi
    rw [hN] at hi
    rw [ga i hi]
    exact least_q (sq (sa i hi) (by omega)) (sq (Sz.mul hf (sb i)) (by omega)) W
  · intro W
    rw [hN]
    exact ltimes_q (sq hf (by omega)) (sq (sy sel N) (by omega)) (sq (sfy sel) (by omega)) W
  · intro W
    exact lplus_q (sq (sfy sel) (by omega)) (sq sd (by omega)) (sq (sfd sel) (by omega)) W
  · intro W
    rw [hN]
    have h := least_q (sq (sx sel N (Nat.le_refl _)) (by omega)) (sq (sfd sel) (by omega)) W
    rw [decide_eq_true hsel] at h
    exact h
  · intro W
    rw [hN]
    exact ltimes_q (sq hf (by omega)) (sq (sy gr N) (by omega)) (sq (sfy gr) (by omega)) W
  · intro W
    exact lplus_q (sq (sfy gr) (by omega)) (sq sd (by omega)) (sq (sfd gr) (by omega)) W
  · rw [hN]
    show qstr (sm (fun i => if gr i then a i else 0) N) = _
    rw [heq]
  · intro W
    have h := least_q qok_0 (sq sd (by omega)) W
    rw [decide_eq_true hnn, q0Z] at h
    exact h
  · intro W
    have h := least_q (p := dl) (q := 1) (sq sd (by omega)) (small_qok (by decide) (by decide)) W
    rw [decide_eq_true hmx, one_strZ] at h
    exact h

end Go.Proofs.YtofanopnibbaeaaGreatDoor
