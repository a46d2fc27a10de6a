/-
  Mathematics of pick: errors of weights, the items of a law. pick's rounded and power; weights' check. pick's scales: total, cell, find, holds. sort.Search; a scale's find and holds. A scale's cell, find and holds. A draw on a scale. Lists of weights; their check; uniform.
-/
import Derived.Test.YteojekiocecdnaaGreatDoorEA
import Derived.Test.YteojekiocecdnaaGreatDoorHB
import Derived.Test.YteojekiocecdnaaGreatDoorB13
import Derived.Test.YteojekiocecdnaaGreatDoorBC
import Derived.Deep.RegionHeld3
import Derived.Laws.EntriesVeiled
import Derived.Deep.QuietTactic
import Derived.BigQuiet
namespace Go.Proofs.YteojekiocecdnaaGreatDoor
open Go.RowKit NV
open Go.Lib (decDigits)

theorem ok_smallP {n k : Nat} (hk : k ≤ 4000) (h : n < 10 ^ k) : Ok n := by
  obtain ⟨K, hK⟩ : ∃ K, K = 4000 := ⟨_, rfl⟩
  have h1 := ok_iff n
  rw [← hK] at h1 hk
  exact h1.2 (Nat.lt_of_lt_of_le h (Nat.pow_le_pow_right (by omega) hk))
theorem dstr_injP {a b : Nat} (h : dstr a = dstr b) : a = b := by
  have h1 := congrArg (fun s : ByteArray => dv s.data.toList) h
  simpa only [dstr_list, dv_dec] using h1
theorem ba_extP {a b : ByteArray} (h : a.data.toList = b.data.toList) : a = b := ByteArray.ext (Array.toList_inj.1 h)
theorem zero_isP (p : Nat) : ((dstr p).toList == [48]) = decide (p = 0) := by
  by_cases h : p = 0
  · subst h; rw [decide_eq_true rfl, ← zero_str, Go.Lib.toList_data]; rfl
  · rw [decide_eq_false h]
    cases hb : ((dstr p).toList == [48]) with
    | false => rfl
    | true =>
      have h2 : (dstr p).data.toList = [48] := by rw [← Go.Lib.toList_data]; exact beq_iff_eq.1 hb
      exact absurd (dstr_injP (show dstr p = dstr 0 by rw [← zero_str]; exact ba_extP h2)) h
/-- The error of one weight; of the first k; of all. -/
def wE (s : ByteArray) : Nat := if chk s.data.toList ≠ 0 then chk s.data.toList else if 3800 < s.size then 5 else 0
def wEs (f : Nat → ByteArray) : Nat → Nat
  | 0 => 0
  | k + 1 => if wEs f k ≠ 0 then wEs f k else wE (f k)
def wZ (f : Nat → ByteArray) : Nat → Bool
  | 0 => true
  | k + 1 => wZ f k && ((f k).toList == [48])
def pickE (f : Nat → ByteArray) (N : Nat) : Nat := if N < 1 ∨ 64 < N then 2 else if wEs f N ≠ 0 then wEs f N else if wZ f N then 6 else 0

theorem wEs_stay {f : Nat → ByteArray} {k : Nat} (h : wEs f k ≠ 0) : ∀ e, wEs f (k + e) = wEs f k
  | 0 => rfl
  | e + 1 => by
    have h1 := wEs_stay h e
    show (if wEs f (k + e) ≠ 0 then wEs f (k + e) else wE (f (k + e))) = _
    rw [h1, if_pos h]
theorem wEs_at {f : Nat → ByteArray} {k N : Nat} (h0 : wEs f k = 0) (h1 : wE (f k) ≠ 0) (hk : k < N) : wEs f N = wE (f k) := by
  have h2 : wEs f (k + 1) = wE (f k) := by show (if wEs f k ≠ 0 then wEs f k else wE (f k)) = _; rw [h0]; rfl
  obtain ⟨e, rfl⟩ : ∃ e, N = k + 1 + e := ⟨N - (k + 1), by omega⟩
  rw [wEs_stay (by rw [h2]; exact h1) e, h2]
theorem wEs_step {f : Nat → ByteArray} {k : Nat} (h0 : wEs f k = 0) (h1 : wE (f k) = 0) : wEs f (k + 1) = 0 := by
  show (if wEs f k ≠ 0 then wEs f k else wE (f k)) = _; rw [h0]; exact h1
theorem wEs_all {f : Nat → ByteArray} : ∀ {N : Nat}, wEs f N = 0 → ∀ j, j < N → wE (f j) = 0
  | 0, _, j, hj => absurd hj (Nat.not_lt_zero _)
  | N + 1, h, j, hj => by
    have h' : (if wEs f N ≠ 0 then wEs f N else wE (f N)) = 0 := h
    by_cases h0 : wEs f N = 0
    · rw [h0] at h'
      rcases Nat.lt_or_ge j N with h1 | h1
      · exact wEs_all h0 j h1
      · obtain rfl : j = N := by omega
        exact h'
    · rw [if_pos h0] at h'; exact absurd h' h0
theorem wE_parts {s : ByteArray} (h : wE s = 0) : chk s.data.toList = 0 ∧ s.size ≤ 3800 := by
  unfold wE at h
  by_cases h0 : chk s.data.toList = 0
  · rw [if_neg (by omega)] at h
    refine ⟨h0, ?_⟩
    rcases Nat.lt_or_ge 3800 s.size with h1 | h1
    · rw [if_pos h1] at h; omega
    · exact h1
  · rw [if_pos h0] at h; exact absurd h h0
theorem wE_ok {a : Nat} (ha : Ok a) (hs : (dstr a).size ≤ 3800) : wE (dstr a) = 0 := by
  unfold wE
  rw [dstr_list, ha.chk, if_neg (by omega), if_neg (by omega)]
theorem wE_cases {s : ByteArray} (h : wE s ≠ 0) : (chk s.data.toList ≠ 0 ∧ wE s = chk s.data.toList) ∨ (chk s.data.toList = 0 ∧ 3800 < s.size ∧ wE s = 5) := by
  unfold wE at h ⊢
  by_cases h0 : chk s.data.toList = 0
  · rw [if_neg (by omega)] at h ⊢
    rcases Nat.lt_or_ge 3800 s.size with h1 | h1
    · rw [if_pos h1]; exact .inr ⟨h0, h1, rfl⟩
    · rw [if_neg (by omega)] at h; omega
  · rw [if_pos h0]; exact .inl ⟨h0, rfl⟩
theorem wZ_iff {f : Nat → ByteArray} : ∀ {N : Nat}, wZ f N = true ↔ ∀ j, j < N → ((f j).toList == [48]) = true
  | 0 => ⟨fun _ j hj => absurd hj (Nat.not_lt_zero _), fun _ => rfl⟩
  | N + 1 => by
    show (wZ f N && ((f N).toList == [48])) = true ↔ _
    rw [Bool.and_eq_true, wZ_iff]
    constructor
    · rintro ⟨h1, h2⟩ j hj
      rcases Nat.lt_or_ge j N with h3 | h3
      · exact h1 j h3
      · obtain rfl : j = N := by omega
        exact h2
    · exact fun h => ⟨fun j hj => h j (by omega), h N (by omega)⟩

/-- The numbers of weights. -/
def wN (f : Nat → ByteArray) (j : Nat) : Nat := dv (f j).data.toList
/-- Weights that may be drawn with. -/
structure WOk (f : Nat → ByteArray) (N : Nat) : Prop where
  one : 1 ≤ N
  most : N ≤ 64
  text : ∀ j, j < N → f j = dstr (wN f j)
  ok : ∀ j, j < N → Ok (wN f j)
  short : ∀ j, j < N → (dstr (wN f j)).size ≤ 3800
  pos : 0 < wsum (wN f) N
theorem pickE_ok {f : Nat → ByteArray} {N : Nat} (h : pickE f N = 0) : WOk f N := by
  unfold pickE at h
  by_cases h1 : N < 1 ∨ 64 < N
  · rw [if_pos h1] at h; omega
  rw [if_neg h1] at h
  by_cases h2 : wEs f N = 0
  · rw [if_neg (by omega)] at h
    have hz : wZ f N = false := by
      cases hz : wZ f N with
      | false => rfl
      | true => rw [hz] at h; simp at h
    have ht : ∀ j, j < N → f j = dstr (wN f j) ∧ Ok (wN f j) := fun j hj => by
      obtain ⟨a, ha, oa⟩ := text_of_chkB (wE_parts (wEs_all h2 j hj)).1
      have : wN f j = a := by unfold wN; rw [ha, dstr_list, dv_dec]
      rw [this]; exact ⟨ha, oa⟩
    refine ⟨by omega, by omega, fun j hj => (ht j hj).1, fun j hj => (ht j hj).2, fun j hj => by rw [← (ht j hj).1]; exact (wE_parts (wEs_all h2 j hj)).2, ?_⟩
    rcases Nat.eq_zero_or_pos (wsum (wN f) N) with h3 | h3
    · exfalso
      have h4 := wsum_zero.1 h3
      have : wZ f N = true := wZ_iff.2 fun j hj => by
        rw [(ht j hj).1, h4 j hj, zero_isP]; rfl
      rw [this] at hz; cases hz
    · exact h3
  · rw [if_pos h2] at h; exact absurd h h2
theorem pickE_of {f : Nat → ByteArray} {N : Nat} (h : WOk f N) : pickE f N = 0 := by
  have h1 := h.one
  have h2 := h.most
  have h3 : ∀ k, k ≤ N → wEs f k = 0 := fun k => by
    induction k with
    | zero => exact fun _ => rfl
    | succ k ih => exact fun hk => wEs_step (ih (by omega)) (by rw [h.text k hk]; exact wE_ok (h.ok k hk) (h.short k hk))
  have h4 : wZ f N = false := by
    cases hz : wZ f N with
    | false => rfl
    | true =>
      exfalso
      have h5 : wsum (wN f) N = 0 := wsum_zero.2 fun j hj => by
        have h6 := wZ_iff.1 hz j hj
        rw [h.text j hj, zero_isP] at h6
        exact of_decide_eq_true h6
      have := h.pos
      omega
  unfold pickE
  rw [if_neg (by omega), h3 N (Nat.le_refl _), if_neg (by omega), h4]; rfl
theorem WOk.sc {f : Nat → ByteArray} {N : Nat} (h : WOk f N) : ScF (wsum (wN f)) N := wsum_sc h.pos
/-- No number of a draw is too long. -/
theorem big_of {T : Nat} (hT : ∃ K, K = 3800 ∧ T ≤ 64 * 10 ^ K) : Ok (T * 2 ^ 256 + 1) := by
  obtain ⟨K, hK, hT⟩ := hT
  obtain ⟨E, hE⟩ : ∃ E, E = 80 := ⟨_, rfl⟩
  have h2 : 2 ^ 256 ≤ 10 ^ E := by rw [hE]; decide
  have h3 : T * 2 ^ 256 ≤ 64 * 10 ^ K * 10 ^ E := Nat.mul_le_mul hT h2
  have h4 : 64 * 10 ^ K * 10 ^ E = 64 * 10 ^ (K + E) := by rw [Nat.mul_assoc, ← Nat.pow_add]
  have h5 : 10 ^ (K + E + 2) = 10 ^ (K + E) * 100 := by rw [Nat.pow_add]
  have h6 : 0 < 10 ^ (K + E) := Nat.pow_pos (by omega)
  exact ok_smallP (k := K + E + 2) (by omega) (by omega)
theorem WOk.le {f : Nat → ByteArray} {N : Nat} (h : WOk f N) {i : Nat} (hi : i ≤ N) : ∃ K, K = 3800 ∧ wsum (wN f) i ≤ 64 * 10 ^ K := by
  obtain ⟨K, hK⟩ : ∃ K, K = 3800 := ⟨_, rfl⟩
  refine ⟨K, hK, ?_⟩
  have h1 : ∀ j, j < i → wN f j ≤ 10 ^ K := fun j hj => by
    have h2 := h.short j (by omega)
    rw [← hK, dstr_size, dec_len_le (by omega)] at h2
    omega
  have h3 := wsum_le h1
  have h4 : i * 10 ^ K ≤ 64 * 10 ^ K := Nat.mul_le_mul_right _ (by have := h.most; omega)
  omega
theorem WOk.big {f : Nat → ByteArray} {N : Nat} (h : WOk f N) : Ok (wsum (wN f) N * 2 ^ 256 + 1) := big_of (h.le (Nat.le_refl _))

/-- The items of a law. -/
def itemsP (g : Nat → Nat) (all : Nat) : Nat → List Item
  | 0 => []
  | i + 1 => itemsP g all i ++ (if g i = 0 then [] else [(dstr i, qstr (mkQ false (g i) all))])
abbrev lateS : ByteArray := ⟨#[108, 97, 116, 101]⟩
def lawL (g : Nat → Nat) (late all m : Nat) : List Item := itemsP g all m ++ (if late = 0 then [] else [(lateS, qstr (mkQ false late all))])
theorem items_mem {g : Nat → Nat} {all : Nat} {x : Item} : ∀ {m : Nat}, x ∈ itemsP g all m ↔ ∃ i, i < m ∧ g i ≠ 0 ∧ x = (dstr i, qstr (mkQ false (g i) all))
  | 0 => ⟨fun h => by simp [itemsP] at h, fun ⟨i, h, _⟩ => absurd h (Nat.not_lt_zero _)⟩
  | m + 1 => by
    show x ∈ itemsP g all m ++ _ ↔ _
    rw [List.mem_append, items_mem]
    constructor
    · rintro (⟨i, h1, h2⟩ | h)
      · exact ⟨i, by omega, h2⟩
      · by_cases h0 : g m = 0
        · rw [if_pos h0] at h; simp at h
        · rw [if_neg h0] at h
          exact ⟨m, by omega, h0, by simpa using h⟩
    · rintro ⟨i, h1, h2, h3⟩
      rcases Nat.lt_or_ge i m with h4 | h4
      · exact .inl ⟨i, h4, h2, h3⟩
      · obtain rfl : i = m := by omega
        right; rw [if_neg h2, h3]; exact List.mem_singleton.2 rfl
theorem items_len (g : Nat → Nat) (all : Nat) : ∀ m, (itemsP g all m).length ≤ m
  | 0 => Nat.le_refl _
  | m + 1 => by
    have h := items_len g all m
    show (itemsP g all m ++ _).length ≤ _
    rw [List.length_append]
    split <;> simp <;> omega
theorem items_nodup (g : Nat → Nat) (all : Nat) : ∀ m, ((itemsP g all m).map keyI).Nodup
  | 0 => List.nodup_nil
  | m + 1 => by
    show ((itemsP g all m ++ _).map keyI).Nodup
    rw [List.map_append]
    refine List.nodup_append.2 ⟨items_nodup g all m, by split <;> simp, fun a ha b hb => ?_⟩
    obtain ⟨x, hx, rfl⟩ := List.mem_map.1 ha
    obtain ⟨i, hi, _, rfl⟩ := items_mem.1 hx
    obtain ⟨y, hy, rfl⟩ := List.mem_map.1 hb
    by_cases h0 : g m = 0
    · rw [if_pos h0] at hy; simp at hy
    · rw [if_neg h0] at hy
      obtain rfl := List.mem_singleton.1 hy
      intro e
      have := dstr_injP (ba_extP e)
      omega
theorem late_not (i : Nat) : keyI (dstr i, (ByteArray.empty)) ≠ lateS.data.toList := fun e => by
  have h := digs_dec i
  have h1 : (108 : UInt8) ∈ decDigits i := by rw [← dstr_list]; show (108 : UInt8) ∈ keyI (dstr i, ByteArray.empty); rw [e]; simp
  have := h _ h1
  revert this; decide
theorem law_nodup (g : Nat → Nat) (late all m : Nat) : ((lawL g late all m).map keyI).Nodup := by
  unfold lawL
  rw [List.map_append]
  refine List.nodup_append.2 ⟨items_nodup g all m, by split <;> simp, fun a ha b hb => ?_⟩
  obtain ⟨x, hx, rfl⟩ := List.mem_map.1 ha
  obtain ⟨i, hi, _, rfl⟩ := items_mem.1 hx
  obtain ⟨y, hy, rfl⟩ := List.mem_map.1 hb
  split at hy
  · simp at hy
  · obtain rfl := List.mem_singleton.1 hy
    exact late_not i
theorem law_len (g : Nat → Nat) (late all m : Nat) : (lawL g late all m).length ≤ m + 1 := by
  have h := items_len g all m
  unfold lawL
  rw [List.length_append]
  split <;> simp <;> omega

open Go.RowKit NV
open Go.Lib (decDigits)

set_option maxHeartbeats 1600000 in
theorem rounded_any {a b c : Nat} (oa : Ok a) (ob : Ok b) (oc : Ok c) (oab : Ok (a * b)) (c0 : c ≠ 0) (o1 : Ok (a * b / c + 1)) (w : World) (htab : Tab w) :
    Calls Tryz.prog 196 #[.string (dstr a), .string (dstr b), .string (dstr c)] w fun e w' => e = .returned (.tuple #[.string (dstr (a * b / c)), .string (dstr (upD (a * b) c))]) ∧ Below w.heap.size w w' := by
  have oq : Ok (a * b / c) := o1.mono (by omega)
  have HM := Lib.hid (fun W (h : Below w.heap.size w W) => Mul_ok a b oa ob oab W (htab.below h))
  have HD := Lib.hid (fun W (h : Below w.heap.size w W) => DivMod_ok (a * b) c oab oc c0 W (htab.below h))
  have ha := fun W (h : Below w.heap.size w W) => Add_ok (a * b / c) 1 oq (ok_two (n := 1) (by omega) (by omega)) o1 W (htab.below h)
  rw [← one_str] at ha
  have HA := Lib.hid ha
  have HB := Lib.hid (Below.refl w.heap.size w)
  have hz := zero_isP (a * b % c)
  by_cases hr : a * b % c = 0
  · rw [decide_eq_true hr] at hz
    have hu : upD (a * b) c = a * b / c := if_pos hr
    rw [hu]
    generalize dstr (a * b / c) = sq at *
    generalize dstr (a * b % c) = sr at *
    generalize dstr (a * b / c + 1) = s1 at *
    generalize dstr (a * b) = sp at *
    generalize dstr a = sa at *
    generalize dstr b = sb at *
    generalize dstr c = sc at *
    clear oa ob oc oab c0 o1 oq htab ha hr hu HA
    go_enter Tryz.func196, Tryz.ntmps196
    go_wp2_with fail
    refine (HM.out _ HB.out).mono ?_
    rintro e w1 ⟨rfl, hb⟩
    replace HB := Lib.hid (HB.out.trans (hb.mono HB.out.size))
    clear hb HM
    go_wp2_with fail
    refine (HD.out _ HB.out).mono ?_
    rintro e w2 ⟨rfl, hb⟩
    replace HB := Lib.hid (HB.out.trans (hb.mono HB.out.size))
    clear hb HD
    go_wp2_with fail
    go_ret2
    exact ⟨rfl, HB.out⟩
  · rw [decide_eq_false hr] at hz
    have hu : upD (a * b) c = a * b / c + 1 := if_neg hr
    rw [hu]
    generalize dstr (a * b / c + 1) = s1 at *
    generalize dstr (a * b / c) = sq at *
    generalize dstr (a * b % c) = sr at *
    generalize dstr (a * b) = sp at *
    generalize dstr a = sa at *
    generalize dstr b = sb at *
    generalize dstr c = sc at *
    clear oa ob oc oab c0 o1 oq htab ha hr hu
    go_enter Tryz.func196, Tryz.ntmps196
    go_wp2_with fail
    refine (HM.out _ HB.out).mono ?_
    rintro e w1 ⟨rfl, hb⟩
    replace HB := Lib.hid (HB.out.trans (hb.mono HB.out.size))
    clear hb HM
    go_wp2_with fail
    refine (HD.out _ HB.out).mono ?_
    rintro e w2 ⟨rfl, hb⟩
    replace HB := Lib.hid (HB.out.trans (hb.mono HB.out.size))
    clear hb HD
    go_wp2_with fail
    refine (HA.out _ HB.out).mono ?_
    rintro e w3 ⟨rfl, hb⟩
    replace HB := Lib.hid (HB.out.trans (hb.mono HB.out.size))
    clear hb HA
    go_wp2_with fail
    go_ret2
    exact ⟨rfl, HB.out⟩

theorem ppower_n (n : Nat) (hn : n ≤ 256) (w : World) (htab : Tab w) :
    Calls Tryz.prog 195 #[.int .i64 (n : Int)] w fun e w' => e = .returned (.string (dstr (2 ^ n))) ∧ Below w.heap.size w w' := by
  have h := Pow_ok 2 n (ok_two (n := 1) (by omega) (by omega)) (by omega) (ok_two (n := n) (by omega) (Nat.le_refl _)) w htab
  rw [← two_str] at h
  have HP := Lib.hid h
  generalize dstr (2 ^ n) = s at *
  clear h htab
  go_enter Tryz.func195, Tryz.ntmps195
  go_wp2_with fail
  refine HP.out.mono ?_
  rintro e w1 ⟨rfl, hb⟩
  have HB := Lib.hid hb
  clear hb HP
  go_wp2_with fail
  go_ret
  exact ⟨rfl, HB.out⟩

open Go.RowKit NV
open Go.Lib (decDigits)

theorem lift_shP {f : Nat} {args : Array Value} {w0 W : World} {v : Value} (h0 : Below w0.heap.size w0 W) (hc : Calls Tryz.prog f args W fun e w' => e = .returned v ∧ Below W.heap.size W w') :
    Calls Tryz.prog f args W fun e w' => e = .returned v ∧ Below W.heap.size W w' ∧ Below w0.heap.size w0 w' :=
  hc.mono fun _ _ ⟨h1, h3⟩ => ⟨h1, h3, h0.trans (h3.mono h0.size)⟩

/-- The function g over cb tells the borders f of m parts. -/
structure ScAt (w : World) (g : Nat) (cb : Array Value) (f : Nat → Nat) (m : Nat) : Prop where
  enters : ∀ args w, (callFunc g args).run Tryz.prog w = .ok (.enter g args) w
  tells : ∀ W, Below w.heap.size w W → ∀ i, i ≤ m → Calls Tryz.prog g (#[.int .i64 (i : Int)] ++ cb) W fun e w' => e = .returned (.string (dstr (f i))) ∧ Below W.heap.size W w'
theorem ScAt.below {w W : World} {g m : Nat} {cb : Array Value} {f : Nat → Nat} (h : ScAt w g cb f m) (hb : Below w.heap.size w W) : ScAt W g cb f m :=
  ⟨h.enters, fun W' h' => h.tells W' (hb.trans (h'.mono hb.size))⟩
abbrev scV (m g : Nat) (cb : Array Value) : Value := .agg #[.int .i64 (m : Int), .func (.func g) #[] cb]
abbrev scO (m g : Nat) (cb : Array Value) : Obj := .cells #[.int .i64 (m : Int), .func (.func g) #[] cb] 95
/-- Block b holds a scale; a cell on a scale. -/
def SCB (w : World) (b m g : Nat) (cb : Array Value) : Prop := w.heap[b]? = some (.cells #[.int .i64 (m : Int), .func (.func g) #[] cb] 95 (0, 0))
theorem SCB.lt {w : World} {b m g : Nat} {cb : Array Value} (h : SCB w b m g cb) : b < w.heap.size := (Array.getElem?_eq_some_iff.1 h).1
theorem SCB.below {w w1 : World} {b m g : Nat} {cb : Array Value} (h : SCB w b m g cb) (hb : Below w.heap.size w w1) : SCB w1 b m g cb := (hb.block b h.lt).trans h
theorem SCB.new (w : World) (m g : Nat) (cb : Array Value) : SCB (w.alloc (scO m g cb)) w.heap.size m g cb := heap_alloc_new w _
theorem SCB.c {w : World} {b m g : Nat} {cb : Array Value} (h : SCB w b m g cb) : w.cell? ⟨b, 0, none⟩ = some (.int .i64 (m : Int)) ∧ w.cell? ⟨b, 1, none⟩ = some (.func (.func g) #[] cb) :=
  ⟨by rw [Lib.cell_of_heap h]; rfl, by rw [Lib.cell_of_heap h]; rfl⟩
theorem info_SC : (Tryz.prog.info? 95).map (·.size) = some 2 := by kernel_rfl
theorem SCB.load {w : World} {b m g : Nat} {cb : Array Value} (h : SCB w b m g cb) : (loadVar 95 ⟨b, 0, none⟩).run Tryz.prog w = .ok (scV m g cb) w :=
  run_loadVar_row _ _ 95 95 _ (0, 0) _ h Tryz.underlying95 rfl info_SC

abbrev spO (x y : ByteArray) : Obj := .cells #[.string x, .string y] 157
def SPB (w : World) (b : Nat) (x y : ByteArray) : Prop := w.heap[b]? = some (.cells #[.string x, .string y] 157 (0, 0))
theorem SPB.lt {w : World} {b : Nat} {x y : ByteArray} (h : SPB w b x y) : b < w.heap.size := (Array.getElem?_eq_some_iff.1 h).1
theorem SPB.below {w w1 : World} {b : Nat} {x y : ByteArray} (h : SPB w b x y) (hb : Below w.heap.size w w1) : SPB w1 b x y := (hb.block b h.lt).trans h
theorem SPB.new (w : World) (x y : ByteArray) : SPB (w.alloc (spO x y)) w.heap.size x y := heap_alloc_new w _
theorem SPB.c {w : World} {b : Nat} {x y : ByteArray} (h : SPB w b x y) : w.cell? ⟨b, 0, none⟩ = some (.string x) ∧ w.cell? ⟨b, 1, none⟩ = some (.string y) :=
  ⟨by rw [Lib.cell_of_heap h]; rfl, by rw [Lib.cell_of_heap h]; rfl⟩
theorem SPB.f {w : World} {b : Nat} {x y : ByteArray} (h : SPB w b x y) (j : Nat) : w.frozen? ⟨b, j, none⟩ = false := Lib.frozen_of_heap h j
theorem info_SP : (Tryz.prog.info? 157).map (·.size) = some 2 := by kernel_rfl
theorem SPB.load {w : World} {b : Nat} {x y : ByteArray} (h : SPB w b x y) : (loadVar 157 ⟨b, 0, none⟩).run Tryz.prog w = .ok (.agg #[.string x, .string y]) w :=
  run_loadVar_row _ _ 157 157 _ (0, 0) _ h Tryz.underlying157 rfl info_SP
def st2 (w : World) (b : Nat) (x y : ByteArray) : World := (w.setCell ⟨b, 0, none⟩ (.string x)).setCell ⟨b, 1, none⟩ (.string y)
theorem SPB.st {w : World} {b : Nat} {x y : ByteArray} (h : SPB w b x y) (x' y' : ByteArray) : SPB (st2 w b x' y') b x' y' := heap_setCell_same _ b 1 _ _ _ (heap_setCell_same w b 0 _ _ _ h)
theorem below_st2 {B : Nat} {w w' : World} (h : Below B w w') {b : Nat} (hb : B ≤ b) (x y : ByteArray) : Below B w (st2 w' b x y) :=
  (h.setCell (p := ⟨b, 0, none⟩) hb _).setCell (p := ⟨b, 1, none⟩) hb _
theorem SPB.resultC {w : World} {b : Nat} {x y : ByteArray} {tmps : Array Value} {v : Value} (h : SPB w b x y) (ht : tmps.getD 4 undef = .pointer (some ⟨b, 0, none⟩)) (hx : tmps.getD 5 undef = v) : (results Tryz.f136 tmps).run Tryz.prog w = .ok (.tuple #[.agg #[.string x, .string y], v]) w := by
  have hl := h.load
  have ht' : tmps[4]?.getD undef = .pointer (some ⟨b, 0, none⟩) := by rw [← ht]; simp
  have hx' : tmps[5]?.getD undef = v := by rw [← hx]; simp
  simp [results, ht', hx', asAddr, hl]

set_option maxHeartbeats 800000 in
theorem total_any {m g : Nat} {cb : Array Value} {f : Nat → Nat} {w : World} (h : ScAt w g cb f m) :
    Calls Tryz.prog 91 #[scV m g cb] w fun e w' => e = .returned (.string (dstr (f m))) ∧ Below w.heap.size w w' := by
  have HS := Lib.hid (fun W (hb : Below w.heap.size w W) => h.tells W hb m (Nat.le_refl _))
  have eg := h.enters
  obtain ⟨c0, c1⟩ := (SCB.new w m g cb).c
  have HB := Lib.hid ((Below.refl w.heap.size w).alloc (Nat.le_refl _) (scO m g cb))
  generalize dstr (f m) = s at *
  clear h
  go_enter Tryz.func91, Tryz.ntmps91
  go_wp2_with fail
  refine (HS.out _ HB.out).mono ?_
  rintro e w1 ⟨rfl, hb⟩
  replace HB := Lib.hid (HB.out.trans (hb.mono HB.out.size))
  clear hb HS
  go_wp2_with fail
  go_ret
  exact ⟨rfl, HB.out⟩

open Go.RowKit NV
open Go.Lib (decDigits)

theorem cmp_ltP (a b : Nat) : decide (cmpN a b < 0) = decide (a < b) := by
  unfold cmpN
  by_cases h : a < b
  · rw [if_pos h, decide_eq_true h]; rfl
  · rw [if_neg h, decide_eq_false h]; split <;> rfl
theorem cmp_leP (a b : Nat) : decide (cmpN a b ≤ 0) = decide (a ≤ b) := by
  unfold cmpN
  by_cases h : a < b
  · rw [if_pos h, decide_eq_true (Nat.le_of_lt h)]; rfl
  · rw [if_neg h]
    by_cases h2 : b < a
    · rw [if_pos h2, show decide (a ≤ b) = false from decide_eq_false (by omega)]; rfl
    · rw [if_neg h2, show decide (a ≤ b) = true from decide_eq_true (by omega)]; rfl

set_option maxHeartbeats 1600000 in
theorem search_any {g n : Nat} {cb : Array Value} {p : Nat → Bool} {w : World} (eg : ∀ args w, (callFunc g args).run Tryz.prog w = .ok (.enter g args) w) (hn : n < 4611686018427387904)
    (hf : ∀ W i, i < n → Below w.heap.size w W → Calls Tryz.prog g (#[.int .i64 (i : Int)] ++ cb) W fun e w' => e = .returned (.bool (p i)) ∧ Below W.heap.size W w')
    (hmono : ∀ a b, a ≤ b → b < n → p a = true → p b = true) :
    Calls Tryz.prog 139 #[.int .i64 (n : Int), .func (.func g) #[] cb] w fun e w' => ∃ r : Nat, r ≤ n ∧ e = .returned (.int .i64 (r : Int)) ∧ (∀ j, j < r → p j = false) ∧ (r < n → p r = true) ∧ Below w.heap.size w w' := by
  have HF := Lib.hid hf
  have HM := Lib.hid hmono
  clear hf hmono
  go_enter Tryz.func139, Tryz.ntmps139
  go_wp2_with fail
  go_loopw [5, 6] (fun s5 s6 wr => ∃ lo hi : Nat, s5 = .int .i64 (lo : Int) ∧ s6 = .int .i64 (hi : Int) ∧ lo ≤ hi ∧ hi ≤ n ∧ Hid ((∀ t, t < lo → p t = false) ∧ (∀ t, hi ≤ t → t < n → p t = true)) ∧ Below w.heap.size w wr) (fun s5 s6 _ => (intOf s6 - intOf s5).toNat)
  case atStart => exact ⟨0, n, rfl, rfl, Nat.zero_le _, Nat.le_refl _, Lib.hid ⟨fun t ht => absurd ht (Nat.not_lt_zero _), fun t h1 h2 => by omega⟩, Below.refl _ _⟩
  case round =>
    obtain ⟨lo, hi, rfl, rfl, hlh, hin, I, hb⟩ := hrel
    by_cases hlt : lo < hi
    · have hc := HF.out wr ((lo + hi) / 2) (by omega) hb
      rw [show (((lo + hi) / 2 : Nat) : Int) = ((lo : Int) + (hi : Int)) / 2 by omega] at hc
      have HB := Lib.hid hb
      clear hb
      cases hp : p ((lo + hi) / 2) <;> rw [hp] at hc
      · have HP := Lib.hid hp
        have HC := Lib.hid hc
        clear hp hc
        go_wp2_with fail
        refine HC.out.mono ?_
        rintro e w1 ⟨rfl, hb1⟩
        have HB1 := Lib.hid (HB.out.trans (hb1.mono HB.out.size))
        clear hb1 HC
        go_wp2_with fail
        go_roundw
        case rel =>
          exact ⟨(lo + hi) / 2 + 1, hi, by go_num, rfl, by omega, hin, Lib.hid ⟨fun t ht => (by
            cases h : p t with
            | false => rfl
            | true => have := HM.out t ((lo + hi) / 2) (by omega) (by omega) h; rw [HP.out] at this; cases this), I.out.2⟩, HB1.out⟩
        case measure => simp [intOf]; omega
      · have HP := Lib.hid hp
        have HC := Lib.hid hc
        clear hp hc
        go_wp2_with fail
        refine HC.out.mono ?_
        rintro e w1 ⟨rfl, hb1⟩
        have HB1 := Lib.hid (HB.out.trans (hb1.mono HB.out.size))
        clear hb1 HC
        go_wp2_with fail
        go_roundw
        case rel =>
          exact ⟨lo, (lo + hi) / 2, rfl, by go_num, by omega, by omega, Lib.hid ⟨I.out.1, fun t ht htn => HM.out ((lo + hi) / 2) t ht htn HP.out⟩, HB1.out⟩
        case measure => simp [intOf]; omega
    · obtain rfl : hi = lo := by omega
      have HB := Lib.hid hb
      clear hb
      go_wp2_with fail
      go_ret
      exact ⟨hi, hin, rfl, I.out.1, fun h => I.out.2 hi (Nat.le_refl _) h, HB.out⟩

theorem wrap_one {i m : Nat} (hi : i < m) (hm : m ≤ 1000000) : ((i + 1 : Nat) : Int) = IntKind.i64.wrap ((i : Int) + 1) := by
  simp [IntKind.wrap, IntKind.signed, IntKind.bits]; omega

set_option maxHeartbeats 1600000 in
theorem find1_any {bp bs m g : Nat} {cb : Array Value} {f : Nat → Nat} {w : World} {x i : Nat} (h : ScAt w g cb f m) (ox : Ok x) (of : ∀ j, j ≤ m → Ok (f j)) (hp : Boxed w bp 22 (.string (dstr x))) (hs : SCB w bs m g cb) (hi : i < m) (hm : m ≤ 1000000) :
    Calls Tryz.prog 197 (#[.int .i64 (i : Int)] ++ #[.pointer (some ⟨bp, 0, none⟩), .pointer (some ⟨bs, 0, none⟩)]) w fun e w' => e = .returned (.bool (decide (x < f (i + 1)))) ∧ Below w.heap.size w w' := by
  have hs1 := fun W (hb : Below w.heap.size w W) => h.tells W hb (i + 1) (by omega)
  rw [wrap_one hi hm] at hs1
  have HS := Lib.hid hs1
  have HC := Lib.hid (fun W => Cmp_ok x (f (i + 1)) ox (of _ (by omega)) W)
  have eg := h.enters
  have HK := Lib.hid (show ∀ W, Below w.heap.size w W → W.cell? ⟨bp, 0, none⟩ = some (.string (dstr x)) ∧ W.cell? ⟨bs, 1, none⟩ = some (.func (.func g) #[] cb) from fun W hb => ⟨((Ch.below (S := fun _ => False) hb).boxed (fun h => h) hp).cell, (hs.below hb).c.2⟩)
  obtain ⟨c0, c1⟩ := HK.out w (Below.refl _ _)
  rw [← cmp_ltP]
  generalize dstr (f (i + 1)) = sf at *
  generalize dstr x = sx at *
  generalize cmpN x (f (i + 1)) = c at *
  have hD0 := (Below.refl w.heap.size w).drew
  clear h ox of hp hs hs1
  go_enter Tryz.func197, Tryz.ntmps197
  go_wp2_with fail
  go_region_held3 (fun W => W.cell? ⟨bp, 0, none⟩ = some (.string sx) ∧ W.cell? ⟨bs, 1, none⟩ = some (.func (.func g) #[] cb))
    (first | with_reducible exact HK.out _ hD0 | with_reducible exact HK.out _ (by assumption))
    (first
      | (go_at_call 116; refine (lift_shP (w0 := w) (by assumption) (HC.out _)).mono ?_; rintro e u2 ⟨rfl, hb2, hB2⟩)
      | (go_at_fn g; refine (lift_shP (w0 := w) (by assumption) (HS.out _ (by assumption))).mono ?_; rintro e u1 ⟨rfl, hb1, hB1⟩))
  have HB := Lib.hid hB2
  clear hb1 hB1 hb2 hB2
  go_wp2_with fail
  go_ret
  exact ⟨rfl, HB.out⟩

open Go.RowKit NV
open Go.Lib (decDigits)

/-- Numbers that are short enough. -/
theorem big_le {T x : Nat} (h : Ok (T * 2 ^ 256 + 1)) (hx : x ≤ T * 2 ^ 256 + 1) : Ok x := h.mono hx
theorem big_pow {T n : Nat} (h : Ok (T * 2 ^ 256 + 1)) (hn : n ≤ 256) : Ok (T * 2 ^ n + 1) := by
  have h1 : 2 ^ n ≤ 2 ^ 256 := Nat.pow_le_pow_right (by omega) hn
  exact h.mono (Nat.succ_le_succ (Nat.mul_le_mul_left _ h1))
theorem big_self {T : Nat} (h : Ok (T * 2 ^ 256 + 1)) : Ok T := h.mono (by
  have h1 : 1 ≤ 2 ^ 256 := Nat.pow_pos (by omega)
  have h2 := Nat.mul_le_mul_left T h1
  omega)

set_option maxHeartbeats 3200000 in
set_option maxRecDepth 100000 in
theorem cell_ok {m g : Nat} {cb : Array Value} {f : Nat → Nat} {w : World} {b : ByteArray} (h : ScAt w g cb f m) (hbig : Ok (f m * 2 ^ 256 + 1)) (hb : IsBits b.data.toList) (hsz : b.size ≤ 256) (htab : Tab w) :
    Calls Tryz.prog 136 #[scV m g cb, .string b] w fun e w' => e = .returned (.tuple #[.agg #[.string (dstr (bv b.data.toList * f m / 2 ^ b.size)), .string (dstr (upD ((bv b.data.toList + 1) * f m) (2 ^ b.size)))], .int .i64 0]) ∧ Below w.heap.size w w' := by
  have hlt := bv_lt _ hb
  rw [← Go.Lib.size_eq] at hlt
  have HN := Lib.hid (fun W (h : Below w.heap.size w W) => Number_ok hb hsz W (htab.below h))
  have HP := Lib.hid (fun W (h : Below w.heap.size w W) => ppower_n b.size hsz W (htab.below h))
  have HT := Lib.hid (fun W (hb : Below w.heap.size w W) => total_any (h.below hb))
  generalize bv b.data.toList = k at *
  have ob := big_pow hbig hsz
  have okT := big_self hbig
  have ok2 : Ok (2 ^ b.size) := ok_two (n := b.size) (by omega) (Nat.le_refl _)
  have ok1 : Ok (k + 1) := ok2.mono hlt
  have okk : Ok k := ok1.mono (by omega)
  have e1 : k * f m ≤ f m * 2 ^ b.size := by rw [Nat.mul_comm]; exact Nat.mul_le_mul_left _ (by omega)
  have e2 : (k + 1) * f m ≤ f m * 2 ^ b.size := by rw [Nat.mul_comm]; exact Nat.mul_le_mul_left _ hlt
  have hp : 0 < 2 ^ b.size := Nat.pow_pos (by omega)
  have q1 : k * f m / 2 ^ b.size ≤ k * f m := Nat.div_le_self _ _
  have q2 : (k + 1) * f m / 2 ^ b.size ≤ (k + 1) * f m := Nat.div_le_self _ _
  have ha := fun W (h : Below w.heap.size w W) => Add_ok k 1 okk (ok_two (n := 1) (by omega) (by omega)) ok1 W (htab.below h)
  rw [← one_str] at ha
  have HA := Lib.hid ha
  have HR1 := Lib.hid (fun W (h : Below w.heap.size w W) => rounded_any okk okT ok2 (ob.mono (by omega)) (by omega) (ob.mono (by omega)) W (htab.below h))
  have HR2 := Lib.hid (fun W (h : Below w.heap.size w W) => rounded_any ok1 okT ok2 (ob.mono (by omega)) (by omega) (ob.mono (by omega)) W (htab.below h))
  have h2 := SPB.new (w.alloc (scO m g cb)) ⟨#[]⟩ ⟨#[]⟩
  rw [World.size_alloc] at h2
  have hsc := (SCB.new w m g cb).below ((Below.refl _ _).alloc (Nat.le_refl _) (spO ⟨#[]⟩ ⟨#[]⟩))
  have HB := Lib.hid (((Below.refl w.heap.size w).alloc (Nat.le_refl _) (scO m g cb)).alloc (by simp) (spO ⟨#[]⟩ ⟨#[]⟩))
  have HSC := Lib.hid hsc
  have HSP := Lib.hid h2
  clear hlt h hbig hb hsz htab ob okT ok2 ok1 okk e1 e2 hp q1 q2 ha h2 hsc
  generalize dstr (k * f m / 2 ^ b.size) = s1 at *
  generalize dstr (upD (k * f m) (2 ^ b.size)) = s2 at *
  generalize dstr ((k + 1) * f m / 2 ^ b.size) = s3 at *
  generalize dstr (upD ((k + 1) * f m) (2 ^ b.size)) = s4 at *
  generalize dstr (f m) = sT at *
  generalize dstr (2 ^ b.size) = s5 at *
  generalize dstr (k + 1) = s6 at *
  generalize dstr k = s7 at *
  go_enter Tryz.func136, Tryz.ntmps136
  go_wp2_with fail
  refine (HN.out _ HB.out).mono ?_
  rintro e w1 ⟨rfl, hb⟩
  replace HB := Lib.hid (HB.out.trans (hb.mono HB.out.size))
  replace HSC := Lib.hid (HSC.out.below hb)
  replace HSP := Lib.hid (HSP.out.below hb)
  clear hb HN
  go_wp2_with fail
  refine (HP.out _ HB.out).mono ?_
  rintro e w2 ⟨rfl, hb⟩
  replace HB := Lib.hid (HB.out.trans (hb.mono HB.out.size))
  replace HSC := Lib.hid (HSC.out.below hb)
  replace HSP := Lib.hid (HSP.out.below hb)
  clear hb HP
  go_wp2_with fail
  refine (HA.out _ HB.out).mono ?_
  rintro e w3 ⟨rfl, hb⟩
  replace HB := Lib.hid (HB.out.trans (hb.mono HB.out.size))
  replace HSC := Lib.hid (HSC.out.below hb)
  replace HSP := Lib.hid (HSP.out.below hb)
  obtain ⟨c0, c1⟩ := HSC.out.c
  clear hb HA
  go_wp2_with fail
  refine (HT.out _ HB.out).mono ?_
  rintro e w4 ⟨rfl, hb⟩
  replace HB := Lib.hid (HB.out.trans (hb.mono HB.out.size))
  replace HSC := Lib.hid (HSC.out.below hb)
  replace HSP := Lib.hid (HSP.out.below hb)
  clear hb c0 c1
  go_wp2_with fail
  refine (HR1.out _ HB.out).mono ?_
  rintro e w5 ⟨rfl, hb⟩
  replace HB := Lib.hid (HB.out.trans (hb.mono HB.out.size))
  replace HSC := Lib.hid (HSC.out.below hb)
  replace HSP := Lib.hid (HSP.out.below hb)
  obtain ⟨c0, c1⟩ := HSC.out.c
  clear hb HR1
  go_wp2_with fail
  refine (HT.out _ HB.out).mono ?_
  rintro e w6 ⟨rfl, hb⟩
  replace HB := Lib.hid (HB.out.trans (hb.mono HB.out.size))
  replace HSC := Lib.hid (HSC.out.below hb)
  replace HSP := Lib.hid (HSP.out.below hb)
  clear hb c0 c1 HT
  go_wp2_with fail
  refine (HR2.out _ HB.out).mono ?_
  rintro e w7 ⟨rfl, hb⟩
  replace HB := Lib.hid (HB.out.trans (hb.mono HB.out.size))
  replace HSP := Lib.hid (HSP.out.below hb)
  obtain ⟨d0, d1⟩ := HSP.out.c
  have f0 := HSP.out.f 0
  have f1 := HSP.out.f 1
  clear hb HR2 HSC
  go_wp2_with fail
  exact bodyPost_ret ((HSP.out.st s1 s4).resultC rfl rfl) rfl ⟨rfl, below_st2 HB.out (by omega) _ _⟩

set_option maxHeartbeats 1600000 in
theorem find_any {m g : Nat} {cb : Array Value} {f : Nat → Nat} {w : World} {x : Nat} (h : ScAt w g cb f m) (hs : ScF f m) (ox : Ok x) (of : Ok (f m)) (hm : m ≤ 1000000) :
    Calls Tryz.prog 137 #[scV m g cb, .string (dstr x)] w fun e w' => ∃ r : Nat, r ≤ m ∧ e = .returned (.int .i64 (r : Int)) ∧ (∀ j, j < r → ¬ x < f (j + 1)) ∧ (r < m → x < f (r + 1)) ∧ Below w.heap.size w w' := by
  obtain ⟨w1, hw1⟩ : ∃ w1, (w.alloc (scO m g cb)).alloc (.cells #[.string (dstr x)] 22) = w1 := ⟨_, rfl⟩
  have hb1 : Below w.heap.size w w1 := by rw [← hw1]; exact ((Below.refl w.heap.size w).alloc (Nat.le_refl _) _).alloc (by simp) _
  have hsc : SCB w1 w.heap.size m g cb := by rw [← hw1]; exact (SCB.new w m g cb).below ((Below.refl _ _).alloc (Nat.le_refl _) _)
  have hpl : Boxed w1 (w.heap.size + 1) 22 (.string (dstr x)) := by
    rw [← hw1]; have := Boxed.new (w.alloc (scO m g cb)) 22 (.string (dstr x)); rwa [World.size_alloc] at this
  have HS := Lib.hid (search_any (g := 197) (cb := #[.pointer (some ⟨w.heap.size + 1, 0, none⟩), .pointer (some ⟨w.heap.size, 0, none⟩)]) (n := m) (p := fun i => decide (x < f (i + 1))) (w := w1)
    (enters_of Tryz.func197 (by kernel_rfl) rfl) (by omega)
    (fun W i hi hb => find1_any ((h.below hb1).below hb) ox (fun j hj => of.mono (hs.mono _ _ hj (Nat.le_refl _))) ((Ch.below (S := fun _ => False) hb).boxed (fun h => h) hpl) (hsc.below hb) hi hm)
    (fun a b hab hb ha => decide_eq_true (Nat.lt_of_lt_of_le (of_decide_eq_true ha) (hs.mono _ _ (by omega) (by omega)))))
  obtain ⟨c0, c1⟩ := hsc.c
  have HB := Lib.hid hb1
  clear h hs ox of hsc hpl hb1
  go_enter Tryz.func137, Tryz.ntmps137
  go_wp2_with fail
  refine HS.out.mono ?_
  rintro e w2 ⟨r, hr, rfl, h1, h2, hb⟩
  have HF := Lib.hid (And.intro hr (And.intro h1 (And.intro h2 (HB.out.trans (hb.mono HB.out.size)))))
  clear hr h1 h2 hb HS c0 c1 hw1
  go_wp2_with fail
  go_ret
  exact ⟨r, HF.out.1, rfl, fun j hj => of_decide_eq_false (HF.out.2.1 j hj), fun h => of_decide_eq_true (HF.out.2.2.1 h), HF.out.2.2.2⟩

/-- A world of which p holds. -/
structure Wp (p : World → Prop) where
  val : World
  holds : p val

/-- How two texts of numbers compare. -/
def cS (s t : ByteArray) : Int := cmpN (dv s.data.toList) (dv t.data.toList)
theorem cS_eq (a b : Nat) : cS (dstr a) (dstr b) = cmpN a b := by unfold cS; rw [dstr_list, dstr_list, dv_dec, dv_dec]

set_option maxHeartbeats 3200000 in
set_option maxRecDepth 100000 in
theorem holds_any {m g v lo hi : Nat} {cb : Array Value} {f : Nat → Nat} {w : World} (h : ScAt w g cb f m) (hs : ScF f m) (of : Ok (f m)) (ol : Ok lo) (oh : Ok hi) (hv : v < m) (hm : m ≤ 1000000) :
    Calls Tryz.prog 138 #[scV m g cb, .int .i64 (v : Int), .agg #[.string (dstr lo), .string (dstr hi)]] w fun e w' => e = .returned (.bool (decide (f v ≤ lo ∧ hi ≤ f (v + 1)))) ∧ Below w.heap.size w w' := by
  have ofi : ∀ i, i ≤ m → Ok (f i) := fun i hi => of.mono (hs.mono _ _ hi (Nat.le_refl _))
  obtain ⟨w1, hw1⟩ : ∃ w1, (w.alloc (scO m g cb)).alloc (spO (dstr lo) (dstr hi)) = w1 := ⟨_, rfl⟩
  have hb1 : Below w.heap.size w w1 := by rw [← hw1]; exact ((Below.refl w.heap.size w).alloc (Nat.le_refl _) _).alloc (by simp) _
  have hsc : SCB w1 w.heap.size m g cb := by rw [← hw1]; exact (SCB.new w m g cb).below ((Below.refl _ _).alloc (Nat.le_refl _) _)
  have hsp : SPB w1 (w.heap.size + 1) (dstr lo) (dstr hi) := by
    rw [← hw1]; have := SPB.new (w.alloc (scO m g cb)) (dstr lo) (dstr hi); rwa [World.size_alloc] at this
  obtain ⟨sB, hsB⟩ : ∃ sB : Int → ByteArray, ∀ i : Nat, sB (i : Int) = dstr (f i) := ⟨fun i => dstr (f i.toNat), fun i => by simp⟩
  have HS := Lib.hid (fun W (i : Int) (hb : Below w1.heap.size w1 W) (hi : i = (v : Int) ∨ i = ((v : Int) + 1)) => (by
    obtain ⟨j, hj, rfl⟩ : ∃ j : Nat, j ≤ m ∧ i = (j : Int) := by
      rcases hi with rfl | rfl
      · exact ⟨v, by omega, rfl⟩
      · exact ⟨v + 1, by omega, by omega⟩
    rw [hsB]
    exact (h.below hb1).tells W hb j hj : Calls Tryz.prog g (#[.int .i64 i] ++ cb) W fun e w' => e = .returned (.string (sB i)) ∧ Below W.heap.size W w'))
  have hv1 : sB (((v : Int) + 1)) = dstr (f (v + 1)) := by rw [← hsB]; rfl
  have HC := Lib.hid (fun (W : World) (s t : ByteArray) (hst : (s = sB (v : Int) ∧ t = dstr lo) ∨ (s = dstr hi ∧ t = sB (((v : Int) + 1)))) => (by
    rcases hst with ⟨rfl, rfl⟩ | ⟨rfl, rfl⟩
    · rw [hsB, cS_eq]; exact Cmp_ok _ _ (ofi _ (by omega)) ol W
    · rw [hv1, cS_eq]; exact Cmp_ok _ _ oh (ofi _ (by omega)) W : Calls Tryz.prog 116 #[.string s, .string t] W fun e w' => e = .returned (.int .i64 (cS s t)) ∧ Below W.heap.size W w'))
  have eg := h.enters
  have HK := Lib.hid (show ∀ W, Below w1.heap.size w1 W → W.cell? ⟨w.heap.size, 1, none⟩ = some (.func (.func g) #[] cb) ∧ W.cell? ⟨w.heap.size + 1, 0, none⟩ = some (.string (dstr lo)) ∧ W.cell? ⟨w.heap.size + 1, 1, none⟩ = some (.string (dstr hi)) from
    fun W hb => ⟨(hsc.below hb).c.2, (hsp.below hb).c.1, (hsp.below hb).c.2⟩)
  have HB := Lib.hid hb1
  have hc1 : decide (cS (sB (v : Int)) (dstr lo) ≤ 0) = decide (f v ≤ lo) := by rw [hsB, cS_eq]; exact cmp_leP _ _
  have hc2 : decide (cS (dstr hi) (sB (((v : Int) + 1))) ≤ 0) = decide (hi ≤ f (v + 1)) := by rw [hv1, cS_eq]; exact cmp_leP _ _
  have hr : decide (f v ≤ lo ∧ hi ≤ f (v + 1)) = (decide (cS (sB (v : Int)) (dstr lo) ≤ 0) && decide (cS (dstr hi) (sB (((v : Int) + 1))) ≤ 0)) := by rw [hc1, hc2, Bool.decide_and]
  rw [hr]
  clear hc1 hc2 hr hv1 hsB h hs of ol oh hb1 hsc hsp ofi
  generalize dstr lo = sl at *
  generalize dstr hi = sh at *
  have hvm : (v : Int) ≤ 1000000 := by omega
  clear hv hm
  obtain ⟨p, hp⟩ : ∃ p : World → Prop, p = fun W => (W.cell? ⟨w.heap.size, 1, none⟩ = some (.func (.func g) #[] cb) ∧ W.cell? ⟨w.heap.size + 1, 0, none⟩ = some (.string sl) ∧ W.cell? ⟨w.heap.size + 1, 1, none⟩ = some (.string sh)) ∧ Below w1.heap.size w1 W := ⟨_, rfl⟩
  have hpp : ∀ W, p W ↔ (W.cell? ⟨w.heap.size, 1, none⟩ = some (.func (.func g) #[] cb) ∧ W.cell? ⟨w.heap.size + 1, 0, none⟩ = some (.string sl) ∧ W.cell? ⟨w.heap.size + 1, 1, none⟩ = some (.string sh)) ∧ Below w1.heap.size w1 W := fun W => by rw [hp]
  have hmk : ∀ W, Below w1.heap.size w1 W → p W := fun W hb => (hpp W).2 ⟨HK.out W hb, hb⟩
  have hpb : ∀ x : Wp p, Below w1.heap.size w1 x.val := fun x => ((hpp _).1 x.holds).2
  have hx0 : ∀ x : Wp p, x.val.cell? ⟨w.heap.size, 1, none⟩ = some (.func (.func g) #[] cb) := fun x => (HK.out _ (hpb x)).1
  have hx1 : ∀ x : Wp p, x.val.cell? ⟨w.heap.size + 1, 0, none⟩ = some (.string sl) := fun x => (HK.out _ (hpb x)).2.1
  have hx2 : ∀ x : Wp p, x.val.cell? ⟨w.heap.size + 1, 1, none⟩ = some (.string sh) := fun x => (HK.out _ (hpb x)).2.2
  have HS2 := Lib.hid (fun (x : Wp p) (i : Int) (hi : i = (v : Int) ∨ i = ((v : Int) + 1)) => (HS.out x.val i (hpb x) hi).mono (R' := fun e w' => e = .returned (.string (sB i)) ∧ ∃ y : Wp p, w' = y.val) (fun e w' ⟨h1, h2⟩ => ⟨h1, ⟨w', hmk _ ((hpb x).trans (h2.mono (hpb x).size))⟩, rfl⟩))
  have HC2 := Lib.hid (fun (x : Wp p) (s t : ByteArray) (hst : (s = sB (v : Int) ∧ t = sl) ∨ (s = sh ∧ t = sB (((v : Int) + 1)))) => (HC.out x.val s t hst).mono (R' := fun e w' => e = .returned (.int .i64 (cS s t)) ∧ ∃ y : Wp p, w' = y.val) (fun e w' ⟨h1, h2⟩ => ⟨h1, ⟨w', hmk _ ((hpb x).trans (h2.mono (hpb x).size))⟩, rfl⟩))
  have HPB := Lib.hid hpb
  have hne : Nonempty (Wp p) := ⟨⟨w1, hmk _ (Below.refl _ _)⟩⟩
  have HD := Lib.hid (hmk w1.drew (Below.refl _ w1).drew)
  clear HS HC HK hp hmk hpb hpp
  go_enter Tryz.func138, Tryz.ntmps138
  go_wp2_with fail
  clear hw1
  refine wp_region_quiet (C := fun W => ∃ x : Wp p, W = x.val) (by kernel_rfl) (by kernel_rfl) ⟨⟨w1.drew, HD.out⟩, rfl⟩ ?_
  change wpQuiet _ _ _ _ (_ :: _) _
  cases hd : decide (cS (sB (v : Int)) sl ≤ 0)
  · repeat (go_big_quiet_step (first
      | (go_at_fn g; exact HS2.out _ _ (by simp))
      | (go_at_call 116; exact HC2.out _ _ _ (by simp))))
    refine wpQuiet_nil ?_
    rintro w3 ⟨x3, rfl⟩
    have HB3 := Lib.hid (HB.out.trans ((HPB.out x3).mono HB.out.size))
    generalize x3.val = w3 at HB3 ⊢
    clear hx0 hx1 hx2 hne
    go_wp2_with fail
    go_ret
    exact ⟨by rw [hd]; rfl, HB3.out⟩
  · repeat (go_big_quiet_step (first
      | (go_at_fn g; exact HS2.out _ _ (by simp))
      | (go_at_call 116; exact HC2.out _ _ _ (by simp))))
    refine wpQuiet_nil ?_
    rintro w3 ⟨x3, rfl⟩
    have HB3 := Lib.hid (HB.out.trans ((HPB.out x3).mono HB.out.size))
    generalize x3.val = w3 at HB3 ⊢
    clear hx0 hx1 hx2 hne
    go_wp2_with fail
    go_ret
    exact ⟨by rw [hd, Bool.true_and]; rfl, HB3.out⟩

open Go.RowKit NV
open Go.Lib (decDigits)

abbrev drO (d : Bool) (v u : Int) : Obj := .cells #[.bool d, .int .i64 v, .int .i64 u] 26
/-- Block b is a result of a draw. -/
def DR (w : World) (b : Nat) (d : Bool) (v u : Int) : Prop := w.heap[b]? = some (.cells #[.bool d, .int .i64 v, .int .i64 u] 26 (0, 0))
theorem info_DR : (Tryz.prog.info? 26).map (·.size) = some 3 := by kernel_rfl
theorem DR.load {w : World} {b : Nat} {d : Bool} {v u : Int} (h : DR w b d v u) : (loadVar 26 ⟨b, 0, none⟩).run Tryz.prog w = .ok (.agg #[.bool d, .int .i64 v, .int .i64 u]) w :=
  run_loadVar_row _ _ 26 26 _ (0, 0) _ h Tryz.underlying26 rfl info_DR
theorem DR.lt {w : World} {b : Nat} {d : Bool} {v u : Int} (h : DR w b d v u) : b < w.heap.size := (Array.getElem?_eq_some_iff.1 h).1
theorem DR.below {w w1 : World} {b : Nat} {d : Bool} {v u : Int} (h : DR w b d v u) (hb : Below w.heap.size w w1) : DR w1 b d v u := (hb.block b h.lt).trans h
theorem DR.new (w : World) (d : Bool) (v u : Int) : DR (w.alloc (drO d v u)) w.heap.size d v u := heap_alloc_new w _
theorem DR.c {w : World} {b : Nat} {d : Bool} {v u : Int} (h : DR w b d v u) : w.cell? ⟨b, 0, none⟩ = some (.bool d) ∧ w.cell? ⟨b, 1, none⟩ = some (.int .i64 v) ∧ w.cell? ⟨b, 2, none⟩ = some (.int .i64 u) :=
  ⟨by rw [Lib.cell_of_heap h]; rfl, by rw [Lib.cell_of_heap h]; rfl, by rw [Lib.cell_of_heap h]; rfl⟩
theorem DR.f {w : World} {b : Nat} {d : Bool} {v u : Int} (h : DR w b d v u) (j : Nat) : w.frozen? ⟨b, j, none⟩ = false := Lib.frozen_of_heap h j
def sr3 (w : World) (b : Nat) (d : Bool) (v u : Int) : World := ((w.setCell ⟨b, 0, none⟩ (.bool d)).setCell ⟨b, 1, none⟩ (.int .i64 v)).setCell ⟨b, 2, none⟩ (.int .i64 u)
theorem DR.st {w : World} {b : Nat} {d : Bool} {v u : Int} (h : DR w b d v u) (d' : Bool) (v' u' : Int) : DR (sr3 w b d' v' u') b d' v' u' :=
  heap_setCell_same _ b 2 _ _ _ (heap_setCell_same _ b 1 _ _ _ (heap_setCell_same w b 0 _ _ _ h))
theorem below_sr3 {B : Nat} {w w' : World} (h : Below B w w') {b : Nat} (hb : B ≤ b) (d : Bool) (v u : Int) : Below B w (sr3 w' b d v u) :=
  ((h.setCell (p := ⟨b, 0, none⟩) hb _).setCell (p := ⟨b, 1, none⟩) hb _).setCell (p := ⟨b, 2, none⟩) hb _
theorem DR.result {w : World} {b : Nat} {d : Bool} {v u : Int} {tmps : Array Value} {x : Value} {fn : Func} (h : DR w b d v u) (hf : fn.results = #[.cell 4 26, .tmp 5]) (ht : tmps.getD 4 undef = .pointer (some ⟨b, 0, none⟩)) (hx : tmps.getD 5 undef = x) : (results fn tmps).run Tryz.prog w = .ok (.tuple #[.agg #[.bool d, .int .i64 v, .int .i64 u], x]) w := by
  have hl := h.load
  have ht' : tmps[4]?.getD undef = .pointer (some ⟨b, 0, none⟩) := by rw [← ht]; simp
  have hx' : tmps[5]?.getD undef = x := by rw [← hx]; simp
  simp [results, hf, ht', hx', asAddr, hl]

theorem take_text (b : ByteArray) {n : Nat} (hn : n ≤ b.size) : (b.extract 0 n).data.toList = b.data.toList.take n ∧ (b.extract 0 n).size = n := by
  constructor
  · rw [ByteArray.data_extract]; simp
  · rw [ByteArray.size_extract]; omega

theorem SPB.newD (w : World) (x y : ByteArray) : SPB ((w.alloc (spO x y)).drew) w.heap.size x y := heap_alloc_new w _

set_option maxHeartbeats 6400000 in
set_option maxRecDepth 100000 in
theorem draw1_any {m g v n bs bb bx : Nat} {cb : Array Value} {f : Nat → Nat} {w : World} {b : ByteArray} (h : ScAt w g cb f m) (hs : ScF f m) (hbig : Ok (f m * 2 ^ 256 + 1)) (hb : IsBits b.data.toList) (hsz : b.size ≤ 256) (hW : ∀ W, Below w.heap.size w W → Tab W)
    (hsc : SCB w bs m g cb) (hbb : Boxed w bb 23 (.string b)) (hbx : Boxed w bx 3 (.int .i64 (v : Int))) (hv : v < m) (hm : m ≤ 1000000) (hn : n ≤ b.size) :
    Calls Tryz.prog 140 (#[.int .i64 (n : Int)] ++ #[.pointer (some ⟨bs, 0, none⟩), .pointer (some ⟨bb, 0, none⟩), .pointer (some ⟨bx, 0, none⟩)]) w fun e w' => e = .returned (.bool (decide (inC f m (bv (b.data.toList.take n)) n v))) ∧ Below w.heap.size w w' := by
  obtain ⟨t1, t2⟩ := take_text b hn
  have hcell := fun W (hb' : Below w.heap.size w W) => cell_ok (h.below hb') hbig (b := b.extract 0 n) (by rw [t1]; exact hb.take n) (by rw [t2]; omega) (hW W hb')
  rw [t1, t2] at hcell
  have hlt : bv (b.data.toList.take n) + 1 ≤ 2 ^ n := by
    have := bv_lt _ (hb.take n)
    rw [List.length_take, ← Go.Lib.size_eq, show min n b.size = n by omega] at this
    exact this
  generalize bv (b.data.toList.take n) = k at *
  have hp : 0 < 2 ^ n := Nat.pow_pos (by omega)
  have okT := big_self hbig
  have e2 : (k + 1) * f m ≤ f m * 2 ^ n := by rw [Nat.mul_comm]; exact Nat.mul_le_mul_left _ hlt
  have e1 : k * f m ≤ f m * 2 ^ n := Nat.le_trans (Nat.mul_le_mul_right _ (by omega)) e2
  have ol : Ok (k * f m / 2 ^ n) := okT.mono (Nat.div_le_of_le_mul (by rw [Nat.mul_comm (2 ^ n)]; exact e1))
  have oh : Ok (upD ((k + 1) * f m) (2 ^ n)) := okT.mono ((upD_le hp).2 e2)
  have hk : decide (f v ≤ k * f m / 2 ^ n ∧ upD ((k + 1) * f m) (2 ^ n) ≤ f (v + 1)) = decide (inC f m k n v) := decide_eq_decide.2 holds_iff
  have hh := fun W (hb' : Below w.heap.size w W) => holds_any (h.below hb') hs okT ol oh hv hm
  rw [hk] at hh
  have HC := Lib.hid hcell
  have HH := Lib.hid hh
  have HK := Lib.hid (show ∀ W, Below w.heap.size w W → (W.cell? ⟨bs, 0, none⟩ = some (.int .i64 (m : Int)) ∧ W.cell? ⟨bs, 1, none⟩ = some (.func (.func g) #[] cb)) ∧ W.cell? ⟨bb, 0, none⟩ = some (.string b) ∧ W.cell? ⟨bx, 0, none⟩ = some (.int .i64 (v : Int)) from
    fun W hb => ⟨(hsc.below hb).c, ((Ch.below (S := fun _ => False) hb).boxed (fun h => h) hbb).cell, ((Ch.below (S := fun _ => False) hb).boxed (fun h => h) hbx).cell⟩)
  have hnb : (n : Int) ≤ (b.size : Int) := by omega
  have hn2 : (n : Int) ≤ 256 := by omega
  generalize decide (inC f m k n v) = R at *
  generalize dstr (k * f m / 2 ^ n) = s1 at *
  generalize dstr (upD ((k + 1) * f m) (2 ^ n)) = s2 at *
  clear h hs hbig hb hsz hW hsc hbb hbx hv hm hn t1 t2 hcell hlt hp okT e1 e2 ol oh hk hh
  obtain ⟨⟨c0, c1⟩, c2, c3⟩ := HK.out w (Below.refl _ _)
  have hD0 := (Below.refl w.heap.size w).drew
  go_enter Tryz.func140, Tryz.ntmps140
  go_wp2_with fail
  have HK3 := Lib.hid (fun W (hb : Below w.heap.size w W) => And.intro (HK.out W hb).1 (HK.out W hb).2.1)
  have hDA := ((Below.refl w.heap.size w).alloc (Nat.le_refl _) (spO ⟨#[]⟩ ⟨#[]⟩)).drew
  go_region_held3 (fun W => (W.cell? ⟨bs, 0, none⟩ = some (.int .i64 (m : Int)) ∧ W.cell? ⟨bs, 1, none⟩ = some (.func (.func g) #[] cb)) ∧ W.cell? ⟨bb, 0, none⟩ = some (.string b))
    (first | with_reducible exact HK3.out _ hD0 | with_reducible exact HK3.out _ (by assumption) | exact HK3.out _ (hB1.alloc hB1.size _) | exact HK3.out _ hDA | exact HK3.out _ (below_st2 hB1 (Nat.le_refl _) s1 s2) | exact HK3.out _ (hD0.alloc hD0.size _))
    (first
      | (go_at_call 136; refine (lift_shP (w0 := w) (by first | assumption | exact hDA | exact hD0.alloc hD0.size _) (HC.out _ (by first | assumption | exact hDA | exact hD0.alloc hD0.size _))).mono ?_; rintro e u1 ⟨rfl, hb1, hB1⟩; (first | (have hq := (SPB.newD w ⟨#[]⟩ ⟨#[]⟩).below hb1; have HQ := Lib.hid hq; have i0 := hq.c.1; have i1 := hq.c.2; have j0 := hq.f 0; have j1 := hq.f 1; clear hq) | skip)))
  · have hbe := hB1.alloc hB1.size (spO s1 s2)
    obtain ⟨⟨k0, k1⟩, _, k3⟩ := HK.out _ hbe
    obtain ⟨l0, l1⟩ := (SPB.new u1 s1 s2).c
    have HBE := Lib.hid hbe
    have HH2 := Lib.hid (HH.out _ hbe)
    clear hb1 hB1 hbe hD0 hDA c0 c1 c2 c3 HH
    go_wp2_with fail
    refine HH2.out.mono ?_
    rintro e w3 ⟨rfl, hb3⟩
    have HB3 := Lib.hid (HBE.out.trans (hb3.mono HBE.out.size))
    clear hb3 HH2 HBE k0 k1 k3 l0 l1
    go_wp2_with fail
    go_ret
    exact ⟨rfl, HB3.out⟩
  · have hbe : Below w.heap.size w (st2 u1 w.heap.size s1 s2) := below_st2 hB1 (Nat.le_refl _) s1 s2
    have hkk := HK.out _ hbe
    have hll := (HQ.out.st s1 s2).c
    have HBE := Lib.hid hbe
    have hh2 := HH.out _ hbe
    unfold st2 at hkk hll hh2
    obtain ⟨⟨k0, k1⟩, _, k3⟩ := hkk
    obtain ⟨l0, l1⟩ := hll
    have HH2 := Lib.hid hh2
    clear hb1 hB1 hbe hD0 hDA c0 c1 c2 c3 HH hh2 i0 i1 j0 j1
    go_wp2_with fail
    refine HH2.out.mono ?_
    rintro e w3 ⟨rfl, hb3⟩
    have HB3 := Lib.hid (HBE.out.trans (Below.mono (w := st2 u1 w.heap.size s1 s2) hb3 HBE.out.size))
    clear hb3 HH2 HBE k0 k1 k3 l0 l1
    go_wp2_with fail
    go_ret
    exact ⟨rfl, HB3.out⟩

set_option maxHeartbeats 6400000 in
set_option maxRecDepth 100000 in
/-- A draw on a scale. -/
theorem draw_any {m g : Nat} {cb : Array Value} {f : Nat → Nat} {w : World} {b : ByteArray} {d : Bool} {v u : Nat} (h : ScAt w g cb f m) (hs : ScF f m) (hbig : Ok (f m * 2 ^ 256 + 1)) (hb : IsBits b.data.toList) (hsz : b.size ≤ 256) (htab : Tab w) (hm : m ≤ 1000000) (hT : PickIs f m b.data.toList d v u) :
    Calls Tryz.prog 71 #[scV m g cb, .string b] w fun e w' => e = .returned (.tuple #[.agg #[.bool d, .int .i64 (v : Int), .int .i64 (u : Int)], .int .i64 0]) ∧ Below w.heap.size w w' := by
  have hlen : b.size = b.data.toList.length := Go.Lib.size_eq b
  have hlt := bv_lt _ hb
  rw [← hlen] at hlt
  have okT := big_self hbig
  have hp : 0 < 2 ^ b.size := Nat.pow_pos (by omega)
  have e2 : (bv b.data.toList + 1) * f m ≤ f m * 2 ^ b.size := by rw [Nat.mul_comm]; exact Nat.mul_le_mul_left _ hlt
  have e1 : bv b.data.toList * f m ≤ f m * 2 ^ b.size := Nat.le_trans (Nat.mul_le_mul_right _ (by omega)) e2
  have ol : Ok (bv b.data.toList * f m / 2 ^ b.size) := okT.mono (Nat.div_le_of_le_mul (by rw [Nat.mul_comm (2 ^ b.size)]; exact e1))
  have oh : Ok (upD ((bv b.data.toList + 1) * f m) (2 ^ b.size)) := okT.mono ((upD_le hp).2 e2)
  have HC := Lib.hid (fun W (hb' : Below w.heap.size w W) => cell_ok (h.below hb') hbig hb hsz (htab.below hb'))
  have HF := Lib.hid (fun W (hb' : Below w.heap.size w W) => find_any (x := bv b.data.toList * f m / 2 ^ b.size) (h.below hb') hs ol okT hm)
  have hh := fun (r : Nat) (hr : r < m) W (hb' : Below w.heap.size w W) => holds_any (h.below hb') hs okT ol oh hr hm
  have hh2 : ∀ r, decide (f r ≤ bv b.data.toList * f m / 2 ^ b.size ∧ upD ((bv b.data.toList + 1) * f m) (2 ^ b.size) ≤ f (r + 1)) = decide (inC f m (bv b.data.toList) b.size r) := fun r => decide_eq_decide.2 holds_iff
  simp only [hh2] at hh
  have HH := Lib.hid hh
  have HFL := Lib.hid (fun (r : Nat) (hr : r ≤ m) (h1 : ∀ j, j < r → ¬ bv b.data.toList * f m / 2 ^ b.size < f (j + 1)) => find_lt hs hlt hr h1)
  have HSR := Lib.hid (fun (r : Nat) (hr : r < m) (bs bb bx : Nat) W (hb' : Below w.heap.size w W) (hsc : SCB W bs m g cb) (hbb : Boxed W bb 23 (.string b)) (hbx : Boxed W bx 3 (.int .i64 (r : Int))) =>
    search_any (g := 140) (cb := #[.pointer (some ⟨bs, 0, none⟩), .pointer (some ⟨bb, 0, none⟩), .pointer (some ⟨bx, 0, none⟩)]) (n := b.size) (p := fun n => decide (inC f m (bv (b.data.toList.take n)) n r)) (w := W)
      (enters_of Tryz.func140 (by kernel_rfl) rfl) (by omega)
      (fun W2 i hi hb2 => draw1_any (h.below (hb'.trans (hb2.mono hb'.size))) hs hbig hb hsz (fun W3 h3 => htab.below ((hb'.trans (hb2.mono hb'.size)).trans (h3.mono (hb'.trans (hb2.mono hb'.size)).size))) (hsc.below hb2) ((Ch.below (S := fun _ => False) hb2).boxed (fun h => h) hbb) ((Ch.below (S := fun _ => False) hb2).boxed (fun h => h) hbx) hr hm (by omega))
      (fun a c hac hc ha => decide_eq_true (inC_take hb hac (by omega) (of_decide_eq_true ha))))
  have HYES := Lib.hid (fun (r q : Nat) (hr : r < m) h1 h2 h3 h4 h5 h6 => (pick_uniq hs hb hT (pick_yes (u := q) hs hb hr h1 h2 h3 h4 h5 h6)))
  have HNO := Lib.hid (fun (r : Nat) (hr : r < m) h1 h2 h3 => (pick_uniq hs hb hT (pick_no hs hr h1 h2 h3)))
  rw [← hlen] at HYES HNO
  have hsb : (b.size : Int) ≤ 256 := by omega
  clear h hbig hb htab hm hT hlen hlt okT hp e1 e2 ol oh hh hh2
  generalize dstr (bv b.data.toList * f m / 2 ^ b.size) = s1 at *
  generalize dstr (upD ((bv b.data.toList + 1) * f m) (2 ^ b.size)) = s2 at *
  obtain ⟨w1, hw1⟩ : ∃ w1, ((w.alloc (scO m g cb)).alloc (.cells #[.string b] 23)).alloc (drO false 0 0) = w1 := ⟨_, rfl⟩
  have hb1 : Below w.heap.size w w1 := by rw [← hw1]; exact (((Below.refl w.heap.size w).alloc (Nat.le_refl _) _).alloc (by simp) _).alloc (by simp; omega) _
  have hsc : SCB w1 w.heap.size m g cb := by rw [← hw1]; exact ((SCB.new w m g cb).below ((Below.refl _ _).alloc (Nat.le_refl _) _)).below ((Below.refl _ _).alloc (Nat.le_refl _) _)
  have hbb : Boxed w1 (w.heap.size + 1) 23 (.string b) := by
    rw [← hw1]; have := (Boxed.new (w.alloc (scO m g cb)) 23 (.string b)).alloc (drO false 0 0); rwa [World.size_alloc] at this
  have hdr : DR w1 (w.heap.size + 2) false 0 0 := by
    rw [← hw1]; have := DR.new ((w.alloc (scO m g cb)).alloc (.cells #[.string b] 23)) false 0 0; rw [World.size_alloc, World.size_alloc] at this; exact this
  obtain ⟨c0, c1⟩ := hsc.c
  have c2 := hbb.cell
  have HB := Lib.hid hb1
  have HSC := Lib.hid hsc
  have HBB := Lib.hid hbb
  have HDR := Lib.hid hdr
  clear hb1 hsc hbb hdr
  go_enter Tryz.func71, Tryz.ntmps71
  go_wp2_with fail
  refine (HC.out _ HB.out).mono ?_
  rintro e w2 ⟨rfl, hb⟩
  have hb3 := hb.alloc hb.size (spO s1 s2)
  have hsp := SPB.new w2 s1 s2
  replace HB := Lib.hid (HB.out.trans (hb3.mono HB.out.size))
  replace HSC := Lib.hid (HSC.out.below hb3)
  replace HBB := Lib.hid ((Ch.below (S := fun _ => False) hb3).boxed (fun h => h) HBB.out)
  replace HDR := Lib.hid (HDR.out.below hb3)
  clear hw1 c0 c1 c2 hb hb3 HC
  obtain ⟨w3, hw3⟩ : ∃ w3, w2.alloc (spO s1 s2) = w3 := ⟨_, rfl⟩
  obtain ⟨k3, hk3⟩ : ∃ k3, w2.heap.size = k3 := ⟨_, rfl⟩
  rw [hw3] at HB HSC HBB HDR hsp
  rw [hk3] at hsp
  obtain ⟨c0, c1⟩ := HSC.out.c
  obtain ⟨d0, d1⟩ := hsp.c
  have HSP := Lib.hid hsp
  clear hsp
  go_wp2_with fail
  refine (HF.out _ HB.out).mono ?_
  rintro e w4 ⟨r, hr, rfl, h1, h2, hb⟩
  have hrm := HFL.out r hr h1
  have h2' := h2 hrm
  have HFD := Lib.hid (And.intro h1 h2')
  have HRM := Lib.hid hrm
  have hb5 := hb.alloc hb.size (.cells #[.int .i64 (r : Int)] 3)
  have hbx := Boxed.new w4 3 (.int .i64 (r : Int))
  replace HB := Lib.hid (HB.out.trans (hb5.mono HB.out.size))
  replace HSC := Lib.hid (HSC.out.below hb5)
  replace HBB := Lib.hid ((Ch.below (S := fun _ => False) hb5).boxed (fun h => h) HBB.out)
  replace HDR := Lib.hid (HDR.out.below hb5)
  replace HSP := Lib.hid (HSP.out.below hb5)
  clear hw3 hk3 c0 c1 d0 d1 hb hb5 HF HFL h1 h2 h2' hr hrm
  obtain ⟨w5, hw5⟩ : ∃ w5, w4.alloc (.cells #[.int .i64 (r : Int)] 3) = w5 := ⟨_, rfl⟩
  obtain ⟨k5, hk5⟩ : ∃ k5, w4.heap.size = k5 := ⟨_, rfl⟩
  rw [hw5] at HB HSC HBB HDR HSP hbx
  rw [hk5] at hbx
  obtain ⟨c0, c1⟩ := HSC.out.c
  obtain ⟨d0, d1⟩ := HSP.out.c
  have e0 := hbx.cell
  have HBX := Lib.hid hbx
  clear hbx
  go_wp2_with fail
  refine (HH.out r HRM.out _ HB.out).mono ?_
  rintro e w6 ⟨rfl, hb⟩
  replace HB := Lib.hid (HB.out.trans (hb.mono HB.out.size))
  replace HSC := Lib.hid (HSC.out.below hb)
  replace HBB := Lib.hid ((Ch.below (S := fun _ => False) hb).boxed (fun h => h) HBB.out)
  replace HBX := Lib.hid ((Ch.below (S := fun _ => False) hb).boxed (fun h => h) HBX.out)
  replace HDR := Lib.hid (HDR.out.below hb)
  clear hw5 hk5 c0 c1 d0 d1 e0 hb HH HSP
  have c2 := HBB.out.cell
  by_cases hin : inC f m (bv b.data.toList) b.size r
  · rw [decide_eq_true hin]
    have HIN := Lib.hid hin
    clear hin HNO
    go_wp2_with fail
    refine (HSR.out r HRM.out _ _ _ _ HB.out HSC.out HBB.out HBX.out).mono ?_
    rintro e w7 ⟨q, hq, rfl, hq1, hq2, hb⟩
    replace HB := Lib.hid (HB.out.trans (hb.mono HB.out.size))
    have e0 := ((Ch.below (S := fun _ => False) hb).boxed (fun h => h) HBX.out).cell
    have hdr := HDR.out.below hb
    obtain ⟨g0, g1, g2⟩ := hdr.c
    have f0 := hdr.f 0
    have f1 := hdr.f 1
    have f2 := hdr.f 2
    have HD := Lib.hid hdr
    obtain ⟨rfl, rfl, rfl⟩ := HYES.out r q HRM.out HFD.out.1 HFD.out.2 HIN.out hq (fun j hj => of_decide_eq_false (hq1 j hj)) (fun h => of_decide_eq_true (hq2 h))
    clear hq hq1 hq2 hb HSR HYES hdr c2 HBX HBB HSC HDR
    go_wp2_with fail
    exact bodyPost_ret ((HD.out.st true (v : Int) (u : Int)).result rfl rfl rfl) rfl ⟨rfl, below_sr3 HB.out (by omega) _ _ _⟩
  · rw [decide_eq_false hin]
    obtain ⟨rfl, rfl, rfl⟩ := HNO.out r HRM.out HFD.out.1 HFD.out.2 hin
    obtain ⟨g0, g1, g2⟩ := HDR.out.c
    have f0 := HDR.out.f 0
    have f1 := HDR.out.f 1
    have f2 := HDR.out.f 2
    clear hin HYES HNO HSR
    go_wp2_with fail
    exact bodyPost_ret ((HDR.out.st false 0 (b.size : Int)).result rfl rfl rfl) rfl ⟨rfl, below_sr3 HB.out (by omega) _ _ _⟩

open Go.RowKit NV
open Go.Lib (decDigits)

theorem errneP {c : Nat} (h : c ≠ 0) : (((c : Nat) : Int) != 0) = true := by rw [bne_iff_ne]; omega

/-- A slice of N texts: f. -/
def PRow (w : World) (ao : Option Addr) (N : Nat) (f : Nat → ByteArray) : Prop :=
  N = 0 ∨ ∃ a, ao = some a ∧ a.block < w.heap.size ∧ ∀ j, j < N → w.cell? (a.add j) = some (.string (f j))
theorem add_blockP (a : Addr) (j : Nat) : (a.add j).block = a.block := by unfold Addr.add; split <;> rfl
theorem PRow.keep {w w' : World} {ao : Option Addr} {N : Nat} {f : Nat → ByteArray} {B : Nat} (h : PRow w ao N f) (hb : Below B w w') (hB : ∀ a, ao = some a → N ≠ 0 → a.block < B) : PRow w' ao N f := by
  rcases h with h | ⟨a, h1, h2, h3⟩
  · exact .inl h
  · by_cases h0 : N = 0
    · exact .inl h0
    · have hlt := hB a h1 h0
      exact .inr ⟨a, h1, Nat.lt_of_lt_of_le h2 hb.size, fun j hj => (hb.cell (p := a.add j) (by rw [add_blockP]; exact hlt)).trans (h3 j hj)⟩
theorem PRow.lt {w : World} {ao : Option Addr} {N : Nat} {f : Nat → ByteArray} (h : PRow w ao N f) : ∀ a, ao = some a → N ≠ 0 → a.block < w.heap.size := by
  intro a ha h0
  rcases h with h | ⟨b, h1, h2, _⟩
  · exact absurd h h0
  · rw [ha] at h1; cases h1; exact h2
theorem PRow.below {w w' : World} {ao : Option Addr} {N : Nat} {f : Nat → ByteArray} (h : PRow w ao N f) (hb : Below w.heap.size w w') : PRow w' ao N f := h.keep hb h.lt
theorem PRow.at {w : World} {ao : Option Addr} {N : Nat} {f : Nat → ByteArray} (h : PRow w ao N f) {j : Nat} (hj : j < N) : ∃ a, ao = some a ∧ a.block < w.heap.size ∧ w.cell? (a.add j) = some (.string (f j)) := by
  rcases h with h | ⟨a, h1, h2, h3⟩
  · omega
  · exact ⟨a, h1, h2, h3 j hj⟩
theorem PRow.form {w : World} {ao : Option Addr} {N : Nat} {f : Nat → ByteArray} (h : PRow w ao N f) (h0 : N ≠ 0) : ∃ a, ao = some a ∧ a.block < w.heap.size ∧ ∀ j, j < N → w.cell? (a.add j) = some (.string (f j)) := by
  rcases h with h | h
  · exact absurd h h0
  · exact h
theorem PRow.congr {w : World} {ao : Option Addr} {N : Nat} {f g : Nat → ByteArray} (h : PRow w ao N f) (e : ∀ j, j < N → f j = g j) : PRow w ao N g := by
  rcases h with h | ⟨a, h1, h2, h3⟩
  · exact .inl h
  · exact .inr ⟨a, h1, h2, fun j hj => by rw [← e j hj]; exact h3 j hj⟩

set_option maxHeartbeats 1600000 in
set_option maxRecDepth 100000 in
theorem wcheck_far {ao : Option Addr} {N cap : Nat} (hN : N < 1 ∨ 64 < N) (w : World) :
    Calls Tryz.prog 69 #[.slice ao N cap] w fun e w' => e = .returned (.int .i64 2) ∧ w = w' := by
  go_enter Tryz.func69, Tryz.ntmps69
  by_cases h1 : N < 1
  · have h2 : (N : Int) < 1 := by omega
    clear hN
    go_wp2_with fail
    go_ret
    exact ⟨rfl, rfl⟩
  · have h2 : ¬ (N : Int) < 1 := by omega
    have h3 : (64 : Int) < (N : Int) := by omega
    clear hN
    go_wp2_with fail
    go_ret
    exact ⟨rfl, rfl⟩

set_option maxHeartbeats 3200000 in
set_option maxRecDepth 100000 in
theorem wcheck_any {ao : Option Addr} {N cap : Nat} {f : Nat → ByteArray} {w : World} (h : PRow w ao N f) (hs : ∀ j, j < N → (f j).size ≤ 140737488351232) :
    Calls Tryz.prog 69 #[.slice ao N cap] w fun e w' => e = .returned (.int .i64 ((pickE f N : Nat) : Int)) ∧ w = w' := by
  by_cases hN : N < 1 ∨ 64 < N
  · rw [show pickE f N = 2 from if_pos hN]; exact wcheck_far hN w
  obtain ⟨a, rfl, hlt, hcell⟩ := h.form (by omega)
  have HC := Lib.hid hcell
  have HS := Lib.hid hs
  obtain ⟨z, hz⟩ : ∃ z : Nat → Int, ∀ k, z k = if wZ f k then 6 else 0 := ⟨_, fun _ => rfl⟩
  have HZ := Lib.hid hz
  have HE := Lib.hid (show wEs f N = 0 → ((pickE f N : Nat) : Int) = z N by
    intro h0; unfold pickE; rw [if_neg hN, h0, if_neg (by omega), hz]; split <;> rfl)
  have HE2 := Lib.hid (show ∀ k, k < N → wEs f k = 0 → wE (f k) ≠ 0 → ((pickE f N : Nat) : Int) = ((wE (f k) : Nat) : Int) by
    intro k hk h0 h1; have h2 := wEs_at h0 h1 hk; unfold pickE; rw [if_neg hN, h2, if_pos h1])
  have hn1 : ¬ (N : Int) < 1 := by omega
  have hn2 : ¬ (64 : Int) < (N : Int) := by omega
  have HN := Lib.hid hN
  clear h hs hcell hz hN
  generalize hT : ((pickE f N : Nat) : Int) = T at *
  clear hT
  go_enter Tryz.func69, Tryz.ntmps69
  go_wp2_with fail
  go_loop [3, 17] (fun s3 s17 => ∃ k : Nat, k ≤ N ∧ s17 = .int .i64 (k : Int) ∧ s3 = .int .i64 (z k) ∧ Hid (wEs f k = 0)) (fun _ s17 => N - (intOf s17).toNat)
  case atStart => exact ⟨0, Nat.zero_le _, rfl, by rw [HZ.out]; rfl, Lib.hid rfl⟩
  case round =>
    obtain ⟨k, hk, rfl, rfl, hw⟩ := hrel
    by_cases hlt2 : k < N
    · have c0 := HC.out k hlt2
      have hck := check_any (f k) w (HS.out k hlt2)
      by_cases h0 : chk (f k).data.toList = 0
      · rw [h0] at hck
        by_cases h5 : 3800 < (f k).size
        · have HR := Lib.hid (HE2.out k hlt2 hw.out (by unfold wE; rw [if_neg (by omega), if_pos h5]; omega))
          have HR5 := Lib.hid (show wE (f k) = 5 by unfold wE; rw [if_neg (by omega), if_pos h5])
          have HCK := Lib.hid hck
          have h5' : (3800 : Int) < ((f k).size : Int) := by omega
          clear hck h0 h5
          go_wp2_with fail
          refine HCK.out.mono ?_
          rintro e w1 ⟨rfl, rfl⟩
          clear HCK
          go_wp2_with fail
          go_ret
          exact ⟨ret_int (by rw [HR.out, HR5.out]; rfl), rfl⟩
        · have HW := Lib.hid (wEs_step hw.out (show wE (f k) = 0 by unfold wE; rw [if_neg (by omega), if_neg h5]))
          have h5' : ¬ (3800 : Int) < ((f k).size : Int) := by omega
          have HCK := Lib.hid hck
          clear hck h0 h5
          by_cases hz0 : ((f k).toList == [48]) = true
          · have HZ1 := Lib.hid (show z (k + 1) = z k by rw [HZ.out, HZ.out]; show (if (wZ f k && ((f k).toList == [48])) then (6 : Int) else 0) = _; rw [hz0, Bool.and_true])
            go_wp2_with fail
            refine HCK.out.mono ?_
            rintro e w1 ⟨rfl, rfl⟩
            clear HCK
            go_wp2_with fail
            go_round
            case rel => exact ⟨k + 1, by omega, by go_num, by rw [HZ1.out], HW⟩
            case measure => simp [intOf]; omega
          · have hz0 : ((f k).toList == [48]) = false := by simpa using hz0
            have HZ1 := Lib.hid (show z (k + 1) = 0 by rw [HZ.out]; show (if (wZ f k && ((f k).toList == [48])) then (6 : Int) else 0) = _; rw [hz0, Bool.and_false]; rfl)
            go_wp2_with fail
            refine HCK.out.mono ?_
            rintro e w1 ⟨rfl, rfl⟩
            clear HCK
            go_wp2_with fail
            go_round
            case rel => exact ⟨k + 1, by omega, by go_num, by rw [HZ1.out], HW⟩
            case measure => simp [intOf]; omega
      · have hne := errneP h0
        have HR := Lib.hid (HE2.out k hlt2 hw.out (by unfold wE; rw [if_pos h0]; exact h0))
        have HR5 := Lib.hid (show wE (f k) = chk (f k).data.toList by unfold wE; rw [if_pos h0])
        have HCK := Lib.hid hck
        generalize chk (f k).data.toList = c at *
        clear hck h0
        go_wp2_with fail
        refine HCK.out.mono ?_
        rintro e w1 ⟨rfl, rfl⟩
        clear HCK
        go_wp2_with fail
        go_ret
        exact ⟨ret_int (by rw [HR.out, HR5.out]), rfl⟩
    · obtain rfl : k = N := by omega
      have HR := Lib.hid (HE.out hw.out)
      go_wp2_with fail
      go_ret
      exact ⟨ret_int HR.out.symm, rfl⟩

set_option maxHeartbeats 1600000 in
theorem uniform1_any {i : Nat} (hi : i ≤ 9223372036854775807) (w : World) (htab : Tab w) :
    Calls Tryz.prog 143 #[.int .i64 (i : Int)] w fun e w' => e = .returned (.string (dstr i)) ∧ Below w.heap.size w w' := by
  have HF := Lib.hid (FromInt_ok i hi w htab)
  generalize dstr i = s at *
  clear htab hi
  go_enter Tryz.func143, Tryz.ntmps143
  go_wp2_with fail
  refine HF.out.mono ?_
  rintro e w1 ⟨rfl, hb⟩
  have HB := Lib.hid hb
  clear hb HF
  go_wp2_with fail
  go_ret
  exact ⟨rfl, HB.out⟩
theorem uniform_sc (m : Nat) (hm : m ≤ 1000000) {w : World} (htab : Tab w) : ScAt w 143 #[] (fun i => i) m :=
  ⟨enters_of Tryz.func143 (by kernel_rfl) rfl, fun W hb i hi => uniform1_any (by omega) W (htab.below hb)⟩

theorem SCB.result {w : World} {b m g : Nat} {cb : Array Value} {tmps : Array Value} {fn : Func} (h : SCB w b m g cb) (hf : fn.results = #[.cell 2 95]) (ht : tmps.getD 2 undef = .pointer (some ⟨b, 0, none⟩)) : (results fn tmps).run Tryz.prog w = .ok (scV m g cb) w := by
  have hl := h.load
  have ht' : tmps[2]?.getD undef = .pointer (some ⟨b, 0, none⟩) := by rw [← ht]; simp
  simp [results, hf, ht', asAddr, hl]
abbrev scZ : Obj := .cells #[.int .i64 0, .nilFunc] 95
def sc2 (w : World) (b : Nat) (x y : Value) : World := (w.setCell ⟨b, 0, none⟩ x).setCell ⟨b, 1, none⟩ y
theorem SCB.st {w : World} {b m g : Nat} {x y : Value} {cb : Array Value} (h : w.heap[b]? = some (.cells #[x, y] 95 (0, 0))) : SCB (sc2 w b (.int .i64 (m : Int)) (.func (.func g) #[] cb)) b m g cb :=
  heap_setCell_same _ b 1 _ _ _ (heap_setCell_same w b 0 _ _ _ h)
theorem below_sc2 {B : Nat} {w w' : World} (h : Below B w w') {b : Nat} (hb : B ≤ b) (x y : Value) : Below B w (sc2 w' b x y) :=
  (h.setCell (p := ⟨b, 0, none⟩) hb _).setCell (p := ⟨b, 1, none⟩) hb _

set_option maxHeartbeats 1600000 in
theorem uniform_any (m : Nat) (w : World) :
    Calls Tryz.prog 75 #[.int .i64 (m : Int)] w fun e w' => e = .returned (scV m 143 #[]) ∧ Below w.heap.size w w' := by
  have h0 : (w.alloc scZ).heap[w.heap.size]? = some (.cells #[.int .i64 0, .nilFunc] 95 (0, 0)) := heap_alloc_new w _
  have c0 : (w.alloc scZ).cell? ⟨w.heap.size, 0, none⟩ = some (.int .i64 0) := by rw [Lib.cell_of_heap h0]; rfl
  have c1 : (w.alloc scZ).cell? ⟨w.heap.size, 1, none⟩ = some .nilFunc := by rw [Lib.cell_of_heap h0]; rfl
  have f0 : (w.alloc scZ).frozen? ⟨w.heap.size, 0, none⟩ = false := Lib.frozen_of_heap h0 0
  have f1 : (w.alloc scZ).frozen? ⟨w.heap.size, 1, none⟩ = false := Lib.frozen_of_heap h0 1
  have H0 := Lib.hid h0
  have HB := Lib.hid ((Below.refl w.heap.size w).alloc (Nat.le_refl _) scZ)
  clear h0
  go_enter Tryz.func75, Tryz.ntmps75
  go_wp2_with fail
  first
    | exact bodyPost_ret ((SCB.st H0.out).result rfl rfl) rfl ⟨rfl, below_sc2 HB.out (Nat.le_refl _) _ _⟩
    | exact bodyPost_ret ((SCB.new w m 143 #[]).result rfl rfl) rfl ⟨rfl, (Below.refl w.heap.size w).alloc (Nat.le_refl _) _⟩

end Go.Proofs.YteojekiocecdnaaGreatDoor
