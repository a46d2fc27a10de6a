/-
  Lists of texts: the kit's Same, slices.Equal, slices.Index, the reference's twice.
-/
import Derived.Test.YtgehldadfaonbaaDoorSF
namespace Go.Proofs.YtgehldadfaonbaaDoor
open Go.RowKit Go.Shelf

theorem quiet_eq {v w : World} (h : ∃ n, v = w.drewN n) : Below w.heap.size w v := by
  obtain ⟨n, rfl⟩ := h
  exact below_drewN (Below.refl _ _) n
theorem TL.drewN {w : World} {ao : Option Addr} {l : List ByteArray} (h : TL w ao l) (n : Nat) : TL (w.drewN n) ao l := h.below (below_drewN (Below.refl _ _) n)
theorem list_eq_of {l m : List ByteArray} (hl : l.length = m.length) (h : ∀ j, j < l.length → l.getD j ByteArray.empty = m.getD j ByteArray.empty) : l = m := by
  apply List.ext_getElem hl
  intro i h1 h2
  have := h i h1
  simpa [List.getD_eq_getElem?_getD, h1, h2] using this

set_option maxHeartbeats 1600000 in
/-- privhousekit.Same at texts. -/
theorem same_any {a b : Option Addr} {l m : List ByteArray} {c1 c2 : Nat} {w : World} (hl : TL w a l) (hm : TL w b m) (b1 : l.length ≤ 9223372036854775807) (_b2 : m.length ≤ 9223372036854775807) :
    Calls Tryd.prog 25 #[.slice a l.length c1, .slice b m.length c2] w fun e w' => e = .returned (.bool (decide (l = m))) ∧ ∃ n, w' = w.drewN n := by
  by_cases hlen : l.length = m.length
  · have HL := Lib.hid hl
    have HM := Lib.hid hm
    have HE := Lib.hid hlen
    obtain ⟨N, hN⟩ : ∃ N, N = l.length := ⟨_, rfl⟩
    have hN2 : N = m.length := by rw [hN]; exact hlen
    rw [← hN2, ← hN]
    rw [← hN] at b1
    have H1 := Lib.hid hN
    have H2 := Lib.hid hN2
    clear hl hm hlen hN hN2
    go_enter Tryd.func25, Tryd.ntmps25
    go_wp2_with fail
    go_loopw [5] (fun i wr => ∃ k n : Nat, k ≤ N ∧ i = .int .i64 (k : Int) ∧ wr = w.drewN n ∧ Hid (∀ j, j < k → l.getD j ByteArray.empty = m.getD j ByteArray.empty)) (fun i _ => N - (intOf i).toNat)
    case atStart => exact ⟨0, 0, Nat.zero_le _, rfl, rfl, Lib.hid (fun j hj => absurd hj (Nat.not_lt_zero _))⟩
    case round =>
      obtain ⟨k, n, hk, rfl, rfl, HK⟩ := hrel
      by_cases hlt : k < N
      · obtain ⟨ad, ea, ha, d1⟩ := HL.out.at (j := k) (by rw [← H1.out]; exact hlt)
        obtain ⟨bd, eb, hb, d2⟩ := HM.out.at (j := k) (by rw [← H2.out]; exact hlt)
        subst ea
        subst eb
        obtain ⟨s, hs⟩ : ∃ s, s = l.getD k ByteArray.empty := ⟨_, rfl⟩
        obtain ⟨t, ht⟩ : ∃ t, t = m.getD k ByteArray.empty := ⟨_, rfl⟩
        rw [← hs] at d1
        rw [← ht] at d2
        have HS := Lib.hid hs
        have HT := Lib.hid ht
        clear hs ht ha hb
        by_cases he : s = t
        · have hne : (!(s.toList == t.toList)) = false := by rw [str_same he]; rfl
          have HQ := Lib.hid (show ∀ j, j < k + 1 → l.getD j ByteArray.empty = m.getD j ByteArray.empty from fun j hj => by
            rcases Nat.lt_succ_iff_lt_or_eq.1 hj with h | rfl
            · exact HK.out j h
            · rw [← HS.out, ← HT.out]; exact he)
          clear he
          go_wp2_with fail
          go_quiet (fail)
          go_wp2_with fail
          go_roundw
          case rel => exact ⟨k + 1, _, by omega, by go_num, rfl, Lib.hid HQ.out⟩
          case measure => simp [intOf]; omega
        · have hne : (!(s.toList == t.toList)) = true := by rw [str_ne he]; rfl
          have HQ := Lib.hid (show l ≠ m from fun e => he (by rw [HS.out, HT.out, e]))
          clear he
          go_wp2_with fail
          go_quiet (fail)
          go_wp2_with fail
          go_ret
          exact ⟨by rw [decide_eq_false HQ.out]; rfl, n + _, World.drewN_drewN _ _ _⟩
      · obtain rfl : N = k := by omega
        have HQ := Lib.hid (list_eq_of HE.out (fun j hj => HK.out j (by rw [H1.out]; exact hj)))
        clear HK
        go_wp2_with fail
        go_ret
        exact ⟨by rw [decide_eq_true HQ.out]; rfl, _, rfl⟩
  · have hne : l ≠ m := fun e => hlen (by rw [e])
    have hq : ((l.length : Int) != (m.length : Int)) = true := by rw [bne_iff_ne]; omega
    rw [decide_eq_false hne]
    clear hl hm hne hlen
    go_enter Tryd.func25, Tryd.ntmps25
    go_wp2_with fail
    go_ret
    exact ⟨rfl, 0, rfl⟩

set_option maxHeartbeats 1600000 in
/-- slices.Equal at texts. -/
theorem sequal_any {a b : Option Addr} {l m : List ByteArray} {c1 c2 : Nat} {w : World} (hl : TL w a l) (hm : TL w b m) (b1 : l.length ≤ 9223372036854775807) (_b2 : m.length ≤ 9223372036854775807) :
    Calls Tryd.prog 75 #[.slice a l.length c1, .slice b m.length c2] w fun e w' => e = .returned (.bool (decide (l = m))) ∧ ∃ n, w' = w.drewN n := by
  by_cases hlen : l.length = m.length
  · have HL := Lib.hid hl
    have HM := Lib.hid hm
    have HE := Lib.hid hlen
    obtain ⟨N, hN⟩ : ∃ N, N = l.length := ⟨_, rfl⟩
    have hN2 : N = m.length := by rw [hN]; exact hlen
    rw [← hN2, ← hN]
    rw [← hN] at b1
    have H1 := Lib.hid hN
    have H2 := Lib.hid hN2
    clear hl hm hlen hN hN2
    go_enter Tryd.func75, Tryd.ntmps75
    go_wp2_with fail
    go_loopw [5, 13] (fun _ i wr => ∃ k n : Nat, k ≤ N ∧ i = .int .i64 (k : Int) ∧ wr = w.drewN n ∧ Hid (∀ j, j < k → l.getD j ByteArray.empty = m.getD j ByteArray.empty)) (fun _ i _ => N - (intOf i).toNat)
    case atStart => exact ⟨0, 0, Nat.zero_le _, rfl, rfl, Lib.hid (fun j hj => absurd hj (Nat.not_lt_zero _))⟩
    case round =>
      obtain ⟨k, n, hk, rfl, rfl, HK⟩ := hrel
      by_cases hlt : k < N
      · obtain ⟨ad, ea, ha, d1⟩ := HL.out.at (j := k) (by rw [← H1.out]; exact hlt)
        obtain ⟨bd, eb, hb, d2⟩ := HM.out.at (j := k) (by rw [← H2.out]; exact hlt)
        subst ea
        subst eb
        obtain ⟨s, hs⟩ : ∃ s, s = l.getD k ByteArray.empty := ⟨_, rfl⟩
        obtain ⟨t, ht⟩ : ∃ t, t = m.getD k ByteArray.empty := ⟨_, rfl⟩
        rw [← hs] at d1
        rw [← ht] at d2
        have HS := Lib.hid hs
        have HT := Lib.hid ht
        clear hs ht ha hb
        by_cases he : s = t
        · have hne : (!(s.toList == t.toList)) = false := by rw [str_same he]; rfl
          have HQ := Lib.hid (show ∀ j, j < k + 1 → l.getD j ByteArray.empty = m.getD j ByteArray.empty from fun j hj => by
            rcases Nat.lt_succ_iff_lt_or_eq.1 hj with h | rfl
            · exact HK.out j h
            · rw [← HS.out, ← HT.out]; exact he)
          clear he
          go_wp2_with fail
          go_quiet (fail)
          go_wp2_with fail
          go_roundw
          case rel => exact ⟨k + 1, _, by omega, by go_num, rfl, Lib.hid HQ.out⟩
          case measure => simp [intOf]; omega
        · have hne : (!(s.toList == t.toList)) = true := by rw [str_ne he]; rfl
          have HQ := Lib.hid (show l ≠ m from fun e => he (by rw [HS.out, HT.out, e]))
          clear he
          go_wp2_with fail
          go_quiet (fail)
          go_wp2_with fail
          go_ret
          exact ⟨by rw [decide_eq_false HQ.out]; rfl, n + _, World.drewN_drewN _ _ _⟩
      · obtain rfl : N = k := by omega
        have HQ := Lib.hid (list_eq_of HE.out (fun j hj => HK.out j (by rw [H1.out]; exact hj)))
        clear HK
        go_wp2_with fail
        go_ret
        exact ⟨by rw [decide_eq_true HQ.out]; rfl, _, rfl⟩
  · have hne : l ≠ m := fun e => hlen (by rw [e])
    have hq : ((l.length : Int) != (m.length : Int)) = true := by rw [bne_iff_ne]; omega
    rw [decide_eq_false hne]
    clear hl hm hne hlen
    go_enter Tryd.func75, Tryd.ntmps75
    go_wp2_with fail
    go_ret
    exact ⟨rfl, 0, rfl⟩

/-- The first place at which x stands, or -1. -/
def idxT (x : ByteArray) : List ByteArray → Int
  | [] => -1
  | y :: r => if y = x then 0 else if idxT x r < 0 then -1 else idxT x r + 1
theorem idxT_none (x : ByteArray) : ∀ l : List ByteArray, (∀ j, j < l.length → l.getD j ByteArray.empty ≠ x) → idxT x l = -1
  | [], _ => rfl
  | y :: r, h => by
    have h0 : y ≠ x := by simpa using h 0 (by simp)
    have ih := idxT_none x r (fun j hj => by simpa using h (j + 1) (by simpa using hj))
    unfold idxT
    rw [if_neg h0, ih]; rfl
theorem idxT_at (x : ByteArray) : ∀ (l : List ByteArray) (k : Nat), k < l.length → l.getD k ByteArray.empty = x → (∀ j, j < k → l.getD j ByteArray.empty ≠ x) → idxT x l = (k : Int)
  | [], k, hk, _, _ => by simp at hk
  | y :: r, 0, _, h, _ => by
    have h0 : y = x := by simpa using h
    unfold idxT
    rw [if_pos h0]; rfl
  | y :: r, k + 1, hk, h, hn => by
    have h0 : y ≠ x := by simpa using hn 0 (by omega)
    have ih := idxT_at x r k (by simpa using hk) (by simpa using h) (fun j hj => by simpa using hn (j + 1) (by omega))
    unfold idxT
    rw [if_neg h0, ih, if_neg (by omega)]; omega

set_option maxHeartbeats 1600000 in
/-- slices.Index at texts. -/
theorem sindex_any {a : Option Addr} {l : List ByteArray} {c : Nat} {x : ByteArray} {w : World} (hl : TL w a l) (b1 : l.length ≤ 9223372036854775807) :
    Calls Tryd.prog 57 #[.slice a l.length c, .string x] w fun e w' => e = .returned (.int .i64 (idxT x l)) ∧ w' = w := by
  have HL := Lib.hid hl
  obtain ⟨N, hN⟩ : ∃ N, N = l.length := ⟨_, rfl⟩
  rw [← hN]
  rw [← hN] at b1
  have H1 := Lib.hid hN
  clear hl hN
  go_enter Tryd.func57, Tryd.ntmps57
  go_wp2_with fail
  go_loop [5, 8] (fun _ i => ∃ k : Nat, k ≤ N ∧ i = .int .i64 (k : Int) ∧ Hid (∀ j, j < k → l.getD j ByteArray.empty ≠ x)) (fun _ i => N - (intOf i).toNat)
  case atStart => exact ⟨0, Nat.zero_le _, rfl, Lib.hid (fun j hj => absurd hj (Nat.not_lt_zero _))⟩
  case round =>
    obtain ⟨k, hk, rfl, HK⟩ := hrel
    by_cases hlt : k < N
    · obtain ⟨ad, ea, ha, d1⟩ := HL.out.at (j := k) (by rw [← H1.out]; exact hlt)
      subst ea
      obtain ⟨s, hs⟩ : ∃ s, s = l.getD k ByteArray.empty := ⟨_, rfl⟩
      rw [← hs] at d1
      have HS := Lib.hid hs
      clear hs ha
      by_cases he : x = s
      · have hne := str_same he
        have HQ := Lib.hid (idxT_at x l k (by rw [← H1.out]; exact hlt) (by rw [← HS.out]; exact he.symm) HK.out)
        clear he
        go_wp2
        go_ret
        exact ⟨by rw [HQ.out]; rfl, rfl⟩
      · have hne := str_ne he
        have HQ := Lib.hid (show ∀ j, j < k + 1 → l.getD j ByteArray.empty ≠ x from fun j hj => by
          rcases Nat.lt_succ_iff_lt_or_eq.1 hj with h | rfl
          · exact HK.out j h
          · rw [← HS.out]; exact fun e => he e.symm)
        clear he
        go_wp2
        go_round
        case rel => exact ⟨k + 1, by omega, by go_num, Lib.hid HQ.out⟩
        case measure => simp [intOf]; omega
    · obtain rfl : N = k := by omega
      have HQ := Lib.hid (idxT_none x l (fun j hj => HK.out j (by rw [H1.out]; exact hj)))
      clear HK
      go_wp2
      go_ret
      exact ⟨by rw [HQ.out]; rfl, rfl⟩

/-- Whether two of the texts are equal. -/
def twiceB : List ByteArray → Bool
  | [] => false
  | x :: r => r.any (fun y => decide (y = x)) || twiceB r
theorem twice_iff : ∀ l : List ByteArray, twiceB l = true ↔ ∃ i j, j < i ∧ i < l.length ∧ l.getD j ByteArray.empty = l.getD i ByteArray.empty
  | [] => by simp [twiceB]
  | x :: r => by
    unfold twiceB
    rw [Bool.or_eq_true, twice_iff r, List.any_eq_true]
    constructor
    · rintro (⟨y, hy, he⟩ | ⟨i, j, h1, h2, h3⟩)
      · obtain ⟨k, hk, rfl⟩ := List.mem_iff_getElem.1 hy
        refine ⟨k + 1, 0, by omega, by simpa using hk, ?_⟩
        have : r[k] = x := of_decide_eq_true he
        simp [hk, this]
      · exact ⟨i + 1, j + 1, by omega, by simpa using h2, by simpa using h3⟩
    · rintro ⟨i, j, h1, h2, h3⟩
      cases i with
      | zero => omega
      | succ i =>
        have h2' : i < r.length := by simpa using h2
        cases j with
        | zero =>
          refine .inl ⟨r[i], List.getElem_mem h2', decide_eq_true ?_⟩
          simpa [h2'] using h3.symm
        | succ j => exact .inr ⟨i, j, by omega, h2', by simpa using h3⟩
theorem twice_no {l : List ByteArray} (h : ∀ i, i < l.length → ∀ j, j < i → l.getD j ByteArray.empty ≠ l.getD i ByteArray.empty) : twiceB l = false := by
  cases e : twiceB l with
  | false => rfl
  | true =>
    obtain ⟨i, j, h1, h2, h3⟩ := (twice_iff l).1 e
    exact absurd h3 (h i h2 j h1)

set_option maxHeartbeats 3200000 in
/-- The reference's twice. -/
theorem rtwice_any {a : Option Addr} {l : List ByteArray} {c : Nat} {w : World} (hl : TL w a l) (b1 : l.length ≤ 9223372036854775807) :
    Calls Tryd.prog 70 #[.slice a l.length c] w fun e w' => e = .returned (.bool (twiceB l)) ∧ ∃ n, w' = w.drewN n := by
  have HL := Lib.hid hl
  obtain ⟨N, hN⟩ : ∃ N, N = l.length := ⟨_, rfl⟩
  rw [← hN]
  rw [← hN] at b1
  have H1 := Lib.hid hN
  clear hl hN
  go_enter Tryd.func70, Tryd.ntmps70
  go_wp2_with fail
  go_loopw [3, 4] (fun i _ wr => ∃ k n : Nat, k ≤ N ∧ i = .int .i64 (k : Int) ∧ wr = w.drewN n ∧ Hid (∀ i, i < k → ∀ j, j < i → l.getD j ByteArray.empty ≠ l.getD i ByteArray.empty)) (fun i _ _ => N - (intOf i).toNat)
  case atStart => exact ⟨0, 0, Nat.zero_le _, rfl, rfl, Lib.hid (fun j hj => absurd hj (Nat.not_lt_zero _))⟩
  case round =>
    obtain ⟨k, n, hk, rfl, rfl, HK⟩ := hrel
    by_cases hlt : k < N
    · obtain ⟨ad, ea, ha, d1⟩ := HL.out.at (j := k) (by rw [← H1.out]; exact hlt)
      subst ea
      obtain ⟨s, hs⟩ : ∃ s, s = l.getD k ByteArray.empty := ⟨_, rfl⟩
      rw [← hs] at d1
      have HS := Lib.hid hs
      clear hs ha
      go_wp2_with fail
      go_loopw [4] (fun i wr => ∃ q n : Nat, q ≤ k ∧ i = .int .i64 (q : Int) ∧ wr = w.drewN n ∧ Hid (∀ j, j < q → l.getD j ByteArray.empty ≠ s)) (fun i _ => k - (intOf i).toNat)
      case atStart => exact ⟨0, n, Nat.zero_le _, rfl, rfl, Lib.hid (fun j hj => absurd hj (Nat.not_lt_zero _))⟩
      case round =>
        obtain ⟨q, m, hq, rfl, rfl, HQ⟩ := hrel
        by_cases hlt2 : q < k
        · obtain ⟨bd, eb, hb, d2⟩ := HL.out.at (j := q) (by rw [← H1.out]; omega)
          obtain rfl : ad = bd := Option.some.inj eb
          obtain ⟨t, ht⟩ : ∃ t, t = l.getD q ByteArray.empty := ⟨_, rfl⟩
          rw [← ht] at d2
          have HT := Lib.hid ht
          have hqN : q < N := by omega
          clear ht hb eb
          by_cases he : t = s
          · have hne := str_same he
            have HR := Lib.hid ((twice_iff l).2 ⟨k, q, hlt2, by rw [← H1.out]; exact hlt, by rw [← HT.out, ← HS.out]; exact he⟩)
            clear he
            go_wp2_with fail
            go_quiet (fail)
            go_wp2_with fail
            go_ret
            exact ⟨by rw [HR.out]; rfl, m + _, World.drewN_drewN _ _ _⟩
          · have hne := str_ne he
            have HR := Lib.hid (show ∀ j, j < q + 1 → l.getD j ByteArray.empty ≠ s from fun j hj => by
              rcases Nat.lt_succ_iff_lt_or_eq.1 hj with h | rfl
              · exact HQ.out j h
              · rw [← HT.out]; exact he)
            clear he
            go_wp2_with fail
            go_quiet (fail)
            go_wp2_with fail
            go_roundw
            case rel => exact ⟨q + 1, _, by omega, by go_num, rfl, Lib.hid HR.out⟩
            case measure => simp [intOf]; omega
        · obtain rfl : k = q := by omega
          have HR := Lib.hid (show ∀ i, i < k + 1 → ∀ j, j < i → l.getD j ByteArray.empty ≠ l.getD i ByteArray.empty from fun i hi j hj => by
            rcases Nat.lt_succ_iff_lt_or_eq.1 hi with h | rfl
            · exact HK.out i h j hj
            · rw [← HS.out]; exact HQ.out j hj)
          go_wp2_with fail
          go_roundw
          case rel => exact ⟨k + 1, _, by omega, by go_num, rfl, Lib.hid HR.out⟩
          case measure => simp [intOf]; omega
    · obtain rfl : N = k := by omega
      have HR := Lib.hid (twice_no (l := l) (fun i hi => HK.out i (by rw [H1.out]; exact hi)))
      clear HK
      go_wp2_with fail
      go_ret
      exact ⟨by rw [HR.out]; rfl, n, rfl⟩

end Go.Proofs.YtgehldadfaonbaaDoor
