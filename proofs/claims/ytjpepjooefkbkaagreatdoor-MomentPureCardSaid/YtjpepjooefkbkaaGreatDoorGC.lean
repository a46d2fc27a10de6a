/-
  The contracts of Check (the program's and the reference's), and of checkAll. The contract of Parse. A strings.Builder that the call has made: what Grow, Write and String do to it, and which blocks they leave alone. Grow, Write and String at a builder of the call's own. strconv.AppendUint at base 10 into the array of ten bytes that text keeps. strconv.AppendUint at base 10 for every number of at most ten digits; strconv.FormatUint. The contracts of Digits and Text. The text of a number, and the numbers that a text can hold.
-/
import Derived.Test.YtjpepjooefkbkaaGreatDoorGB
import Derived.Test.YtjpepjooefkbkaaGreatDoorGA
import Derived.Lib.Strings
import Derived.Test.YtjpepjooefkbkaaGreatDoorShelf
import Derived.RegionTactic
import Derived.Deep.RegionWith
import Derived.Deep.QuietTactic
import Derived.BigQuiet
import Derived.Lib.AppendStr
import Derived.Lib.AppendIntMem
import Derived.Lib.ItoaMem
import Derived.Lib.BufferKept
import Derived.StillTailTactics
namespace Go.Proofs.YtjpepjooefkbkaaGreatDoor
open Go.RowKit NV
theorem badB_true {l : List UInt8} (h : l = [] ∨ (l.headD 0 = 48 ∧ 1 < l.length) ∨ (∃ c, c ∈ l ∧ ¬ (48 ≤ c.toNat ∧ c.toNat ≤ 57))) : badB l = true := by
 by_cases hb : badB l = true
 ·exact hb
 ·obtain ⟨h1, h2, h3⟩ := good_parts (l := l) (by simpa using hb)
  rcases h with h | ⟨h, h'⟩ | ⟨c, hc, h⟩
  ·exact absurd h h1
  ·have := h3 h; omega
  ·exact absurd (h2 c hc) h
theorem chk_three {l : List UInt8} (h : l = [] ∨ (l.headD 0 = 48 ∧ 1 < l.length) ∨ (∃ c, c ∈ l ∧ ¬ (48 ≤ c.toNat ∧ c.toNat ≤ 57))) : chk l = 3 := by
 unfold chk; rw [if_pos (badB_true h)]
theorem badB_false {l : List UInt8} (h1 : l ≠ []) (h2 : l.headD 0 = 48 → l.length ≤ 1) (h3 : Digs l) : badB l = false := by
 have := bad_dec (dv l)
 rwa [dec_of_digs h1 h3 h2] at this
theorem chk_five {l : List UInt8} (h1 : l ≠ []) (h2 : l.headD 0 = 48 → l.length ≤ 1) (h3 : Digs l) (h : 4000 < l.length) : chk l = 5 := by
 unfold chk; rw [badB_false h1 h2 h3, if_neg (by simp), if_pos h]
theorem chk_none {l : List UInt8} (h1 : l ≠ []) (h2 : l.headD 0 = 48 → l.length ≤ 1) (h3 : Digs l) (h : l.length ≤ 4000) : chk l = 0 := by
 unfold chk; rw [badB_false h1 h2 h3, if_neg (by simp), if_neg (by omega)]
theorem byte_at (s : ByteArray) (k : Nat) (h : k < s.size) : s.data.toList[k]? = some s[k] := by
 rw [List.getElem?_eq_getElem (by rw [← Go.Lib.size_eq]; exact h)]; rfl
theorem byte_mem (s : ByteArray) (k : Nat) (h : k < s.size) : s[k] ∈ s.data.toList := List.mem_of_getElem? (byte_at s k h)
theorem take_byte (s : ByteArray) (k : Nat) (h : k < s.size) : s.data.toList.take (k + 1) = s.data.toList.take k ++ [s[k]] := by
 rw [List.take_add_one, byte_at s k h]; rfl
theorem head_byte (s : ByteArray) (h : 0 < s.size) : s.data.toList.headD 0 = s[0] := by
 have := byte_at s 0 h
 cases hl : s.data.toList with
 | nil => rw [hl] at this; simp at this
 | cons x xs => rw [hl] at this; simpa using this
theorem digs_next {s : ByteArray} {k : Nat} (h : k < s.size) (hd : Digs (s.data.toList.take k)) (h1 : 48 ≤ (s[k]).toNat) (h2 : (s[k]).toNat ≤ 57) : Digs (s.data.toList.take (k + 1)) := by
 rw [take_byte s k h]
 intro c hc
 rcases List.mem_append.1 hc with hc | hc
 ·exact hd c hc
 ·rw [List.mem_singleton] at hc; subst hc; exact ⟨h1, h2⟩
set_option maxHeartbeats 1600000 in
set_option maxRecDepth 100000 in
theorem check_any (s : ByteArray) (w : World) (hs : s.size ≤ 140737488351232) :
  Calls Tryz.prog 145 #[.string s] w fun e w' => e = .returned (.int .i64 ((chk s.data.toList : Nat) : Int)) ∧ w = w' := by
 have hsz := Go.Lib.size_eq s
 have HSZ := Lib.hid hsz
 clear hsz
 by_cases h0 : 0 < s.size
 ·have hne : s.toList.isEmpty = false := by
   rw [Go.Lib.toList_data, List.isEmpty_eq_false_iff]
   intro e
   have h9 := HSZ.out; rw [e, List.length_nil] at h9; omega
  have hne1 : ¬ s.toList = [] := by intro e; rw [e] at hne; simp at hne
  have HN := Lib.hid (show s.data.toList ≠ [] by rw [← Go.Lib.toList_data]; exact hne1)
  by_cases hz : (s[0]).toNat = 48
  ·have hz1 : (48 : Int) ≤ ((s[0].toNat : Nat) : Int) := by omega
   have hz2 : ((s[0].toNat : Nat) : Int) ≤ 48 := by omega
   have HH := Lib.hid (show s.data.toList.headD 0 = 48 by rw [head_byte s h0]; exact UInt8.toNat_inj.1 (by rw [hz]; rfl))
   clear hz
   by_cases h1 : 1 < s.size
   ·have HR := Lib.hid (chk_three (l := s.data.toList) (.inr (.inl ⟨HH.out, by rw [← HSZ.out]; exact h1⟩)))
    go_enter Tryz.func145, Tryz.ntmps145
    go_wp2_with fail
    go_ret
    exact ⟨by rw [HR.out]; rfl, rfl⟩
   ·have HD := Lib.hid (show Digs s.data.toList from fun c hc => by
     have hl : s.data.toList.length = 1 := by rw [← HSZ.out]; omega
     have e1 := take_byte s 0 h0
     rw [List.take_of_length_le (by omega)] at e1
     rw [e1] at hc
     simp at hc; subst hc; omega)
    have HR := Lib.hid (chk_none (l := s.data.toList) HN.out (fun _ => by rw [← HSZ.out]; omega) HD.out (by rw [← HSZ.out]; omega))
    go_enter Tryz.func145, Tryz.ntmps145
    go_wp2_with fail
    go_loop [18] (fun i => ∃ k : Nat, k ≤ s.size ∧ i = .int .i64 k) (fun i => s.size - (intOf i).toNat)
    case atStart => exact ⟨0, Nat.zero_le _, rfl⟩
    case round =>
     obtain ⟨k, hk, rfl⟩ := hrel
     by_cases hlt : k < s.size
     ·obtain rfl : k = 0 := by omega
      go_wp2_with fail
      go_round
      case rel => exact ⟨1, by omega, by go_num⟩
      case measure => simp [intOf]; omega
     ·go_wp2_with fail
      go_ret
      exact ⟨by rw [HR.out]; rfl, rfl⟩
  ·have hzb : (((s[0].toNat : Nat) : Int) == 48) = false := by rw [beq_eq_false_iff_ne]; omega
   have HH := Lib.hid (show s.data.toList.headD 0 = 48 → s.data.toList.length ≤ 1 from fun e => by
    rw [head_byte s h0] at e; exact absurd (by rw [e]; rfl) hz)
   clear hz
   go_enter Tryz.func145, Tryz.ntmps145
   go_wp2_with fail
   go_loop [18] (fun i => ∃ k : Nat, k ≤ s.size ∧ i = .int .i64 k ∧ Digs (s.data.toList.take k)) (fun i => s.size - (intOf i).toNat)
   case atStart => exact ⟨0, Nat.zero_le _, rfl, fun c hc => by simp at hc⟩
   case round =>
    obtain ⟨k, hk, rfl, hd0⟩ := hrel
    have HD := Lib.hid hd0
    clear hd0
    by_cases hlt : k < s.size
    ·by_cases hlo : (s[k]).toNat < 48
     ·have hlo' : ((s[k].toNat : Nat) : Int) < 48 := by omega
      have HR := Lib.hid (chk_three (l := s.data.toList) (.inr (.inr ⟨s[k], byte_mem s k hlt, by omega⟩)))
      clear hlo
      go_wp2_with fail
      go_ret
      exact ⟨by rw [HR.out]; rfl, rfl⟩
     ·by_cases hhi : 57 < (s[k]).toNat
      ·have hlo' : (48 : Int) ≤ ((s[k].toNat : Nat) : Int) := by omega
       have hhi' : (57 : Int) < ((s[k].toNat : Nat) : Int) := by omega
       have HR := Lib.hid (chk_three (l := s.data.toList) (.inr (.inr ⟨s[k], byte_mem s k hlt, by omega⟩)))
       clear hlo hhi
       go_wp2_with fail
       go_ret
       exact ⟨by rw [HR.out]; rfl, rfl⟩
      ·have hlo' : (48 : Int) ≤ ((s[k].toNat : Nat) : Int) := by omega
       have hhi' : ((s[k].toNat : Nat) : Int) ≤ 57 := by omega
       have HD2 := Lib.hid (digs_next hlt HD.out (by omega) (by omega))
       clear hlo hhi
       go_wp2_with fail
       go_round
       case rel => exact ⟨k + 1, by omega, by go_num, HD2.out⟩
       case measure => simp [intOf]; omega
    ·have HD2 := Lib.hid (show Digs s.data.toList by
      have := HD.out
      rwa [List.take_of_length_le (by rw [← HSZ.out]; omega)] at this)
     by_cases h4 : 4000 < s.size
     ·have HR := Lib.hid (chk_five HN.out HH.out HD2.out (by rw [← HSZ.out]; exact h4))
      go_wp2_with fail
      go_ret
      exact ⟨by rw [HR.out]; rfl, rfl⟩
     ·have HR := Lib.hid (chk_none HN.out HH.out HD2.out (by rw [← HSZ.out]; omega))
      go_wp2_with fail
      go_ret
      exact ⟨by rw [HR.out]; rfl, rfl⟩
 ·have hn : s.data.toList = [] := List.eq_nil_of_length_eq_zero (by rw [← HSZ.out]; omega)
  have hne1 : s.toList = [] := by rw [Go.Lib.toList_data, hn]
  have HR := Lib.hid (chk_three (.inl hn))
  clear hn
  go_enter Tryz.func145, Tryz.ntmps145
  go_wp2_with fail
  go_ret
  exact ⟨by rw [HR.out]; rfl, rfl⟩
set_option maxHeartbeats 1600000 in
set_option maxRecDepth 100000 in
theorem refcheck_any (s : ByteArray) (w : World) (hs : s.size ≤ 140737488351232) :
  Calls Tryz.prog 89 #[.string s] w fun e w' => e = .returned (.int .i64 ((chk s.data.toList : Nat) : Int)) ∧ w = w' := by
 have hsz := Go.Lib.size_eq s
 have HSZ := Lib.hid hsz
 clear hsz
 by_cases h0 : 0 < s.size
 ·have hne : s.toList.isEmpty = false := by
   rw [Go.Lib.toList_data, List.isEmpty_eq_false_iff]
   intro e
   have h9 := HSZ.out; rw [e, List.length_nil] at h9; omega
  have hne1 : ¬ s.toList = [] := by intro e; rw [e] at hne; simp at hne
  have HN := Lib.hid (show s.data.toList ≠ [] by rw [← Go.Lib.toList_data]; exact hne1)
  by_cases hz : (s[0]).toNat = 48
  ·have hz1 : (48 : Int) ≤ ((s[0].toNat : Nat) : Int) := by omega
   have hz2 : ((s[0].toNat : Nat) : Int) ≤ 48 := by omega
   have HH := Lib.hid (show s.data.toList.headD 0 = 48 by rw [head_byte s h0]; exact UInt8.toNat_inj.1 (by rw [hz]; rfl))
   clear hz
   by_cases h1 : 1 < s.size
   ·have HR := Lib.hid (chk_three (l := s.data.toList) (.inr (.inl ⟨HH.out, by rw [← HSZ.out]; exact h1⟩)))
    go_enter Tryz.func89, Tryz.ntmps89
    go_wp2_with fail
    go_ret
    exact ⟨by rw [HR.out]; rfl, rfl⟩
   ·have HD := Lib.hid (show Digs s.data.toList from fun c hc => by
     have hl : s.data.toList.length = 1 := by rw [← HSZ.out]; omega
     have e1 := take_byte s 0 h0
     rw [List.take_of_length_le (by omega)] at e1
     rw [e1] at hc
     simp at hc; subst hc; omega)
    have HR := Lib.hid (chk_none (l := s.data.toList) HN.out (fun _ => by rw [← HSZ.out]; omega) HD.out (by rw [← HSZ.out]; omega))
    go_enter Tryz.func89, Tryz.ntmps89
    go_wp2_with fail
    go_loop [3] (fun i => ∃ k : Nat, k ≤ s.size ∧ i = .int .i64 k) (fun i => s.size - (intOf i).toNat)
    case atStart => exact ⟨0, Nat.zero_le _, rfl⟩
    case round =>
     obtain ⟨k, hk, rfl⟩ := hrel
     by_cases hlt : k < s.size
     ·obtain rfl : k = 0 := by omega
      go_wp2_with fail
      go_round
      case rel => exact ⟨1, by omega, by go_num⟩
      case measure => simp [intOf]; omega
     ·go_wp2_with fail
      go_ret
      exact ⟨by rw [HR.out]; rfl, rfl⟩
  ·have hzb : (((s[0].toNat : Nat) : Int) == 48) = false := by rw [beq_eq_false_iff_ne]; omega
   have HH := Lib.hid (show s.data.toList.headD 0 = 48 → s.data.toList.length ≤ 1 from fun e => by
    rw [head_byte s h0] at e; exact absurd (by rw [e]; rfl) hz)
   clear hz
   go_enter Tryz.func89, Tryz.ntmps89
   go_wp2_with fail
   go_loop [3] (fun i => ∃ k : Nat, k ≤ s.size ∧ i = .int .i64 k ∧ Digs (s.data.toList.take k)) (fun i => s.size - (intOf i).toNat)
   case atStart => exact ⟨0, Nat.zero_le _, rfl, fun c hc => by simp at hc⟩
   case round =>
    obtain ⟨k, hk, rfl, hd0⟩ := hrel
    have HD := Lib.hid hd0
    clear hd0
    by_cases hlt : k < s.size
    ·by_cases hlo : (s[k]).toNat < 48
     ·have hlo' : ((s[k].toNat : Nat) : Int) < 48 := by omega
      have HR := Lib.hid (chk_three (l := s.data.toList) (.inr (.inr ⟨s[k], byte_mem s k hlt, by omega⟩)))
      clear hlo
      go_wp2_with fail
      go_ret
      exact ⟨by rw [HR.out]; rfl, rfl⟩
     ·by_cases hhi : 57 < (s[k]).toNat
      ·have hlo' : (48 : Int) ≤ ((s[k].toNat : Nat) : Int) := by omega
       have hhi' : (57 : Int) < ((s[k].toNat : Nat) : Int) := by omega
       have HR := Lib.hid (chk_three (l := s.data.toList) (.inr (.inr ⟨s[k], byte_mem s k hlt, by omega⟩)))
       clear hlo hhi
       go_wp2_with fail
       go_ret
       exact ⟨by rw [HR.out]; rfl, rfl⟩
      ·have hlo' : (48 : Int) ≤ ((s[k].toNat : Nat) : Int) := by omega
       have hhi' : ((s[k].toNat : Nat) : Int) ≤ 57 := by omega
       have HD2 := Lib.hid (digs_next hlt HD.out (by omega) (by omega))
       clear hlo hhi
       go_wp2_with fail
       go_round
       case rel => exact ⟨k + 1, by omega, by go_num, HD2.out⟩
       case measure => simp [intOf]; omega
    ·have HD2 := Lib.hid (show Digs s.data.toList by
      have := HD.out
      rwa [List.take_of_length_le (by rw [← HSZ.out]; omega)] at this)
     by_cases h4 : 4000 < s.size
     ·have HR := Lib.hid (chk_five HN.out HH.out HD2.out (by rw [← HSZ.out]; exact h4))
      go_wp2_with fail
      go_ret
      exact ⟨by rw [HR.out]; rfl, rfl⟩
     ·have HR := Lib.hid (chk_none HN.out HH.out HD2.out (by rw [← HSZ.out]; omega))
      go_wp2_with fail
      go_ret
      exact ⟨by rw [HR.out]; rfl, rfl⟩
 ·have hn : s.data.toList = [] := List.eq_nil_of_length_eq_zero (by rw [← HSZ.out]; omega)
  have hne1 : s.toList = [] := by rw [Go.Lib.toList_data, hn]
  have HR := Lib.hid (chk_three (.inl hn))
  clear hn
  go_enter Tryz.func89, Tryz.ntmps89
  go_wp2_with fail
  go_ret
  exact ⟨by rw [HR.out]; rfl, rfl⟩
open Go.RowKit NV
def lvs (n k : Nat) : List Value := (List.range k).map (fun j => Value.int .u64 ((dg n j : Nat) : Int))
theorem lvs_succ (n k : Nat) : lvs n (k + 1) = lvs n k ++ [.int .u64 ((dg n k : Nat) : Int)] := by simp [lvs, List.range_succ]
theorem owns_below {w w' : World} {base : Nat} {e : TypeId} {size : Nat} {v : Value} {n : Nat} {xs : List Value} (h : w.ownsRow base e size v n xs) (hb : Below w.heap.size w w') : w'.ownsRow base e size v n xs := by
 refine ⟨h.1, ?_⟩
 rcases h.2 with h' | ⟨g, cap, cur, rfl, hbg, hg, rest⟩
 ·exact .inl h'
 ·exact .inr ⟨g, cap, cur, rfl, hbg, (hb.block g (Array.getElem?_eq_some_iff.1 hg).1).trans hg, rest⟩
theorem owns_trim {w : World} {base g k c n : Nat} (h : w.ownsRow base 118 1 (.slice (some ⟨g, 0, none⟩) k c) k (lvs n k)) (hk : ln n ≤ k) : Own w base (.slice (some ⟨g, 0, none⟩) (ln n) c) n := by
 refine ⟨⟨g, c, rfl⟩, by simp, ?_⟩
 rcases h.2 with ⟨h', _⟩ | ⟨g', cap, cur, h', hb, hg, hnc, hcm, hcs, htake⟩
 ·simp at h'
 ·simp only [Value.slice.injEq, Option.some.injEq, Addr.mk.injEq, and_true, true_and] at h'
  obtain ⟨rfl, rfl⟩ := h'
  refine .inr ⟨g, c, cur, rfl, hb, hg, by omega, hcm, hcs, ?_⟩
  have e : cur.toList.take (ln n * 1) = (cur.toList.take (k * 1)).take (ln n) := by rw [List.take_take]; congr 1; omega
  rw [e, htake, lvs, ← List.map_take, List.take_range, Nat.min_eq_left hk]
def bt (l : List UInt8) (j : Nat) : Nat := (l.getD j 0).toNat
def tv (l : List UInt8) (q : Nat) : Nat := dv (l.take q)
theorem bytes_cell {w : World} {g : Nat} (hg : g = w.heap.size) (s : ByteArray) (cap : Nat) (e : TypeId) (fr : Nat × Nat) {j : Nat} (hj : j < s.size) :
  ((w.alloc (.cells (bytesRow s cap) e fr)).drew).cell? ⟨g, j, none⟩ = some (.int .u8 ((bt s.data.toList j : Nat) : Int)) := by
 have h1 : ((w.alloc (.cells (bytesRow s cap) e fr)).drew).heap[g]? = some (.cells (bytesRow s cap) e fr) := by
  show (w.heap.push _)[g]? = _
  rw [hg]; simp
 rw [cell_of_row _ g j _ _ _ h1]
 have h2 := byte_at s j hj
 have hj' : j < s.data.size := hj
 rw [bytesRow, Array.getElem?_append_left (by simpa using hj'), Array.getElem?_map]
 rw [Array.getElem?_toList] at h2
 rw [h2]
 simp [bt, List.getD, h2]
theorem take_getD (l : List UInt8) {j : Nat} (h : j < l.length) : l.take (j + 1) = l.take j ++ [l.getD j 0] := by
 rw [List.take_add_one]; simp [List.getD, h]
theorem tv_succ (l : List UInt8) {j : Nat} (h : j < l.length) : tv l (j + 1) = 10 * tv l j + (bt l j - 48) := by
 rw [tv, take_getD l h, dv_snoc]; rfl
theorem digs_getD {l : List UInt8} (hd : Digs l) {j : Nat} (h : j < l.length) : 48 ≤ bt l j ∧ bt l j ≤ 57 := by
 have : l.getD j 0 ∈ l := by simp [List.getD, h]
 exact hd _ this
theorem tv_lt {l : List UInt8} (hd : Digs l) {j : Nat} (h : j ≤ 9) : tv l j < 1000000000 := by
 unfold tv
 have h1 := dv_lt (hd.take j)
 have h2 : (10 : Nat) ^ (l.take j).length ≤ 10 ^ 9 := Nat.pow_le_pow_right (by omega) (by rw [List.length_take]; omega)
 omega
set_option maxHeartbeats 1600000 in
set_option maxRecDepth 100000 in
theorem eparse_any (s : ByteArray) (w : World) (hs : s.size ≤ 1000000) (hd : Digs s.data.toList) :
  Calls Tryz.prog 147 #[.string s] w fun e w' => ∃ v, e = .returned v ∧ Own w' w.heap.size v (dv s.data.toList) ∧ Below w.heap.size w w' := by
 obtain ⟨i0, hi, hz0, hz1, hz2⟩ := info_parts info72
 have HSZ := Lib.hid (Go.Lib.size_eq s)
 obtain ⟨n, hn⟩ : ∃ n, n = dv s.data.toList := ⟨_, rfl⟩
 rw [← hn]
 have HN := Lib.hid hn
 clear hn
 go_enter Tryz.func147, Tryz.ntmps147
 go_wp2_with (at_make; refine wpList_make_own _ rfl _ _ 108 rfl w.heap.size 118 i0 (.int .u64 0) 1 Tryz.underlying108 hi hz0 hz1 _ _ _ (s.size / 9 + 1) rfl rfl (by omega) (by rw [hz2]; omega) (by unfold maxLen; omega) (by simp) ?_)
 intro w1 hown1 hgrow1
 have hb1 : Below w.heap.size w w1 := (Below.refl _ _).grown hgrow1 (by simp) (fun k hk => by cases hk)
 go_wp2_with fail
 go_loopw [3, 4] (fun v e wr => ∃ k : Nat, 9 * k < s.size + 9 ∧ k ≤ s.size / 9 + 1 ∧ v = .slice (some ⟨w.heap.size, 0, none⟩) k (s.size / 9 + 1) ∧ e = .int .i64 ((s.size : Int) - 9 * (k : Int)) ∧ wr.ownsRow w.heap.size 118 1 (.slice (some ⟨w.heap.size, 0, none⟩) k (s.size / 9 + 1)) k (lvs n k) ∧ Below w.heap.size w wr) (fun _ e _ => (intOf e).toNat)
 case atStart => exact ⟨0, by omega, by omega, rfl, by go_num, hown1, hb1⟩
 case round =>
  obtain ⟨k, hk, hk2, rfl, rfl, hown, hbr⟩ := hrel
  clear hown1 hgrow1 hb1
  obtain ⟨wo, rfl⟩ : ∃ wo : World, wo = wr := ⟨_, rfl⟩
  by_cases hlt : 9 * k < s.size
  ·obtain ⟨e, he⟩ : ∃ e : Nat, e = s.size - 9 * k := ⟨_, rfl⟩
   obtain ⟨lo, hlo⟩ : ∃ lo : Nat, lo = e - 9 := ⟨_, rfl⟩
   have he1 : (e : Int) = (s.size : Int) - 9 * (k : Int) := by omega
   have G1 := Lib.hid (show (s.size : Int) - 9 * (k : Int) - 9 < 0 → (lo : Int) = 0 by omega)
   have G2 := Lib.hid (show (0 : Int) ≤ (s.size : Int) - 9 * (k : Int) - 9 → (lo : Int) = (s.size : Int) - 9 * (k : Int) - 9 by omega)
   have HP := Lib.hid (dv_piece hd (e := e) (lo := lo) (k := k) (by rw [← HSZ.out]; omega) hlo)
   have hlo1 : (lo : Int) ≤ (s.size : Int) - 9 * (k : Int) := by omega
   have hlo2 : (s.size : Int) - 9 * (k : Int) ≤ (lo : Int) + 9 := by omega
   clear hlo he
   have hcv := fun (wx : World) (sx : ByteArray) => run_bytes_of_string (P := Tryz.prog) wx 9 129 5 sx Tryz.underlying9 Tryz.underlying129 Tryz.underlying5
   go_wp2_with fail
   refine (greatest_int _ _ (lo : Int) G1.out G2.out _ wo.heap.size (cell_at_new rfl _ _)).mono ?_
   rintro e' w2 ⟨rfl, rfl⟩
   go_wp2_with fail
   obtain ⟨m, hm⟩ : ∃ m, m = s.size - 9 * k - lo := ⟨_, rfl⟩
   rw [← hm]
   have hm9 : m ≤ 9 := by omega
   have hm1 : ((s.size : Int) - 9 * (k : Int)).toNat = s.size - 9 * k := by omega
   obtain ⟨t, ht⟩ : ∃ t, t = s.extract lo (s.size - 9 * k) := ⟨_, rfl⟩
   have htl : t.data.toList = (s.data.toList.take (s.size - 9 * k)).drop lo := by
    rw [ht, Go.Lib.extract_data]; exact List.drop_take.symm
   have htz : t.size = m := by
    rw [Go.Lib.size_eq, htl, List.length_drop, List.length_take, ← HSZ.out]; omega
   have hdt : Digs t.data.toList := by rw [htl]; exact (hd.take _).drop _
   have htn : dv t.data.toList = dg n k := by rw [htl, HN.out, ← HP.out, show e = s.size - 9 * k by omega]
   have htlen : t.data.toList.length = m := by rw [← Go.Lib.size_eq, htz]
   rw [← ht]
   have hcells : ∀ j, j < m → (((wo.alloc (Obj.cells #[Value.int IntKind.i64 0] 3)).alloc (Obj.cells (bytesRow t (grownCap (wo.alloc (Obj.cells #[Value.int IntKind.i64 0] 3)) m 0 5)) 5 ((bytesRow t (grownCap (wo.alloc (Obj.cells #[Value.int IntKind.i64 0] 3)) m 0 5)).size, (bytesRow t (grownCap (wo.alloc (Obj.cells #[Value.int IntKind.i64 0] 3)) m 0 5)).size + 1))).drew).cell? ⟨wo.heap.size + 1, j, none⟩ = some (.int .u8 ((bt t.data.toList j : Nat) : Int)) := fun j hj => bytes_cell (by simp) t _ _ _ (by omega)
   have hbW : Below wo.heap.size wo (((wo.alloc (Obj.cells #[Value.int IntKind.i64 0] 3)).alloc (Obj.cells (bytesRow t (grownCap (wo.alloc (Obj.cells #[Value.int IntKind.i64 0] 3)) m 0 5)) 5 ((bytesRow t (grownCap (wo.alloc (Obj.cells #[Value.int IntKind.i64 0] 3)) m 0 5)).size, (bytesRow t (grownCap (wo.alloc (Obj.cells #[Value.int IntKind.i64 0] 3)) m 0 5)).size + 1))).drew) := (((Below.refl _ _).alloc (Nat.le_refl _) _).alloc (by simp) _).drew
   generalize (((wo.alloc (Obj.cells #[Value.int IntKind.i64 0] 3)).alloc (Obj.cells (bytesRow t (grownCap (wo.alloc (Obj.cells #[Value.int IntKind.i64 0] 3)) m 0 5)) 5 ((bytesRow t (grownCap (wo.alloc (Obj.cells #[Value.int IntKind.i64 0] 3)) m 0 5)).size, (bytesRow t (grownCap (wo.alloc (Obj.cells #[Value.int IntKind.i64 0] 3)) m 0 5)).size + 1))).drew) = W at hcells hbW ⊢
   have HT := Lib.hid htn
   have HL := Lib.hid htlen
   clear htn htlen htz htl hm hcv he1 G1 G2 HP ht
   generalize t.data.toList = pl at *
   have hownW := owns_below hown hbW
   go_loop [5, 28] (fun c i => ∃ q : Nat, q ≤ m ∧ i = .int .i64 q ∧ c = .int .u64 ((tv pl q : Nat) : Int)) (fun _ i => m - (intOf i).toNat)
   case atStart => exact ⟨0, Nat.zero_le _, rfl, rfl⟩
   case round =>
    obtain ⟨q, hq, rfl, rfl⟩ := hrel
    by_cases hqm : q < m
    ·have c1 := hcells q hqm
     have d1 := digs_getD hdt (j := q) (by rw [HL.out]; exact hqm)
     have d2 := tv_lt hdt (j := q) (by omega)
     have HS := Lib.hid (show ((tv pl q : Nat) : Int) * 10 + ((bt pl q : Nat) - 48 : Int) = ((tv pl (q + 1) : Nat) : Int) by
      rw [tv_succ _ (by rw [HL.out]; exact hqm)]; omega)
     clear hcells
     go_wp2_with fail
     go_round
     case rel => exact ⟨q + 1, by omega, by go_num, by rw [HS.out]⟩
     case measure => simp [intOf]; omega
    ·obtain rfl : q = m := by omega
     have hq : tv pl q = dg n k := by
      rw [← HT.out, tv, List.take_of_length_le (by rw [HL.out]; exact Nat.le_refl _)]
     have hbw := hbr.trans (hbW.mono hbr.size)
     clear hcells
     go_wp2_with (at_builtin; refine wpList_append_fits _ rfl (.tmp 39) (.tmp 41) 108 rfl w.heap.size 118 i0 1 Tryz.underlying108 hi hz1 w.heap.size k (s.size / 9 + 1) _ rfl (hownW.alloc _) ⟨W.heap.size, 0, none⟩ 1 1 [.int .u64 ((dg n k : Nat) : Int)] rfl rfl (cell_one_new _ _ _) (by intro u hu; simp at hu; subst hu; rfl) (by omega) ?_)
     intro w3 hown3 hgrow3
     clear hq
     go_wp2_with fail
     go_roundw
     case rel => exact ⟨k + 1, by omega, by omega, rfl, by go_num, by rw [lvs_succ]; exact hown3, (hbw.alloc hbw.size _).grown hgrow3 (by simp; have := hbw.size; omega) (fun k hk => by cases hk; exact Nat.le_refl _)⟩
     case measure => simp [intOf]; omega
  ·have hln : n < B ^ k := by rw [HN.out]; exact dv_lt_pow hd (by rw [← HSZ.out]; omega)
   have HC := Lib.hid (show ∀ j, j < k → wo.cell? ⟨w.heap.size, j, none⟩ = some (.int .u64 ((dg n j : Nat) : Int)) from fun j hj => by
    rw [hown.cellAt j (by omega)]; simp [lvs, hj])
   go_wp2_with fail
   refine (trim_any (n := n) (by omega) (by omega) hln HC.out).mono ?_
   rintro e' w2 ⟨rfl, rfl⟩
   go_wp2_with fail
   go_ret
   exact ⟨_, rfl, owns_trim hown (ln_le hln), hbr⟩
open Go.RowKit NV
structure Kept (b R : Nat) (w w' : World) : Prop where
 os : w'.os = w.os
 tape : w'.tape = w.tape
 output : w'.output = w.output
 size : w.heap.size ≤ w'.heap.size
 block : ∀ k, k < R → k ≠ b → w'.heap[k]? = w.heap[k]?
theorem Kept.refl (b R : Nat) (w : World) : Kept b R w w := ⟨rfl, rfl, rfl, Nat.le_refl _, fun _ _ _ => rfl⟩
theorem Kept.trans {b R : Nat} {w w' w'' : World} (h : Kept b R w w') (k : Kept b R w' w'') : Kept b R w w'' :=
 ⟨k.os.trans h.os, k.tape.trans h.tape, k.output.trans h.output, Nat.le_trans h.size k.size, fun i h1 h2 => (k.block i h1 h2).trans (h.block i h1 h2)⟩
theorem Kept.drew {b R : Nat} {w w' : World} (h : Kept b R w w') : Kept b R w w'.drew := ⟨h.os, h.tape, h.output, h.size, h.block⟩
theorem Kept.drewN {b R : Nat} {w w' : World} (h : Kept b R w w') (n : Nat) : Kept b R w (w'.drewN n) := h.trans ⟨rfl, rfl, rfl, Nat.le_refl _, fun _ _ _ => rfl⟩
theorem Kept.alloc {b R : Nat} {w w' : World} (h : Kept b R w w') (hR : R ≤ w'.heap.size) (o : Obj) : Kept b R w (w'.alloc o) :=
 h.trans ⟨rfl, rfl, rfl, by simp, fun k hk _ => Lib.alloc_old _ _ _ (by omega)⟩
theorem Kept.setCell {b R : Nat} {w w' : World} (h : Kept b R w w') {p : Addr} (hp : p.block = b ∨ R ≤ p.block) (u : Value) : Kept b R w (w'.setCell p u) :=
 h.trans ⟨rfl, rfl, rfl, by simp [World.setCell], fun k hk hb => heap_setCell_other _ _ _ _ (by rcases hp with hp | hp <;> omega)⟩
theorem Kept.grown {b R : Nat} {w w1 w2 : World} {row : Option Nat} (h : Kept b R w w1) (hg : w1.grownBy w2 row) (hR : R ≤ w1.heap.size) (hr : ∀ k, row = some k → R ≤ k) : Kept b R w w2 :=
 h.trans ⟨hg.os, hg.tape, hg.output, hg.size, fun k hk hb => hg.block k (by omega) (fun e => by have := hr k e.symm; omega)⟩
theorem Kept.below {b R B : Nat} {w w' : World} (h : Kept b R w w') (hb : B ≤ b) (hR : B ≤ R) : Below B w w' :=
 ⟨h.os, h.tape, h.output, h.size, fun k hk => h.block k (by omega) (by omega)⟩
theorem Kept.cell {b R : Nat} {w w' : World} (h : Kept b R w w') {p : Addr} (h1 : p.block < R) (h2 : p.block ≠ b) : w'.cell? p = w.cell? p := World.cell?_of_block (w := w) (h.block p.block h1 h2)
def Bd (w : World) (b R : Nat) (bs : List Value) : Prop :=
 ∃ v, w.heap[b]? = some (.cells #[.pointer (some ⟨b, 0, none⟩), v] 183 (0, 0)) ∧ w.ownsRow R 5 1 v bs.length bs
theorem bsize : (Tryz.prog.info? 183).map (·.size) = some 2 := by kernel_rfl
theorem blies : liesAt Tryz.prog Tryz.prog.depth 183 (2 / Tryz.prog.cellsOf 183) 0 183 1 = true := by kernel_rfl
theorem info5 : (Tryz.prog.info? 5).map (fun i => (i.zero, i.size, i.bytes)) = some (some (.int .u8 0), 1, 1) := by kernel_rfl
set_option maxHeartbeats 1000000 in
set_option maxRecDepth 100000 in
theorem copyCheck_used (b : Nat) (w : World) (h0 : w.cell? ⟨b, 0, none⟩ = some (.pointer (some ⟨b, 0, none⟩))) :
  Calls Tryz.prog 167 #[.pointer (some ⟨b, 0, none⟩)] w fun e w' => e = .returned (.tuple #[]) ∧ w = w' := by
 obtain ⟨j, hj, _⟩ := Option.map_eq_some_iff.1 bsize
 go_enter Tryz.func167, Tryz.ntmps167
 go_wp2
 rw [Lib.run_neq_ptr_same w _ Tryz.underlying181 hj]
 go_wp2
 go_end0
 exact ⟨rfl, rfl⟩
set_option maxHeartbeats 1000000 in
set_option maxRecDepth 100000 in
theorem copyCheck_fresh (b : Nat) (w : World) (h0 : w.cell? ⟨b, 0, none⟩ = some (.pointer none)) (hsh : w.shape? b = some (183, 2)) (hfz : w.frozen? ⟨b, 0, none⟩ = false) :
  Calls Tryz.prog 167 #[.pointer (some ⟨b, 0, none⟩)] w fun e w' => e = .returned (.tuple #[]) ∧ w.setCell ⟨b, 0, none⟩ (.pointer (some ⟨b, 0, none⟩)) = w' := by
 obtain ⟨j, hj, hjs⟩ := Option.map_eq_some_iff.1 bsize
 go_enter Tryz.func167, Tryz.ntmps167
 go_wp2
 rw [Lib.run_to_unsafe w ⟨b, 0, none⟩ Tryz.underlying181 Tryz.underlying206 hj (by rw [hjs]; decide) hsh (Nat.zero_lt_succ 1)]
 simp only [Result.andThen]
 rw [Oper.upon_value]
 go_wp2
 rw [run_callFunc_extern Tryz.func177 (by kernel_rfl) (by kernel_rfl) (by kernel_rfl) (e := Extern.AbiNoEscape.same) (by kernel_rfl)]
 rw [Lib.run_noEscape]
 simp only [Result.andThen]
 rw [Oper.upon_value]
 go_wp2
 rw [Lib.run_from_unsafe w ⟨b, 0, none⟩ Tryz.underlying206 Tryz.underlying181 hj hsh blies]
 simp only [Result.andThen]
 rw [Oper.upon_value]
 go_wp2
 go_end0
 exact ⟨rfl, rfl⟩
set_option maxHeartbeats 2000000 in
set_option maxRecDepth 100000 in
theorem grow_fresh (b R n : Nat) (w : World) (hbR : b < R) (hR : R ≤ w.heap.size) (hbk : w.heap[b]? = some (.cells #[.pointer (some ⟨b, 0, none⟩), .slice none 0 0] 183 (0, 0))) (hn : n ≤ 1000000000) :
  Calls Tryz.prog 168 #[.pointer (some ⟨b, 0, none⟩), .int .i64 n] w fun e w' => e = .returned (.tuple #[]) ∧ Bd w' b R [] ∧ Kept b R w w' := by
 obtain ⟨cs, hrun, hle, hmax⟩ := Lib.run_makeNoZero (P := Tryz.prog) w.drew #[3] 129 5 Tryz.underlying129 n (by omega)
 have hcall : (callFunc 178 #[.int .i64 (n : Int)]).run Tryz.prog w.drew = .ok (.value (.slice (some ⟨w.drew.heap.size, 0, none⟩) n cs.size)) (w.drew.drew.drew.alloc (.cells cs 5)) := by
  rw [run_callFunc_extern Tryz.func178 (by kernel_rfl) (by kernel_rfl) (by kernel_rfl) (e := Extern.BytealgMakeNoZero.makeNoZero #[3] #[129]) (by kernel_rfl), hrun]
  rfl
 have hlt : b < w.heap.size := by omega
 have c1 : w.drew.cell? ⟨b, 1, none⟩ = some (.slice none 0 0) := by
  have : w.drew.heap[b]? = _ := hbk
  rw [Lib.cell_of_heap this]; rfl
 have hal := (Lib.alloc_old w (.cells cs 5) b hlt).trans hbk
 have c2 : (w.alloc (.cells cs 5)).cell? ⟨b, 1, none⟩ = some (.slice none 0 0) := by
  rw [Lib.cell_of_heap hal]; rfl
 have f2 : (w.alloc (.cells cs 5)).frozen? ⟨b, 1, none⟩ = false := Lib.frozen_of_heap hal 1
 have hcopy : ∀ W : World, (Builtin.copy_ #[129, 129] 3 #[.slice (some ⟨w.heap.size, 0, none⟩) 0 cs.size, .slice none 0 0]).run Tryz.prog W = .ok (goInt 0) W :=
  fun W => run_copy_none W 129 129 3 5 _ _ 0 cs.size 0 0 Tryz.underlying129 (by kernel_rfl) rfl
 have hs1 := heap_setCell_same w b 1 _ _ (.slice (some ⟨w.heap.size, 0, none⟩) 0 cs.size) hbk
 have hz1 : (w.setCell ⟨b, 1, none⟩ (.slice (some ⟨w.heap.size, 0, none⟩) 0 cs.size)).heap.size = w.heap.size := by simp [World.setCell]
 have hfin : Bd (((w.setCell ⟨b, 1, none⟩ (.slice (some ⟨w.heap.size, 0, none⟩) 0 cs.size)).alloc (.cells cs 5)).drew.drew.drew) b R [] ∧ Kept b R w (((w.setCell ⟨b, 1, none⟩ (.slice (some ⟨w.heap.size, 0, none⟩) 0 cs.size)).alloc (.cells cs 5)).drew.drew.drew) := by
  refine ⟨⟨.slice (some ⟨w.heap.size, 0, none⟩) 0 cs.size, ?_, ?_⟩, ((((Kept.refl b R w).setCell (.inl rfl) _).alloc (by rw [hz1]; exact hR) _).drew.drew.drew)⟩
  ·exact (Lib.alloc_old _ _ b (by rw [hz1]; exact hlt)).trans (hs1.trans rfl)
  ·refine ⟨rfl, .inr ⟨w.heap.size, cs.size, cs, rfl, hR, ?_, Nat.zero_le _, hmax (by unfold maxLen; omega), by omega, by simp⟩⟩
   have := heap_alloc_new (w.setCell ⟨b, 1, none⟩ (.slice (some ⟨w.heap.size, 0, none⟩) 0 cs.size)) (.cells cs 5)
   rw [hz1] at this
   exact this
 have HF := Lib.hid hfin
 clear hrun hle hmax hbk hal hfin hs1 hz1
 go_enter Tryz.func168, Tryz.ntmps168
 go_wp2
 go_region
 all_goals (go_wp2; go_end0; exact ⟨rfl, HF.out⟩)
open Go.RowKit NV
set_option maxHeartbeats 2000000 in
set_option maxRecDepth 100000 in
theorem Grow_fresh (b R n : Nat) (w : World) (hbR : b < R) (hR : R ≤ w.heap.size) (hbk : w.heap[b]? = some (.cells #[.pointer none, .slice none 0 0] 183 (0, 0))) (hn0 : 0 < n) (hn : n ≤ 1000000000) :
  Calls Tryz.prog 152 #[.pointer (some ⟨b, 0, none⟩), .int .i64 n] w fun e w' => e = .returned (.tuple #[]) ∧ Bd w' b R [] ∧ Kept b R w w' := by
 have hs1 := heap_setCell_same w b 0 _ _ (.pointer (some ⟨b, 0, none⟩)) hbk
 have hz1 : (w.setCell ⟨b, 0, none⟩ (.pointer (some ⟨b, 0, none⟩))).heap.size = w.heap.size := by simp [World.setCell]
 have hs2 : (w.setCell ⟨b, 0, none⟩ (.pointer (some ⟨b, 0, none⟩))).heap[b]? = some (.cells #[.pointer (some ⟨b, 0, none⟩), .slice none 0 0] 183 (0, 0)) := hs1
 have hk : Kept b R w (w.setCell ⟨b, 0, none⟩ (.pointer (some ⟨b, 0, none⟩))) := (Kept.refl b R w).setCell (.inl rfl) _
 have hcc := copyCheck_fresh b w (by rw [Lib.cell_of_heap hbk]; rfl) (by simp [World.shape?, hbk]) (Lib.frozen_of_heap hbk 0)
 have c1 : (w.setCell ⟨b, 0, none⟩ (.pointer (some ⟨b, 0, none⟩))).cell? ⟨b, 1, none⟩ = some (.slice none 0 0) := by rw [Lib.cell_of_heap hs2]; rfl
 rw [← hz1] at hR
 generalize w.setCell ⟨b, 0, none⟩ (.pointer (some ⟨b, 0, none⟩)) = w1 at *
 clear hs1 hbk hz1
 have HC := Lib.hid hcc
 clear hcc
 go_enter Tryz.func152, Tryz.ntmps152
 go_wp2_with fail
 refine HC.out.mono ?_
 rintro e w2 ⟨rfl, rfl⟩
 go_wp2_with fail
 go_quiet (fail)
 go_wp2_with fail
 refine (grow_fresh b R n _ hbR (by exact hR) (by exact hs2) hn).mono ?_
 rintro e w2 ⟨rfl, h1, h2⟩
 go_wp2_with fail
 go_end0
 exact ⟨rfl, h1, hk.trans ((Kept.refl b R _).drewN _ |>.trans h2)⟩
set_option maxHeartbeats 2000000 in
set_option maxRecDepth 100000 in
theorem Write_used (b R m c : Nat) (bs news : List Value) (ad : Addr) (w : World) (hbR : b < R) (hR : R ≤ w.heap.size) (h : Bd w b R bs) (hl : news.length = m)
  (hnews : ∀ j u, news[j]? = some u → w.cell? (ad.add j) = some u) (h1 : ∀ u ∈ news, u.oneCell' = true) (hlen : bs.length + m ≤ 1000000000) :
  Calls Tryz.prog 153 #[.pointer (some ⟨b, 0, none⟩), .slice (some ad) m c] w fun e w' => e = .returned (.tuple #[.int .i64 m, .nilIface]) ∧ Bd w' b R (bs ++ news) ∧ Kept b R w w' := by
 obtain ⟨i0, hi, hz0, hz1, hz2⟩ := info_parts info5
 obtain ⟨v, hbk, hown⟩ := h
 have c0 : w.cell? ⟨b, 0, none⟩ = some (.pointer (some ⟨b, 0, none⟩)) := by rw [Lib.cell_of_heap hbk]; rfl
 have c1 : w.cell? ⟨b, 1, none⟩ = some v := by rw [Lib.cell_of_heap hbk]; rfl
 have hlt : b < w.heap.size := by omega
 go_enter Tryz.func153, Tryz.ntmps153
 go_wp2_with fail
 refine (copyCheck_used b w c0).mono ?_
 rintro e w1 ⟨rfl, rfl⟩
 go_wp2_with (at_builtin; refine wpList_append_own _ rfl _ _ 129 rfl R 5 i0 (.int .u8 0) 1 1 Tryz.underlying129 hi hz0 hz1 hz2 rfl (by decide) _ _ _ rfl hown ad m c news rfl (by omega) hnews h1 ?c3 ?c4 ?c5 ?_)
 case c3 => unfold maxLen; omega
 case c4 => omega
 case c5 => exact hR
 intro v' w2 hown' hgrow _
 have hrow := hown.lt
 have hb2 : w2.heap[b]? = some (.cells #[.pointer (some ⟨b, 0, none⟩), v] 183 (0, 0)) := by
  rw [hgrow.block b hlt (fun e => by have := hrow b e.symm; omega)]
  exact hbk
 have d1 : w2.cell? ⟨b, 1, none⟩ = some v := by rw [Lib.cell_of_heap hb2]; rfl
 have f1 : w2.frozen? ⟨b, 1, none⟩ = false := Lib.frozen_of_heap hb2 1
 have hk2 : Kept b R w w2 := (Kept.refl b R w).grown hgrow hR (fun k hk => (hrow k hk).1)
 obtain ⟨ao, n', cap, rfl⟩ : ∃ ao n' cap, v' = .slice ao n' cap := by
  rcases hown'.2 with ⟨hv, _⟩ | ⟨g, cap, cur, hv, _⟩
  ·exact ⟨_, _, _, hv⟩
  ·exact ⟨_, _, _, hv⟩
 have hb3 := heap_setCell_same w2 b 1 _ _ (.slice ao n' cap) hb2
 have hrow' := hown'.lt
 have hown3 : (w2.setCell ⟨b, 1, none⟩ (.slice ao n' cap)).ownsRow R 5 1 (.slice ao n' cap) (bs ++ news).length (bs ++ news) := by
  rw [List.length_append, hl]
  exact ownsRow_setCell_below hown' (by show b < R; exact hbR) _
 have HF := Lib.hid (show Bd (w2.setCell ⟨b, 1, none⟩ (.slice ao n' cap)) b R (bs ++ news) ∧ Kept b R w (w2.setCell ⟨b, 1, none⟩ (.slice ao n' cap)) from ⟨⟨.slice ao n' cap, hb3, hown3⟩, hk2.setCell (.inl rfl) _⟩)
 clear hown hown' hown3 hb2 hb3 hbk hgrow hrow hrow' hk2
 go_wp2_with fail
 go_ret2
 exact ⟨rfl, HF.out⟩
set_option maxHeartbeats 400000 in
theorem String_used (b R : Nat) (l : List UInt8) (w : World) (hbR : b < R) (hbw : b < w.heap.size) (h : Bd w b R (Lib.byteCells l)) :
  Calls Tryz.prog 155 #[.pointer (some ⟨b, 0, none⟩)] w fun e w' => e = .returned (.string ⟨l.toArray⟩) ∧ Below b w w' := by
 obtain ⟨v, hbk, hown⟩ := h
 refine Tryz.Builder_String_any b b l w (.inr ⟨Nat.le_refl _, v, hbk, ?_, ?_⟩) (Nat.le_of_lt hbw)
 ·refine ⟨hown.1, ?_⟩
  rcases hown.2 with h' | ⟨g, cap, cur, rfl, hbg, rest⟩
  ·exact .inl h'
  ·exact .inr ⟨g, cap, cur, rfl, by omega, rest⟩
 ·intro e
  have := (hown.lt b e).1
  omega
open Go.RowKit NV
open Go.Lib (decDigits)
section
variable {P : Program} (w : World)
theorem run_room (t ty e T : TypeId) (i : TypeInfo) (ht : P.underlying t = some (.slice e)) (hi : P.info? e = some i) (hs1 : i.size = 1)
  (g sLen sCap : Nat) (cur : Array Value) (hg : w.heap[g]? = some (.cells cur T (0, 0)))
  (a : Addr) (m c : Nat) (news : List Value) (hl : news.length = m) (hnews : ∀ j u, news[j]? = some u → w.cell? (a.add j) = some u) (h1 : ∀ u ∈ news, u.oneCell' = true)
  (hroom : sLen + m ≤ sCap) (hfit : sLen + news.length ≤ cur.size) :
  (Builtin.append_ #[t, t] ty #[.slice (some ⟨g, 0, none⟩) sLen sCap, .slice (some a) m c]).run P w =
   .ok (.slice (some ⟨g, 0, none⟩) (sLen + m) sCap) (w.setRow g (cur.toList.take sLen ++ news ++ cur.toList.drop (sLen + news.length)).toArray) := by
 have hf := run_firstCells_some (P := P) w 1 m a m c news (by rw [Nat.mul_one]; exact hl) hnews
 have hst := run_storeCells_at P g sLen T news 0 cur w hg (by simpa using hfit) h1
 simp only [Nat.add_zero] at hst
 simp [Builtin.append_, run_underlying ht, sizeOf, typeInfo, hi, Builtin.lenOf, hroom, hf, hs1, Addr.add_lit, hst]
theorem run_room_string (t u ty e T : TypeId) (i : TypeInfo) (ht : P.underlying t = some (.slice e)) (hu : P.underlying u = some .string) (hi : P.info? e = some i) (hs1 : i.size = 1)
  (g sLen sCap : Nat) (cur : Array Value) (hg : w.heap[g]? = some (.cells cur T (0, 0))) (s : ByteArray)
  (hroom : sLen + s.size ≤ sCap) (hfit : sLen + s.size ≤ cur.size) :
  (Builtin.append_ #[t, u] ty #[.slice (some ⟨g, 0, none⟩) sLen sCap, .string s]).run P w =
   .ok (.slice (some ⟨g, 0, none⟩) (sLen + s.size) sCap) (w.setRow g (cur.toList.take sLen ++ Lib.strCells s ++ cur.toList.drop (sLen + s.size)).toArray) := by
 have hf := Lib.run_firstCells_string (P := P) w 1 s
 have hst := run_storeCells_at P g sLen T (Lib.strCells s) 0 cur w hg (by simpa [Lib.strCells_length] using hfit) (Lib.strCells_oneCell s)
 simp only [Nat.add_zero, Lib.strCells_length] at hst
 simp [Builtin.append_, run_underlying ht, run_underlying hu, sizeOf, typeInfo, hi, hs1, Builtin.lenOf, hroom, hf, Addr.add_lit, hst]
theorem wpList_append_run {ops : Array Oper} {rest : List Oper} {o : Oper} {a : Act} {Q : Exit → Act → World → Prop} (hgd : o.guard = none) (sl x : Operand) (t u : TypeId)
  (ho : o.op = .call { callee := .builtin .append, args := #[sl, x], argTypes := #[t, u] })
  (v y v' : Value) (w' : World) (hs : a.eval sl = v) (hx : a.eval x = y) (hr : (Builtin.append_ #[t, u] o.type #[v, y]).run P w = .ok v' w')
  (h : wpList P ops Q rest (a.put o.dst v') w') : wpList P ops Q (o :: rest) a w := by
 refine wpList_plain hgd fun K hK => ?_
 unfold Oper.wp execOp
 simp only [ho, resolve, invoke, builtin, Sem.run_bind, Sem.run_pure, Result.andThen_ok, List.map_toArray, List.map_cons, List.map_nil, hs, hx, hr]
 exact hK _ _ h
end
def Buf (w : World) (g : Nat) (l : List UInt8) : Prop :=
 ∃ cur, w.heap[g]? = some (.cells cur 184 (0, 0)) ∧ cur.size = 10 ∧ ∀ (j : Nat) (c : UInt8), l[j]? = some c → cur[j]? = some (Value.int .u8 ((c.toNat : Nat) : Int))
theorem Buf.nil {w : World} {g : Nat} {l : List UInt8} (h : Buf w g l) : Buf w g [] := by
 obtain ⟨cur, h1, h2, _⟩ := h
 exact ⟨cur, h1, h2, fun j c h => by simp at h⟩
theorem Buf.cell {w : World} {g : Nat} {l : List UInt8} (h : Buf w g l) {j : Nat} {c : UInt8} (hj : l[j]? = some c) : w.cell? ⟨g, j, none⟩ = some (.int .u8 ((c.toNat : Nat) : Int)) := by
 obtain ⟨cur, h1, h2, h3⟩ := h
 rw [Lib.cell_of_heap h1]; exact h3 j c hj
theorem Buf.same {w w' : World} {g : Nat} {l : List UInt8} (h : Buf w g l) (e : w'.heap[g]? = w.heap[g]?) : Buf w' g l := by
 obtain ⟨cur, h1, h2, h3⟩ := h
 exact ⟨cur, e.trans h1, h2, h3⟩
theorem buf_row {w : World} {g : Nat} {cur : Array Value} (hg : w.heap[g]? = some (.cells cur 184 (0, 0))) (hc : cur.size = 10) (l : List UInt8) (hl : l.length ≤ 10) :
  Buf (w.setRow g (cur.toList.take 0 ++ Lib.byteCells l ++ cur.toList.drop (0 + (Lib.byteCells l).length)).toArray) g l := by
 refine ⟨_, setRow_heap w g cur _ _ _ hg, ?_, fun j c hj => ?_⟩
 ·simp [Lib.byteCells_length, hc]
  try omega
 ·have hjl : j < l.length := (List.getElem?_eq_some_iff.1 hj).1
  simp only [List.take_zero, List.nil_append]
  rw [List.getElem?_toArray, List.getElem?_append_left (by rw [Lib.byteCells_length]; exact hjl)]
  simp [Lib.byteCells, hj]
theorem kept_setRow {w : World} {g R : Nat} (cs : Array Value) : Kept g R w (w.setRow g cs) :=
 ⟨rfl, rfl, rfl, by simp, fun k _ hk => setRow_other w g k _ (by omega)⟩
theorem dec_len10 {u : Nat} (h : u < 10000000000) : (decDigits u).length ≤ 10 := (dec_len_le (k := 10) (by omega)).2 (by omega)
set_option maxHeartbeats 6400000 in
set_option maxRecDepth 100000 in
theorem append_small (g u : Nat) (hu : u < 100) (w : World) (hb : Buf w g []) (hg : g < w.heap.size) :
  Calls Tryz.prog 169 #[.slice (some ⟨g, 0, none⟩) 0 10, .int .u64 u, .int .i64 10] w fun e w' => e = .returned (.slice (some ⟨g, 0, none⟩) (decDigits u).length 10) ∧ Buf w' g (decDigits u) ∧ Kept g w.heap.size w w' := by
 obtain ⟨i0, hi, hz0, hz1, hz2⟩ := info_parts info5
 obtain ⟨cur, hc1, hc2, _⟩ := hb
 have hlen := dec_len10 (u := u) (by omega)
 have hsz : (⟨(decDigits u).toArray⟩ : ByteArray).size = (decDigits u).length := by simp [ByteArray.size]
 have hsc : Lib.strCells (⟨(decDigits u).toArray⟩ : ByteArray) = Lib.byteCells (decDigits u) := rfl
 have hr := run_room_string (P := Tryz.prog) w 129 9 129 5 184 i0 Tryz.underlying129 Tryz.underlying9 hi hz1 g 0 10 cur hc1 ⟨(decDigits u).toArray⟩ (by rw [hsz]; omega) (by rw [hsz]; omega)
 rw [hsz, hsc, Nat.zero_add] at hr
 have hbr := buf_row hc1 hc2 (decDigits u) hlen
 rw [Lib.byteCells_length, Nat.zero_add] at hbr
 have HR := Lib.hid hr
 have HB := Lib.hid hbr
 clear hr hbr hc1 hsz hsc
 go_enter Tryz.func169, Tryz.ntmps169
 go_wp2_with fail
 refine (Tryz.internal_strconv_small u hu _).mono ?_
 rintro e w1 ⟨rfl, rfl⟩
 go_wp2_with (at_builtin; refine wpList_append_run _ rfl _ _ 129 9 rfl _ _ _ _ rfl rfl HR.out ?_)
 go_ret
 exact ⟨rfl, HB.out, kept_setRow _⟩
open Go.RowKit NV
open Go.Lib (decDigits)
open Go.Sort (putRow cell?_putRow)
def Tab (w : World) : Prop := Lib.TabIs Tryz.prog w "internal/strconv.uint64pow10" .u64 Lib.pow10Tab
set_option maxHeartbeats 12800000 in
set_option maxRecDepth 100000 in
theorem append_big (g u : Nat) (h100 : 100 ≤ u) (hu : u < 10000000000) (w : World) (hb : Buf w g []) (hg : g < w.heap.size) (htab : Tab w) :
  Calls Tryz.prog 169 #[.slice (some ⟨g, 0, none⟩) 0 10, .int .u64 u, .int .i64 10] w fun e w' => e = .returned (.slice (some ⟨g, 0, none⟩) (decDigits u).length 10) ∧ Buf w' g (decDigits u) ∧ Kept g w.heap.size w w' := by
 obtain ⟨i0, hi, hz0, hz1, hz2⟩ := info_parts info5
 have hu1 : 1 ≤ u := by omega
 have hu64 : u < 18446744073709551616 := by omega
 have hnd20 : Lib.nDigits u ≤ 10 := by have := dec_len10 hu; rwa [Lib.decDigits_length] at this
 have hal : Tryz.prog.arrayLen 209 = 24 := by kernel_rfl
 -- 'a[:nd]', for the walk to take
 have hsl : ∀ W, (Instr.sliceAt 209 (.pointer (some ⟨w.heap.size, 0, none⟩)) none (some (.int .i64 (Lib.nDigits u : Int))) none).run Tryz.prog W = .ok (.slice (some ⟨w.heap.size, 0, none⟩) (Lib.nDigits u) 24) W := fun W => by
  rw [run_sliceAt_array_h W 209 ⟨w.heap.size, 0, none⟩ (by kernel_rfl) .i64 (Lib.nDigits u : Int) (by omega) (by rw [hal]; omega)]
  go_simp
 -- formatBase10's contract at the new block's row of zeros
 have hH0 := Lib.holds_zero0 w 209 (Lib.nDigits u) (by omega)
 have hfmt := Tryz.internal_strconv_formatBase10 w.heap.size 0 24 u (Array.replicate (Lib.nDigits u) 0) (w.alloc (.cells Lib.zeros24 209)) hH0 (by rw [Array.size_replicate]; exact Lib.lt_pow_nDigits u) hu64 (by rw [Array.size_replicate]; omega)
 rw [Array.size_replicate] at hfmt
 have HH0 := Lib.hid hH0
 have HFM := Lib.hid hfmt
 have iu : (100 : Int) ≤ (u : Int) := by omega
 have HT := Lib.hid htab
 have HB := Lib.hid hb
 clear hH0 hal hfmt htab hb
 go_enter Tryz.func169, Tryz.ntmps169
 go_wp2_with fail
 refine (Tryz.internal_strconv_numDigits u hu1 hu64 _ (Lib.tabIs_alloc HT.out _)).mono ?_
 rintro e w' ⟨rfl, rfl⟩
 go_wp2_with fail
 refine HFM.out.mono ?_
 rintro e w' ⟨rfl, k, v', dk, rfl, hF⟩
 have hcells : ∀ j u', (Lib.byteCells (decDigits u))[j]? = some u' → ((putRow (fun (b : UInt8) => Value.int .u8 (b.toNat : Int)) (w.alloc (.cells Lib.zeros24 209)) w.heap.size 0 dk).drewN k).cell? ((⟨w.heap.size, 0, none⟩ : Addr).add j) = some u' := by
  intro j u' hj
  have hjl : j < (decDigits u).length := by
   have h5 := (List.getElem?_eq_some_iff.1 hj).1
   rwa [Lib.byteCells_length] at h5
  have e5 : (Lib.byteCells (decDigits u))[j]? = some (Value.int .u8 ((decDigits u)[j].toNat : Int)) := by simp [Lib.byteCells, hjl]
  rw [e5] at hj
  cases hj
  rw [Lib.row_is_numeral hF j hjl, Lib.add_plain, World.cell?_drewN]
  exact cell?_putRow (fun (b : UInt8) => Value.int .u8 (b.toNat : Int)) _ w.heap.size 0 _ dk HH0.out (by rw [hF.size, Array.size_replicate]) j (by rw [hF.size]; rw [Lib.decDigits_length] at hjl; exact hjl)
 obtain ⟨os, eo⟩ := Lib.fin_at w (.cells Lib.zeros24 209) dk k 0
 have hbel : Below w.heap.size w ((putRow (fun (b : UInt8) => Value.int .u8 (b.toNat : Int)) (w.alloc (.cells Lib.zeros24 209)) w.heap.size 0 dk).drewN k) := by rw [eo]; exact Lib.below_grow w.heap.size w (Nat.le_refl _) k os
 generalize (putRow (fun (b : UInt8) => Value.int .u8 (b.toNat : Int)) (w.alloc (.cells Lib.zeros24 209)) w.heap.size 0 dk).drewN k = W2 at hcells hbel ⊢
 obtain ⟨cur, hc1, hc2, _⟩ := HB.out
 have hc3 : W2.heap[g]? = some (.cells cur 184 (0, 0)) := (hbel.block g hg).trans hc1
 have hlen : (Lib.byteCells (decDigits u)).length = Lib.nDigits u := by rw [Lib.byteCells_length, Lib.decDigits_length]
 have hr := run_room (P := Tryz.prog) W2 129 129 5 184 i0 Tryz.underlying129 hi hz1 g 0 10 cur hc3 ⟨w.heap.size, 0, none⟩ (Lib.nDigits u) 24 (Lib.byteCells (decDigits u)) hlen hcells (by intro u' hu'; simp only [Lib.byteCells, List.mem_map] at hu'; obtain ⟨b, _, rfl⟩ := hu'; rfl) (by omega) (by rw [hlen]; omega)
 have hbr := buf_row hc3 hc2 (decDigits u) (dec_len10 hu)
 rw [Nat.zero_add] at hr
 simp only [List.take_zero, List.nil_append, Nat.zero_add, hlen] at hbr
 have HR := Lib.hid hr
 have HBR := Lib.hid hbr
 clear eo HH0 HFM hr hbr hc1 hc3 hcells
 go_wp2_with (at_builtin; refine wpList_append_run _ rfl _ _ 129 129 rfl _ _ _ _ rfl rfl HR.out ?_)
 go_ret
 refine ⟨by rw [Lib.decDigits_length]; rfl, HBR.out, Kept.trans ⟨hbel.os, hbel.tape, hbel.output, hbel.size, fun k h1 _ => hbel.block k h1⟩ (kept_setRow _)⟩
set_option maxHeartbeats 400000 in
theorem AppendUint_any (g u : Nat) (hu : u < 10000000000) (w : World) (hb : Buf w g []) (hg : g < w.heap.size) (htab : Tab w) :
  Calls Tryz.prog 154 #[.slice (some ⟨g, 0, none⟩) 0 10, .int .u64 u, .int .i64 10] w fun e w' => e = .returned (.slice (some ⟨g, 0, none⟩) (decDigits u).length 10) ∧ Buf w' g (decDigits u) ∧ Kept g w.heap.size w w' := by
 have hc : Calls Tryz.prog 169 #[.slice (some ⟨g, 0, none⟩) 0 10, .int .u64 u, .int .i64 10] w fun e w' => e = .returned (.slice (some ⟨g, 0, none⟩) (decDigits u).length 10) ∧ Buf w' g (decDigits u) ∧ Kept g w.heap.size w w' := by
  by_cases h : u < 100
  ·exact append_small g u h w hb hg
  ·exact append_big g u (by omega) hu w hb hg htab
 have HC := Lib.hid hc
 clear hc hb htab
 go_enter Tryz.func154, Tryz.ntmps154
 go_wp2_with fail
 refine HC.out.mono ?_
 rintro e w' ⟨rfl, h⟩
 have H := Lib.hid h
 clear h
 go_wp2_with fail
 go_ret
 exact ⟨rfl, H.out⟩
open Go.RowKit NV
open Go.Lib (decDigits)
open Go.Sort (putRow cell?_putRow)
theorem Tab.below {w w' : World} (h : Tab w) (hb : Below w.heap.size w w') : Tab w' := Lib.tabBelow_of_tabIs h w' hb
def fitB (n : Nat) : Bool := decide ((decDigits n).length ≤ 4000)
theorem fitB_yes {n : Nat} (h : (decDigits n).length ≤ 4000) : fitB n = true := by simp [fitB, h]
theorem fitB_no {n : Nat} (h : ¬ (decDigits n).length ≤ 4000) : fitB n = false := by simp [fitB]; omega
def nd (t : Nat) : Nat := if t = 0 then 0 else (decDigits t).length
theorem nd_zero : nd 0 = 0 := rfl
theorem nd_pos {t : Nat} (h : t ≠ 0) : nd t = (decDigits t).length := if_neg h
theorem nd_step {t : Nat} (h : t ≠ 0) : nd t = nd (t / 10) + 1 := by
 rw [nd_pos h]
 by_cases h10 : t < 10
 ·rw [show t / 10 = 0 by omega, nd_zero, dec_small h10]; rfl
 ·rw [nd_pos (by omega), dec_big (by omega), List.length_append]; rfl
set_option maxHeartbeats 800000 in
set_option maxRecDepth 100000 in
theorem digits_any {w : World} {v : Value} {n : Nat} (h : Num w v n) (hn : ln n ≤ 1073741824) :
  Calls Tryz.prog 122 #[v] w fun e w' => e = .returned (.int .i64 ((decDigits n).length : Int)) ∧ w = w' := by
 by_cases h0 : ln n = 0
 ·obtain ⟨a, c, rfl⟩ := slice_any h
  have hn0 := ln_eq_zero h0
  have HR := Lib.hid (show (1 : Int) = ((decDigits n).length : Int) by rw [hn0, dec_small (by omega)]; rfl)
  rw [h0]
  clear h h0 hn0
  go_enter Tryz.func122, Tryz.ntmps122
  go_wp2_with fail
  go_ret
  exact ⟨ret_int HR.out, rfl⟩
 ·obtain ⟨b, c, rfl, hb, hc⟩ := slice_form h (by omega)
  obtain ⟨m, hm⟩ : ∃ m, ln n = m + 1 := ⟨ln n - 1, by omega⟩
  have c1 := h.cell (j := m) (by omega)
  have ht := dg_top hm
  have hlt := dg_lt n m
  have hl := dec_length hm
  rw [hm]
  rw [hm] at hn
  have HL := Lib.hid (show (decDigits n).length = 9 * m + nd (dg n m) by rw [nd_pos ht, hl])
  clear h h0 hm hl ht
  go_enter Tryz.func122, Tryz.ntmps122
  go_wp2_with fail
  go_loop [3, 4] (fun c t => ∃ C T : Nat, c = .int .i64 (C : Int) ∧ t = .int .u64 (T : Int) ∧ T < 1000000000 ∧ C ≤ 9663676416 + 1000000000 ∧ C + T ≤ 9 * m + 1000000000 ∧ Hid (C + nd T = (decDigits n).length)) (fun _ t => (intOf t).toNat)
  case atStart => exact ⟨9 * m, dg n m, by go_num, rfl, by omega, by omega, by omega, Lib.hid HL.out.symm⟩
  case round =>
   obtain ⟨C, T, rfl, rfl, hT, hC, hCT, hs⟩ := hrel
   by_cases hT0 : 0 < T
   ·have HS := Lib.hid (show C + 1 + nd (T / 10) = (decDigits n).length by rw [← hs.out, nd_step (t := T) (by omega)]; omega)
    go_wp2_with fail
    go_round
    case rel => exact ⟨C + 1, T / 10, by go_num, by go_num, by omega, by omega, by omega, HS⟩
    case measure => simp [intOf]; omega
   ·obtain rfl : T = 0 := by omega
    have HS := Lib.hid (show C = (decDigits n).length by rw [← hs.out, nd_zero]; rfl)
    go_wp2_with fail
    go_ret
    exact ⟨ret_int (by rw [HS.out]), rfl⟩
theorem digits_quiet {w : World} {v : Value} {n : Nat} (h : Num w v n) (hn : ln n ≤ 1073741824) (k : Nat) :
  Calls Tryz.prog 122 #[v] (w.drewN k) fun e w'' => e = .returned (.int .i64 ((decDigits n).length : Int)) ∧ ∃ m, w'' = w.drewN m :=
 (digits_any (h.below (below_drewN (Below.refl _ _) k)) hn).mono (by rintro e w' ⟨rfl, rfl⟩; exact ⟨rfl, k, rfl⟩)
def TS (w w' : World) (l : List UInt8) : Prop :=
 Bd w' w.heap.size (w.heap.size + 2) (Lib.byteCells l) ∧ Buf w' (w.heap.size + 1) [] ∧ Below w.heap.size w w' ∧ w.heap.size + 2 ≤ w'.heap.size ∧ Tab w'
theorem ts_append {w w4 w5 : World} {l d : List UInt8} (htab : Tab w) (h : TS w w4 l) (hb5 : Buf w5 (w.heap.size + 1) d) (hk : Kept (w.heap.size + 1) w4.heap.size w4 w5) : TS w w5 l := by
 obtain ⟨⟨v, h1, h2⟩, _, h4, h5, _⟩ := h
 have hbe : Below w.heap.size w w5 := h4.trans (hk.below (by omega) (by omega))
 refine ⟨⟨v, (hk.block _ (by omega) (by omega)).trans h1, ⟨h2.1, ?_⟩⟩, hb5.nil, hbe, Nat.le_trans h5 hk.size, htab.below hbe⟩
 rcases h2.2 with h' | ⟨g, cap, cur, rfl, hbg, hg, rest⟩
 ·exact .inl h'
 ·exact .inr ⟨g, cap, cur, rfl, hbg, (hk.block g (Array.getElem?_eq_some_iff.1 hg).1 (by omega)).trans hg, rest⟩
theorem ts_write {w w5 w6 : World} {l l2 : List UInt8} (htab : Tab w) (h : TS w w5 l) (hbd : Bd w6 w.heap.size (w.heap.size + 2) (Lib.byteCells l ++ Lib.byteCells l2)) (hk : Kept w.heap.size (w.heap.size + 2) w5 w6) : TS w w6 (l ++ l2) := by
 obtain ⟨_, h3, h4, h5, _⟩ := h
 have hbe : Below w.heap.size w w6 := h4.trans (hk.below (by omega) (by omega))
 refine ⟨?_, h3.same (hk.block _ (by omega) (by omega)), hbe, Nat.le_trans h5 hk.size, htab.below hbe⟩
 have e : Lib.byteCells (l ++ l2) = Lib.byteCells l ++ Lib.byteCells l2 := by simp [Lib.byteCells]
 rw [e]; exact hbd
theorem bytes_oneCell (l : List UInt8) : ∀ u ∈ Lib.byteCells l, u.oneCell' = true := by
 intro u hu; simp only [Lib.byteCells, List.mem_map] at hu; obtain ⟨b, _, rfl⟩ := hu; rfl
theorem buf_cells {w : World} {g off : Nat} {l : List UInt8} (h : Buf w g l) : ∀ j u, (Lib.byteCells (l.drop off))[j]? = some u → w.cell? ((⟨g, off, none⟩ : Addr).add j) = some u := by
 intro j u hj
 rw [Lib.add_plain]
 simp only [Lib.byteCells, List.getElem?_map, Option.map_eq_some_iff] at hj
 obtain ⟨c, hc, rfl⟩ := hj
 rw [List.getElem?_drop] at hc
 exact h.cell hc
set_option maxHeartbeats 3200000 in
set_option maxRecDepth 100000 in
theorem text_any {w : World} {v : Value} {n : Nat} (h : Num w v n) (hn : ln n ≤ 1000000) (htab : Tab w) :
  Calls Tryz.prog 123 #[v] w fun e w' => e = .returned (.string ⟨(decDigits n).toArray⟩) ∧ Below w.heap.size w w' := by
 by_cases h0 : ln n = 0
 ·obtain ⟨a, c, rfl⟩ := slice_any h
  have hn0 := ln_eq_zero h0
  have HR := Lib.hid (show (⟨#[48]⟩ : ByteArray) = ⟨(decDigits n).toArray⟩ by rw [hn0, dec_small (by omega)]; rfl)
  rw [h0]
  clear h0 hn0
  go_enter Tryz.func123, Tryz.ntmps123
  go_wp2_with fail
  go_ret
  exact ⟨by rw [← HR.out]; rfl, Below.refl _ _⟩
 ·obtain ⟨b, c, rfl, hb, hc⟩ := slice_form h (by omega)
  obtain ⟨m, hm⟩ : ∃ m, ln n = m + 1 := ⟨ln n - 1, by omega⟩
  have ht := top_eq hm
  rw [hm]
  have hmn : m + 1 ≤ 1000000 := by omega
  have hml : m + 1 ≤ ln n := by omega
  have HM := Lib.hid hm
  have hal : Tryz.prog.arrayLen 184 = 10 := by kernel_rfl
  have hsl : ∀ W, (Instr.sliceAt 184 (.pointer (some ⟨w.heap.size + 1, 0, none⟩)) none (some (.int .i64 0)) none).run Tryz.prog W = .ok (.slice (some ⟨w.heap.size + 1, 0, none⟩) 0 10) W := fun W => by
   rw [run_sliceAt_array_h W 184 ⟨w.heap.size + 1, 0, none⟩ (by kernel_rfl) .i64 0 (by omega) (by rw [hal]; omega), hal]
   rfl
  clear h0 hm hn hal
  go_enter Tryz.func123, Tryz.ntmps123
  go_wp2_with fail
  rw [show (9 * ((m : Int) + 1)) = ((9 * (m + 1) : Nat) : Int) by omega]
  obtain ⟨z, hz⟩ : ∃ z : Array Value, z = #[Value.int IntKind.u8 0, Value.int IntKind.u8 0, Value.int IntKind.u8 0, Value.int IntKind.u8 0, Value.int IntKind.u8 0, Value.int IntKind.u8 0, Value.int IntKind.u8 0, Value.int IntKind.u8 0, Value.int IntKind.u8 0, Value.int IntKind.u8 0] := ⟨_, rfl⟩
  rw [← hz]
  have hz10 : z.size = 10 := by rw [hz]; rfl
  clear hz
  have hbb : ((w.alloc (Obj.cells #[Value.pointer none, Value.slice none 0 0] 183)).alloc (Obj.cells z 184)).heap[w.heap.size]? = some (.cells #[.pointer none, .slice none 0 0] 183 (0, 0)) := (Lib.alloc_old _ _ _ (by simp)).trans (heap_alloc_new w _)
  have hbf : Buf ((w.alloc (Obj.cells #[Value.pointer none, Value.slice none 0 0] 183)).alloc (Obj.cells z 184)) (w.heap.size + 1) [] := by
   refine ⟨z, ?_, hz10, fun j c hj => by simp at hj⟩
   have := heap_alloc_new (w.alloc (Obj.cells #[Value.pointer none, Value.slice none 0 0] 183)) (Obj.cells z 184)
   simpa using this
  have hsz2 : ((w.alloc (Obj.cells #[Value.pointer none, Value.slice none 0 0] 183)).alloc (Obj.cells z 184)).heap.size = w.heap.size + 2 := by simp
  have hbe : Below w.heap.size w ((w.alloc (Obj.cells #[Value.pointer none, Value.slice none 0 0] 183)).alloc (Obj.cells z 184)) := ((Below.refl _ _).alloc (Nat.le_refl _) _).alloc (by simp) _
  generalize (w.alloc (Obj.cells #[Value.pointer none, Value.slice none 0 0] 183)).alloc (Obj.cells z 184) = w2 at hbb hbf hsz2 hbe ⊢
  have hgr := Grow_fresh w.heap.size (w.heap.size + 2) (9 * (m + 1)) w2 (by omega) (by omega) hbb (by omega) (by omega)
  refine hgr.mono ?_
  rintro e w3 ⟨rfl, hbd, hk3⟩
  have hbf3 : Buf w3 (w.heap.size + 1) [] := hbf.same (hk3.block _ (by omega) (by omega))
  have hbe3 : Below w.heap.size w w3 := hbe.trans (hk3.below (by omega) (by omega))
  have hsz3 : w.heap.size + 2 ≤ w3.heap.size := by have := hk3.size; omega
  have HBD := Lib.hid hbd
  have HBF := Lib.hid hbf3
  have hn3 := h.below hbe3
  have c1 := hn3.cell (j := m) hml
  have HT3 := Lib.hid (htab.below hbe3)
  clear hgr hbb hbf hsz2 hbe hk3 hbd hbf3 hz10 hn3
  go_wp2_with fail
  have e1 : (m : Int) + 1 - 1 = (m : Int) := by omega
  have e2 : IntKind.i64.wrap (m : Int) = (m : Int) := IntWalk.i64_in _ (by omega)
  have e3 : (m : Int) < (m : Int) + 1 := by omega
  go_still_tail 7, (by kernel_rfl)
  clear e1 e2
  change wpList _ _ _ _ _ w3.drew
  have hts : TS w w3.drew [] := ⟨HBD.out, HBF.out, hbe3.drew, hsz3, HT3.out⟩
  generalize w3.drew = w4 at hts ⊢
  have hu := dg_lt n m
  have hlen0 := dec_len10 (u := dg n m) (by omega)
  have HU := Lib.hid (AppendUint_any (w.heap.size + 1) (dg n m) (by omega) w4 hts.2.1 (by have := hts.2.2.2.1; omega) hts.2.2.2.2)
  have HTS := Lib.hid hts
  have HTAB := Lib.hid htab
  have HN := Lib.hid h
  clear HBD HBF hbe3 HT3 hsz3 c1 hts htab h
  go_wp2_with fail
  refine HU.out.mono ?_
  rintro e w5 ⟨rfl, hbf5, hk5⟩
  have hts5 := ts_append HTAB.out HTS.out hbf5 hk5
  have HW := Lib.hid (Write_used w.heap.size (w.heap.size + 2) (decDigits (dg n m)).length 10 (Lib.byteCells []) (Lib.byteCells (decDigits (dg n m))) ⟨w.heap.size + 1, 0, none⟩ w5 (by omega) (by have := hts5.2.2.2.1; omega) hts5.1 (Lib.byteCells_length _) (by have := buf_cells (off := 0) hbf5; simpa using this) (bytes_oneCell _) (by simp [Lib.byteCells]; omega))
  have HTS5 := Lib.hid hts5
  clear hbf5 hk5 hts5 HU HTS
  go_wp2_with fail
  refine HW.out.mono ?_
  rintro e w6 ⟨rfl, hbd6, hk6⟩
  have HTS6 := Lib.hid (ts_write (l := []) HTAB.out HTS5.out hbd6 hk6)
  clear hbd6 hk6 HW HTS5
  go_wp2_with fail
  go_loopw [5] (fun i wr => ∃ k : Nat, k ≤ m ∧ i = .int .i64 ((k : Int) - 1) ∧ TS w wr (decDigits (n / B ^ k))) (fun i _ => ((intOf i) + 1).toNat)
  case atStart => exact ⟨m, Nat.le_refl _, by go_num, by rw [ht]; simpa using HTS6.out⟩
  case round =>
   obtain ⟨k, hk, rfl, hts⟩ := hrel
   clear HTS6
   by_cases hk0 : 0 < k
   ·obtain ⟨q, rfl⟩ : ∃ q, k = q + 1 := ⟨k - 1, by omega⟩
    have hnr := HN.out.below hts.2.2.1
    have c1 := hnr.cell (j := q) (by omega)
    have hr := dg_lt n q
    have hd := dec_base hr
    have hl := dec_limb (div_pos_of_ln HM.out hk)
    have HU := Lib.hid (AppendUint_any (w.heap.size + 1) (1000000000 + dg n q) (by omega) wr.drew hts.2.1 (by have := hts.2.2.2.1; exact this) hts.2.2.2.2)
    rw [hd] at HU
    have HTS := Lib.hid (show TS w wr.drew (decDigits (n / B ^ (q + 1))) from ⟨hts.1, hts.2.1, hts.2.2.1.drew, hts.2.2.2.1, hts.2.2.2.2⟩)
    have hll : (49 :: pad 9 (dg n q)).length = 10 := by rw [List.length_cons, pad_length]
    rw [hll] at HU
    have HL := Lib.hid hl
    have HBL := Lib.hid (show (Lib.byteCells (decDigits (n / B ^ (q + 1)))).length ≤ 999999000 by
     rw [Lib.byteCells_length]
     have h1 := dec_len_mono (Nat.div_le_self n (B ^ (q + 1)))
     have h2 := dec_length HM.out
     have h3 := dec_len10 (u := dg n m) (by have := dg_lt n m; omega)
     omega)
    clear hts hd hl hll hnr
    go_wp2_with fail
    have e2 : IntKind.u64.wrap (1000000000 + ((dg n q : Nat) : Int)) = 1000000000 + ((dg n q : Nat) : Int) := IntWalk.u64_in _ (by omega)
    have e3 : IntKind.i64.wrap (q : Int) = (q : Int) := IntWalk.i64_in _ (by omega)
    have e4 : (q : Int) < (m : Int) + 1 := by omega
    go_still_tail 6, (by kernel_rfl)
    clear e2 e3 e4
    change wpList _ _ _ _ _ wr.drew
    generalize wr.drew = w7 at HU HTS ⊢
    go_wp2_with fail
    rw [show (1000000000 : Int) + ((dg n q : Nat) : Int) = ((1000000000 + dg n q : Nat) : Int) by omega]
    refine HU.out.mono ?_
    rintro e w8 ⟨rfl, hbf8, hk8⟩
    have hts8 := ts_append HTAB.out HTS.out hbf8 hk8
    have HW := Lib.hid (Write_used w.heap.size (w.heap.size + 2) 9 9 (Lib.byteCells (decDigits (n / B ^ (q + 1)))) (Lib.byteCells (pad 9 (dg n q))) ⟨w.heap.size + 1, 1, none⟩ w8 (by omega) (by have := hts8.2.2.2.1; omega) hts8.1 (by rw [Lib.byteCells_length, pad_length]) (by have := buf_cells (off := 1) hbf8; simpa using this) (bytes_oneCell _) (by have := HBL.out; omega))
    have HTS8 := Lib.hid hts8
    clear hbf8 hk8 hts8 HU HTS
    go_wp2_with fail
    refine HW.out.mono ?_
    rintro e w9 ⟨rfl, hbd9, hk9⟩
    have HTS9 := Lib.hid (ts_write HTAB.out HTS8.out hbd9 hk9)
    clear hbd9 hk9 HW HTS8
    go_wp2_with fail
    go_roundw
    case rel => exact ⟨q, by omega, by go_num, by rw [HL.out]; exact HTS9.out⟩
    case measure => simp [intOf]
   ·obtain rfl : k = 0 := by omega
    have HS := Lib.hid (String_used w.heap.size (w.heap.size + 2) (decDigits (n / B ^ 0)) wr (by omega) (by have := hts.2.2.2.1; omega) hts.1)
    have HBE := Lib.hid hts.2.2.1
    clear hts
    go_wp2_with fail
    refine HS.out.mono ?_
    rintro e w9 ⟨rfl, hb9⟩
    have HB9 := Lib.hid hb9
    clear hb9 HS
    go_wp2_with fail
    go_ret
    exact ⟨by simp, HBE.out.trans HB9.out⟩
open Go.RowKit NV
open Go.Lib (decDigits)
def dstr (n : Nat) : ByteArray := ⟨(decDigits n).toArray⟩
theorem dstr_list (n : Nat) : (dstr n).data.toList = decDigits n := by simp [dstr]
theorem dstr_size (n : Nat) : (dstr n).size = (decDigits n).length := by rw [Go.Lib.size_eq, dstr_list]
theorem dstr_of {s : ByteArray} {n : Nat} (h : s.data.toList = decDigits n) : s = dstr n := by
 cases s with
 | mk d => rw [dstr, ← h]
def Ok (n : Nat) : Prop := (decDigits n).length ≤ 4000
theorem Ok.chk {n : Nat} (h : Ok n) : chk (decDigits n) = 0 := by rw [chk_dec, if_neg (by unfold Ok at h; omega)]
theorem Ok.ln {n : Nat} (h : Ok n) : ln n ≤ 445 := ln_of_len (by unfold Ok at h; omega)
theorem Ok.mono {a b : Nat} (h : Ok b) (hab : a ≤ b) : Ok a := Nat.le_trans (dec_len_mono hab) h
end Go.Proofs.YtjpepjooefkbkaaGreatDoor
