/-
  The contracts of Check (the program's and the reference's), and of checkAll.
-/
import Derived.Test.YtiocehlefpbbhaaGreatDoorW5
import Derived.Test.YtiocehlefpbbhaaGreatDoorM3
import Derived.Lib.Strings
namespace Go.Proofs.YtiocehlefpbbhaaGreatDoor
open Go.RowKit NV

theorem badB_true {l : List UInt8} (h : l = [] ∨ (l.headD 0 = 48 ∧ 1 < l.length) ∨ (∃ c, c ∈ l ∧ ¬ (48 ≤ c.toNat ∧ c.toNat ≤ 57))) : badB l = true := by
  by_cases hb : badB l = true
  · exact hb
  · obtain ⟨h1, h2, h3⟩ := good_parts (l := l) (by simpa using hb)
    rcases h with h | ⟨h, h'⟩ | ⟨c, hc, h⟩
    · exact absurd h h1
    · have := h3 h; omega
    · exact absurd (h2 c hc) h

theorem chk_three {l : List UInt8} (h : l = [] ∨ (l.headD 0 = 48 ∧ 1 < l.length) ∨ (∃ c, c ∈ l ∧ ¬ (48 ≤ c.toNat ∧ c.toNat ≤ 57))) : chk l = 3 := by
  unfold chk; rw [if_pos (badB_true h)]

theorem badB_false {l : List UInt8} (h1 : l ≠ []) (h2 : l.headD 0 = 48 → l.length ≤ 1) (h3 : Digs l) : badB l = false := by
  have := bad_dec (dv l)
  rwa [dec_of_digs h1 h3 h2] at this

theorem chk_five {l : List UInt8} (h1 : l ≠ []) (h2 : l.headD 0 = 48 → l.length ≤ 1) (h3 : Digs l) (h : 4000 < l.length) : chk l = 5 := by
  unfold chk; rw [badB_false h1 h2 h3, if_neg (by simp), if_pos h]

theorem chk_none {l : List UInt8} (h1 : l ≠ []) (h2 : l.headD 0 = 48 → l.length ≤ 1) (h3 : Digs l) (h : l.length ≤ 4000) : chk l = 0 := by
  unfold chk; rw [badB_false h1 h2 h3, if_neg (by simp), if_neg (by omega)]

theorem byte_at (s : ByteArray) (k : Nat) (h : k < s.size) : s.data.toList[k]? = some s[k] := by
  rw [List.getElem?_eq_getElem (by rw [← Go.Lib.size_eq]; exact h)]; rfl

theorem byte_mem (s : ByteArray) (k : Nat) (h : k < s.size) : s[k] ∈ s.data.toList := List.mem_of_getElem? (byte_at s k h)

theorem take_byte (s : ByteArray) (k : Nat) (h : k < s.size) : s.data.toList.take (k + 1) = s.data.toList.take k ++ [s[k]] := by
  rw [List.take_add_one, byte_at s k h]; rfl

theorem head_byte (s : ByteArray) (h : 0 < s.size) : s.data.toList.headD 0 = s[0] := by
  have := byte_at s 0 h
  cases hl : s.data.toList with
  | nil => rw [hl] at this; simp at this
  | cons x xs => rw [hl] at this; simpa using this

theorem digs_next {s : ByteArray} {k : Nat} (h : k < s.size) (hd : Digs (s.data.toList.take k)) (h1 : 48 ≤ (s[k]).toNat) (h2 : (s[k]).toNat ≤ 57) : Digs (s.data.toList.take (k + 1)) := by
  rw [take_byte s k h]
  intro c hc
  rcases List.mem_append.1 hc with hc | hc
  · exact hd c hc
  · rw [List.mem_singleton] at hc; subst hc; exact ⟨h1, h2⟩

set_option maxHeartbeats 1600000 in
set_option maxRecDepth 100000 in
/-- What privhouse/nat.Check answers. -/
theorem check_any (s : ByteArray) (w : World) (hs : s.size ≤ 140737488351232) :
    Calls Tryz.prog 20 #[.string s] w fun e w' => e = .returned (.int .i64 ((chk s.data.toList : Nat) : Int)) ∧ w = w' := by
  have hsz := Go.Lib.size_eq s
  have HSZ := Lib.hid hsz
  clear hsz
  by_cases h0 : 0 < s.size
  · have hne : s.toList.isEmpty = false := by
      rw [Go.Lib.toList_data, List.isEmpty_eq_false_iff]
      intro e
      have h9 := HSZ.out; rw [e, List.length_nil] at h9; omega
    have hne1 : ¬ s.toList = [] := by intro e; rw [e] at hne; simp at hne
    have HN := Lib.hid (show s.data.toList ≠ [] by rw [← Go.Lib.toList_data]; exact hne1)
    by_cases hz : (s[0]).toNat = 48
    · have hz1 : (48 : Int) ≤ ((s[0].toNat : Nat) : Int) := by omega
      have hz2 : ((s[0].toNat : Nat) : Int) ≤ 48 := by omega
      have HH := Lib.hid (show s.data.toList.headD 0 = 48 by rw [head_byte s h0]; exact UInt8.toNat_inj.1 (by rw [hz]; rfl))
      clear hz
      by_cases h1 : 1 < s.size
      · have HR := Lib.hid (chk_three (l := s.data.toList) (.inr (.inl ⟨HH.out, by rw [← HSZ.out]; exact h1⟩)))
        go_enter Tryz.func20, Tryz.ntmps20
        go_wp2_with fail
        go_ret
        exact ⟨by rw [HR.out]; rfl, rfl⟩
      · have HD := Lib.hid (show Digs s.data.toList from fun c hc => by
          have hl : s.data.toList.length = 1 := by rw [← HSZ.out]; omega
          have e1 := take_byte s 0 h0
          rw [List.take_of_length_le (by omega)] at e1
          rw [e1] at hc
          simp at hc; subst hc; omega)
        have HR := Lib.hid (chk_none (l := s.data.toList) HN.out (fun _ => by rw [← HSZ.out]; omega) HD.out (by rw [← HSZ.out]; omega))
        go_enter Tryz.func20, Tryz.ntmps20
        go_wp2_with fail
        go_loop [18] (fun i => ∃ k : Nat, k ≤ s.size ∧ i = .int .i64 k) (fun i => s.size - (intOf i).toNat)
        case atStart => exact ⟨0, Nat.zero_le _, rfl⟩
        case round =>
          obtain ⟨k, hk, rfl⟩ := hrel
          by_cases hlt : k < s.size
          · obtain rfl : k = 0 := by omega
            go_wp2_with fail
            go_round
            case rel => exact ⟨1, by omega, by go_num⟩
            case measure => simp [intOf]; omega
          · go_wp2_with fail
            go_ret
            exact ⟨by rw [HR.out]; rfl, rfl⟩
    · have hzb : (((s[0].toNat : Nat) : Int) == 48) = false := by rw [beq_eq_false_iff_ne]; omega
      have HH := Lib.hid (show s.data.toList.headD 0 = 48 → s.data.toList.length ≤ 1 from fun e => by
        rw [head_byte s h0] at e; exact absurd (by rw [e]; rfl) hz)
      clear hz
      go_enter Tryz.func20, Tryz.ntmps20
      go_wp2_with fail
      go_loop [18] (fun i => ∃ k : Nat, k ≤ s.size ∧ i = .int .i64 k ∧ Digs (s.data.toList.take k)) (fun i => s.size - (intOf i).toNat)
      case atStart => exact ⟨0, Nat.zero_le _, rfl, fun c hc => by simp at hc⟩
      case round =>
        obtain ⟨k, hk, rfl, hd0⟩ := hrel
        have HD := Lib.hid hd0
        clear hd0
        by_cases hlt : k < s.size
        · by_cases hlo : (s[k]).toNat < 48
          · have hlo' : ((s[k].toNat : Nat) : Int) < 48 := by omega
            have HR := Lib.hid (chk_three (l := s.data.toList) (.inr (.inr ⟨s[k], byte_mem s k hlt, by omega⟩)))
            clear hlo
            go_wp2_with fail
            go_ret
            exact ⟨by rw [HR.out]; rfl, rfl⟩
          · by_cases hhi : 57 < (s[k]).toNat
            · have hlo' : (48 : Int) ≤ ((s[k].toNat : Nat) : Int) := by omega
              have hhi' : (57 : Int) < ((s[k].toNat : Nat) : Int) := by omega
              have HR := Lib.hid (chk_three (l := s.data.toList) (.inr (.inr ⟨s[k], byte_mem s k hlt, by omega⟩)))
              clear hlo hhi
              go_wp2_with fail
              go_ret
              exact ⟨by rw [HR.out]; rfl, rfl⟩
            · have hlo' : (48 : Int) ≤ ((s[k].toNat : Nat) : Int) := by omega
              have hhi' : ((s[k].toNat : Nat) : Int) ≤ 57 := by omega
              have HD2 := Lib.hid (digs_next hlt HD.out (by omega) (by omega))
              clear hlo hhi
              go_wp2_with fail
              go_round
              case rel => exact ⟨k + 1, by omega, by go_num, HD2.out⟩
              case measure => simp [intOf]; omega
        · have HD2 := Lib.hid (show Digs s.data.toList by
            have := HD.out
            rwa [List.take_of_length_le (by rw [← HSZ.out]; omega)] at this)
          by_cases h4 : 4000 < s.size
          · have HR := Lib.hid (chk_five HN.out HH.out HD2.out (by rw [← HSZ.out]; exact h4))
            go_wp2_with fail
            go_ret
            exact ⟨by rw [HR.out]; rfl, rfl⟩
          · have HR := Lib.hid (chk_none HN.out HH.out HD2.out (by rw [← HSZ.out]; omega))
            go_wp2_with fail
            go_ret
            exact ⟨by rw [HR.out]; rfl, rfl⟩
  · have hn : s.data.toList = [] := List.eq_nil_of_length_eq_zero (by rw [← HSZ.out]; omega)
    have hne1 : s.toList = [] := by rw [Go.Lib.toList_data, hn]
    have HR := Lib.hid (chk_three (.inl hn))
    clear hn
    go_enter Tryz.func20, Tryz.ntmps20
    go_wp2_with fail
    go_ret
    exact ⟨by rw [HR.out]; rfl, rfl⟩

set_option maxHeartbeats 1600000 in
set_option maxRecDepth 100000 in
/-- What privhouse/privhouseref01.Check answers. -/
theorem refcheck_any (s : ByteArray) (w : World) (hs : s.size ≤ 140737488351232) :
    Calls Tryz.prog 21 #[.string s] w fun e w' => e = .returned (.int .i64 ((chk s.data.toList : Nat) : Int)) ∧ w = w' := by
  have hsz := Go.Lib.size_eq s
  have HSZ := Lib.hid hsz
  clear hsz
  by_cases h0 : 0 < s.size
  · have hne : s.toList.isEmpty = false := by
      rw [Go.Lib.toList_data, List.isEmpty_eq_false_iff]
      intro e
      have h9 := HSZ.out; rw [e, List.length_nil] at h9; omega
    have hne1 : ¬ s.toList = [] := by intro e; rw [e] at hne; simp at hne
    have HN := Lib.hid (show s.data.toList ≠ [] by rw [← Go.Lib.toList_data]; exact hne1)
    by_cases hz : (s[0]).toNat = 48
    · have hz1 : (48 : Int) ≤ ((s[0].toNat : Nat) : Int) := by omega
      have hz2 : ((s[0].toNat : Nat) : Int) ≤ 48 := by omega
      have HH := Lib.hid (show s.data.toList.headD 0 = 48 by rw [head_byte s h0]; exact UInt8.toNat_inj.1 (by rw [hz]; rfl))
      clear hz
      by_cases h1 : 1 < s.size
      · have HR := Lib.hid (chk_three (l := s.data.toList) (.inr (.inl ⟨HH.out, by rw [← HSZ.out]; exact h1⟩)))
        go_enter Tryz.func21, Tryz.ntmps21
        go_wp2_with fail
        go_ret
        exact ⟨by rw [HR.out]; rfl, rfl⟩
      · have HD := Lib.hid (show Digs s.data.toList from fun c hc => by
          have hl : s.data.toList.length = 1 := by rw [← HSZ.out]; omega
          have e1 := take_byte s 0 h0
          rw [List.take_of_length_le (by omega)] at e1
          rw [e1] at hc
          simp at hc; subst hc; omega)
        have HR := Lib.hid (chk_none (l := s.data.toList) HN.out (fun _ => by rw [← HSZ.out]; omega) HD.out (by rw [← HSZ.out]; omega))
        go_enter Tryz.func21, Tryz.ntmps21
        go_wp2_with fail
        go_loop [3] (fun i => ∃ k : Nat, k ≤ s.size ∧ i = .int .i64 k) (fun i => s.size - (intOf i).toNat)
        case atStart => exact ⟨0, Nat.zero_le _, rfl⟩
        case round =>
          obtain ⟨k, hk, rfl⟩ := hrel
          by_cases hlt : k < s.size
          · obtain rfl : k = 0 := by omega
            go_wp2_with fail
            go_round
            case rel => exact ⟨1, by omega, by go_num⟩
            case measure => simp [intOf]; omega
          · go_wp2_with fail
            go_ret
            exact ⟨by rw [HR.out]; rfl, rfl⟩
    · have hzb : (((s[0].toNat : Nat) : Int) == 48) = false := by rw [beq_eq_false_iff_ne]; omega
      have HH := Lib.hid (show s.data.toList.headD 0 = 48 → s.data.toList.length ≤ 1 from fun e => by
        rw [head_byte s h0] at e; exact absurd (by rw [e]; rfl) hz)
      clear hz
      go_enter Tryz.func21, Tryz.ntmps21
      go_wp2_with fail
      go_loop [3] (fun i => ∃ k : Nat, k ≤ s.size ∧ i = .int .i64 k ∧ Digs (s.data.toList.take k)) (fun i => s.size - (intOf i).toNat)
      case atStart => exact ⟨0, Nat.zero_le _, rfl, fun c hc => by simp at hc⟩
      case round =>
        obtain ⟨k, hk, rfl, hd0⟩ := hrel
        have HD := Lib.hid hd0
        clear hd0
        by_cases hlt : k < s.size
        · by_cases hlo : (s[k]).toNat < 48
          · have hlo' : ((s[k].toNat : Nat) : Int) < 48 := by omega
            have HR := Lib.hid (chk_three (l := s.data.toList) (.inr (.inr ⟨s[k], byte_mem s k hlt, by omega⟩)))
            clear hlo
            go_wp2_with fail
            go_ret
            exact ⟨by rw [HR.out]; rfl, rfl⟩
          · by_cases hhi : 57 < (s[k]).toNat
            · have hlo' : (48 : Int) ≤ ((s[k].toNat : Nat) : Int) := by omega
              have hhi' : (57 : Int) < ((s[k].toNat : Nat) : Int) := by omega
              have HR := Lib.hid (chk_three (l := s.data.toList) (.inr (.inr ⟨s[k], byte_mem s k hlt, by omega⟩)))
              clear hlo hhi
              go_wp2_with fail
              go_ret
              exact ⟨by rw [HR.out]; rfl, rfl⟩
            · have hlo' : (48 : Int) ≤ ((s[k].toNat : Nat) : Int) := by omega
              have hhi' : ((s[k].toNat : Nat) : Int) ≤ 57 := by omega
              have HD2 := Lib.hid (digs_next hlt HD.out (by omega) (by omega))
              clear hlo hhi
              go_wp2_with fail
              go_round
              case rel => exact ⟨k + 1, by omega, by go_num, HD2.out⟩
              case measure => simp [intOf]; omega
        · have HD2 := Lib.hid (show Digs s.data.toList by
            have := HD.out
            rwa [List.take_of_length_le (by rw [← HSZ.out]; omega)] at this)
          by_cases h4 : 4000 < s.size
          · have HR := Lib.hid (chk_five HN.out HH.out HD2.out (by rw [← HSZ.out]; exact h4))
            go_wp2_with fail
            go_ret
            exact ⟨by rw [HR.out]; rfl, rfl⟩
          · have HR := Lib.hid (chk_none HN.out HH.out HD2.out (by rw [← HSZ.out]; omega))
            go_wp2_with fail
            go_ret
            exact ⟨by rw [HR.out]; rfl, rfl⟩
  · have hn : s.data.toList = [] := List.eq_nil_of_length_eq_zero (by rw [← HSZ.out]; omega)
    have hne1 : s.toList = [] := by rw [Go.Lib.toList_data, hn]
    have HR := Lib.hid (chk_three (.inl hn))
    clear hn
    go_enter Tryz.func21, Tryz.ntmps21
    go_wp2_with fail
    go_ret
    exact ⟨by rw [HR.out]; rfl, rfl⟩

end Go.Proofs.YtiocehlefpbbhaaGreatDoor
