/-
  The contract of less.
-/
import Derived.Test.YtdihamgjeoojkaaDoorW4
namespace Go.Proofs.YtdihamgjeoojkaaDoor
open Go.RowKit NV

theorem div_step (n k : Nat) : n / B ^ k = n / B ^ (k + 1) * 1000000000 + dg n k := by
  rw [dg, pow_succ, ← Nat.div_div_eq_div_mul]
  have := Nat.mod_add_div (n / B ^ k) B
  rw [B_eq] at this ⊢
  omega

theorem lt_of_dg {a b k : Nat} (h : a / B ^ (k + 1) = b / B ^ (k + 1)) (hd : dg a k < dg b k) : a < b := by
  have h1 := div_step a k
  have h2 := div_step b k
  have h3 : a / B ^ k < b / B ^ k := by omega
  by_cases hab : a < b
  · exact hab
  · have := Nat.div_le_div_right (c := B ^ k) (show b ≤ a by omega)
    omega

theorem eq_of_dg {a b k : Nat} (h : a / B ^ (k + 1) = b / B ^ (k + 1)) (hd : dg a k = dg b k) : a / B ^ k = b / B ^ k := by
  rw [div_step a k, div_step b k, h, hd]

/-- Is a less than b? -/
def ltB (a b : Nat) : Bool := decide (a < b)
theorem ltB_yes {a b : Nat} (h : a < b) : true = ltB a b := by simp [ltB, h]
theorem ltB_no {a b : Nat} (h : ¬ a < b) : false = ltB a b := by simp [ltB]; omega
theorem ret_bool {a b : Bool} (h : a = b) : Ending.returned (.bool a) = .returned (.bool b) := by rw [h]

set_option maxHeartbeats 800000 in
set_option maxRecDepth 100000 in
/-- less tells which number is less. -/
theorem less_any {w : World} {x y : Value} {a b : Nat} (hx : Num w x a) (hy : Num w y b) (ha : ln a ≤ 1073741824) (hb : ln b ≤ 1073741824) :
    Calls Tryd.prog 55 #[x, y] w fun e w' => e = .returned (.bool (ltB a b)) ∧ Below w.heap.size w w' := by
  obtain ⟨xb, xc, rfl, hxb, hxc⟩ := slice_form hx
  obtain ⟨yb, yc, rfl, hyb, hyc⟩ := slice_form hy
  rcases Nat.lt_trichotomy (ln a) (ln b) with hl | hl | hl
  · have hr := ltB_yes (lt_of_ln_lt hl)
    have HR := Lib.hid hr
    clear hr
    go_enter Tryd.func55, Tryd.ntmps55
    go_wp2
    go_ret
    exact ⟨ret_bool HR.out, Below.refl _ _⟩
  · have hlb : ln b ≤ ln a := by omega
    have hla : ln a ≤ ln b := by omega
    obtain ⟨L, hL⟩ : ∃ L, L = ln a := ⟨_, rfl⟩
    have hd0 : a / B ^ L = b / B ^ L := by
      rw [Nat.div_eq_of_lt (by rw [hL]; exact lt_pow_ln a), Nat.div_eq_of_lt (by rw [hL, hl]; exact lt_pow_ln b)]
    rw [← hL] at hl
    rw [← hL, ← hl]
    have HL := Lib.hid hL
    have HL2 := Lib.hid hl
    have hL3 : L ≤ ln a := by omega
    have hL4 : L ≤ ln b := by omega
    have hL5 : L ≤ 1073741824 := by omega
    clear hL hl hla hlb
    go_enter Tryd.func55, Tryd.ntmps55
    go_wp2
    go_loopw [5] (fun i wr => ∃ k : Nat, k ≤ L ∧ i = .int .i64 ((k : Int) - 1) ∧ a / B ^ k = b / B ^ k ∧ Below w.heap.size w wr) (fun i _ => ((intOf i) + 1).toNat)
    case atStart => exact ⟨L, Nat.le_refl _, rfl, hd0, Below.refl _ _⟩
    case round =>
      obtain ⟨k, hk, rfl, hdk, hbr⟩ := hrel
      have HD := Lib.hid hdk
      clear hdk hd0
      by_cases h0 : 0 < k
      · obtain ⟨q, rfl⟩ : ∃ q, k = q + 1 := ⟨k - 1, by omega⟩
        have c1 := (hx.below hbr)
        have c2 := (hy.below hbr)
        have d1 := c1.cell (j := q) (by omega)
        have d2 := c2.cell (j := q) (by omega)
        clear c1 c2
        by_cases he : dg a q = dg b q
        · have HE := Lib.hid (eq_of_dg HD.out he)
          rw [he] at d1
          clear he
          go_wp2_with fail
          go_quiet (fail)
          go_wp2_with fail
          go_roundw
          case rel => exact ⟨q, by omega, rfl, HE.out, below_drewN hbr _⟩
          case measure => simp [intOf]
        · have hne : (((dg a q : Nat) : Int) != ((dg b q : Nat) : Int)) = true := by rw [bne_iff_ne]; omega
          by_cases hlt : dg a q < dg b q
          · have HR := Lib.hid (ltB_yes (lt_of_dg HD.out hlt))
            have hlt' : ((dg a q : Nat) : Int) < ((dg b q : Nat) : Int) := by omega
            clear hlt he
            go_wp2_with fail
            go_quiet (fail)
            go_wp2_with fail
            go_quiet (fail)
            go_wp2_with fail
            go_ret
            exact ⟨ret_bool HR.out, below_drewN (below_drewN hbr _) _⟩
          · have HR := Lib.hid (ltB_no (a := a) (b := b) (by have := lt_of_dg HD.out.symm (show dg b q < dg a q by omega); omega))
            have hlt' : ((dg b q : Nat) : Int) ≤ ((dg a q : Nat) : Int) := by omega
            clear hlt he
            go_wp2_with fail
            go_quiet (fail)
            go_wp2_with fail
            go_quiet (fail)
            go_wp2_with fail
            go_ret
            exact ⟨ret_bool ((decide_eq_false (by omega)).trans HR.out), below_drewN (below_drewN hbr _) _⟩
      · obtain rfl : k = 0 := by omega
        have hab : a = b := by have := HD.out; simpa using this
        have HR := Lib.hid (ltB_no (a := a) (b := b) (by omega))
        clear hab
        go_wp2_with fail
        go_ret
        exact ⟨ret_bool HR.out, hbr⟩
  · have hr := ltB_no (a := a) (b := b) (by have := lt_of_ln_lt hl; omega)
    have HR := Lib.hid hr
    clear hr
    go_enter Tryd.func55, Tryd.ntmps55
    go_wp2
    go_ret
    exact ⟨ret_bool ((decide_eq_false (by omega)).trans HR.out), Below.refl _ _⟩

end Go.Proofs.YtdihamgjeoojkaaDoor
