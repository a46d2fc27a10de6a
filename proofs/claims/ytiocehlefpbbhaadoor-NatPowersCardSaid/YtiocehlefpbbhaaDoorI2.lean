/-
  The reference's Read.
-/
import Derived.Test.YtiocehlefpbbhaaDoorI1
import Derived.Test.YtiocehlefpbbhaaDoorW7
import Derived.Laws.AppendOwn
namespace Go.Proofs.YtiocehlefpbbhaaDoor
open Go.RowKit NV

/-- The limbs from 0 on, k of them, as ints. -/
def ilvs (n k : Nat) : List Value := (List.range k).map (fun j => Value.int .i64 ((dg n j : Nat) : Int))
theorem ilvs_succ (n k : Nat) : ilvs n (k + 1) = ilvs n k ++ [.int .i64 ((dg n k : Nat) : Int)] := by simp [ilvs, List.range_succ]

/-- A row of the call's own that is not nil. -/
theorem iown_form {w : World} {base n k : Nat} {v : Value} (h : w.ownsRow base 3 1 v k (ilvs n k)) (h0 : v ≠ .slice none 0 0) :
    ∃ g c, v = .slice (some ⟨g, 0, none⟩) k c ∧ base ≤ g ∧ g < w.heap.size ∧ k ≤ c ∧ ∀ j, j < k → w.cell? ⟨g, j, none⟩ = some (.int .i64 ((dg n j : Nat) : Int)) := by
  rcases h.2 with ⟨h', _⟩ | ⟨g, cap, cur, h', hb, hg, hnc, hcm, hcs, htake⟩
  · exact absurd h' h0
  · subst h'
    refine ⟨g, cap, rfl, hb, (Array.getElem?_eq_some_iff.1 hg).1, hnc, fun j hj => ?_⟩
    rw [World.ownsRow.cellAt h j (by omega)]
    simp [ilvs, hj]

theorem inum_of {w : World} {g c n k : Nat} (hg : g < w.heap.size) (hk : ln n ≤ k) (hc : k ≤ c) (h : ∀ j, j < k → w.cell? ⟨g, j, none⟩ = some (.int .i64 ((dg n j : Nat) : Int))) : INum w (.slice (some ⟨g, 0, none⟩) (ln n) c) n :=
  ⟨_, c, rfl, .inr ⟨g, rfl, hg, Nat.le_trans hk hc, fun j hj => h j (Nat.lt_of_lt_of_le hj hk)⟩⟩

theorem bt_at (s : ByteArray) (k : Nat) (h : k < s.size) : bt s.data.toList k = (s[k]).toNat := by
  have h2 := byte_at s k h
  unfold bt
  rw [List.getD_eq_getElem?_getD, h2]
  rfl

theorem bt_piece (l : List UInt8) {lo e q : Nat} (h : lo + q < e) : bt ((l.take e).drop lo) q = bt l (lo + q) := by
  unfold bt
  rw [List.getD_eq_getElem?_getD, List.getD_eq_getElem?_getD, List.getElem?_drop, List.getElem?_take, if_pos h]

set_option maxHeartbeats 1600000 in
set_option maxRecDepth 100000 in
/-- Read returns the number that a text of digits is. -/
theorem iread_any (s : ByteArray) (w : World) (hs0 : 0 < s.size) (hs : s.size ≤ 1000000) (hd : Digs s.data.toList) :
    Calls Tryd.prog 46 #[.string s] w fun e w' => ∃ v, e = .returned v ∧ INum w' v (dv s.data.toList) ∧ Below w.heap.size w w' := by
  obtain ⟨i0, hi, hz0, hz1, hz2⟩ := info_parts infoI
  have HSZ := Lib.hid (Go.Lib.size_eq s)
  obtain ⟨n, hn⟩ : ∃ n, n = dv s.data.toList := ⟨_, rfl⟩
  rw [← hn]
  have HN := Lib.hid hn
  have hown0 : w.ownsRow w.heap.size 3 1 (.slice none 0 0) 0 (ilvs n 0) := World.ownsRow_nil w _ _ _
  have HD := Lib.hid hd
  clear hn hd
  go_enter Tryd.func46, Tryd.ntmps46
  go_wp2_with fail
  go_loopw [3, 4] (fun v e wr => ∃ k : Nat, 9 * k < s.size + 9 ∧ e = .int .i64 ((s.size : Int) - 9 * (k : Int)) ∧ wr.ownsRow w.heap.size 3 1 v k (ilvs n k) ∧ Hid (v = .slice none 0 0 ↔ k = 0) ∧ Below w.heap.size w wr) (fun _ e _ => (intOf e).toNat)
  case atStart => exact ⟨0, by omega, by go_num, hown0, Lib.hid (by simp), Below.refl _ _⟩
  case round =>
    obtain ⟨k, hk, rfl, hown, hnil, hbr⟩ := hrel
    clear hown0
    by_cases hlt : 9 * k < s.size
    · obtain ⟨e, he⟩ : ∃ e : Nat, e = s.size - 9 * k := ⟨_, rfl⟩
      obtain ⟨lo, hlo⟩ : ∃ lo : Nat, lo = e - 9 := ⟨_, rfl⟩
      have HP := Lib.hid (dv_piece HD.out (e := e) (lo := lo) (k := k) (by rw [← HSZ.out]; omega) hlo)
      obtain ⟨pl, hpl⟩ : ∃ pl, pl = (s.data.toList.take e).drop lo := ⟨_, rfl⟩
      have hplen : pl.length = e - lo := by rw [hpl, List.length_drop, List.length_take, ← HSZ.out]; omega
      have HPL := Lib.hid hpl
      have HLEN := Lib.hid hplen
      have hdp : Digs pl := by rw [hpl]; exact (HD.out.take _).drop _
      have HDP := Lib.hid hdp
      have he1 : (s.size : Int) - 9 * (k : Int) = (e : Int) := by omega
      have he2 : e ≤ s.size := by omega
      have hel : lo ≤ e ∧ e ≤ lo + 9 := by omega
      have hmx : max (0 : Int) ((e : Int) - 9) = (lo : Int) := by omega
      have HE := Lib.hid he
      have HLO := Lib.hid hlo
      rw [he1]
      clear hpl hplen hdp he1 he hlo
      have hc0 : 0 < e := by have := HE.out; omega
      go_wp2_with fail
      go_loop [5, 6] (fun c i => ∃ q : Nat, q ≤ e - lo ∧ i = .int .i64 ((lo : Int) + (q : Int)) ∧ c = .int .i64 ((tv pl q : Nat) : Int)) (fun _ i => e - (intOf i).toNat)
      case atStart => exact ⟨0, Nat.zero_le _, by go_num, rfl⟩
      case round =>
        obtain ⟨q, hq, rfl, rfl⟩ := hrel
        by_cases hqm : lo + q < e
        · obtain ⟨x, hx⟩ : ∃ x, x = lo + q := ⟨_, rfl⟩
          have hxs : x < s.size := by omega
          have d1 := digs_getD HDP.out (j := q) (by rw [HLEN.out]; omega)
          have d2 := tv_lt HDP.out (j := q) (by omega)
          have hb := bt_at s x hxs
          have hbp : bt pl q = (s[x]).toNat := by rw [HPL.out, bt_piece _ hqm, ← hx, hb]
          rw [hbp] at d1
          have HS := Lib.hid (show 10 * ((tv pl q : Nat) : Int) + (((s[x]).toNat : Nat) - 48 : Int) = ((tv pl (q + 1) : Nat) : Int) by
            rw [tv_succ _ (by rw [HLEN.out]; omega), hbp]; omega)
          have hxi : (lo : Int) + (q : Int) = (x : Int) := by omega
          have hxe : (x : Int) < (e : Int) := by omega
          have hxz : (x : Int) < (s.size : Int) := by omega
          have HXQ := Lib.hid hx
          rw [hxi]
          clear hb hbp hx hxi
          go_wp2_with fail
          go_round
          case rel => exact ⟨q + 1, by omega, congrArg (Value.int .i64) (by have := HXQ.out; omega), by rw [HS.out]⟩
          case measure => simp [intOf]; omega
        · obtain rfl : q = e - lo := by omega
          have hval : ((tv pl (e - lo) : Nat) : Int) = ((dg n k : Nat) : Int) := by
            rw [tv, List.take_of_length_le (by rw [HLEN.out]; exact Nat.le_refl _), HPL.out, HP.out, HN.out]
          have HVAL := Lib.hid hval
          rw [hval]
          clear hval
          have HNEWS := Lib.hid (cell_one_new wr (.int .i64 ((dg n k : Nat) : Int)) 3 0 (.int .i64 ((dg n k : Nat) : Int)) rfl)
          have hbe : Below wr.heap.size wr (wr.alloc (.cells #[.int .i64 ((dg n k : Nat) : Int)] 3)) := (Below.refl _ _).alloc (Nat.le_refl _) _
          have hsr := hbr.size
          have hownA := owns_below hown hbe
          have hbA := hbr.trans (hbe.mono hsr)
          have hbase : w.heap.size ≤ (wr.alloc (.cells #[.int .i64 ((dg n k : Nat) : Int)] 3)).heap.size := by simp; omega
          clear hown hbr hbe
          go_wp2_with (at_builtin; refine wpList_append_own _ rfl _ _ 65 rfl w.heap.size 3 i0 (.int .i64 0) 1 8 Tryd.underlying65 hi hz0 hz1 hz2 rfl (by decide) _ k _ rfl hownA ⟨wr.heap.size, 0, none⟩ 1 1 [.int .i64 ((dg n k : Nat) : Int)] rfl rfl (by
            intro j u hj
            obtain rfl : j = 0 := by
              have := (List.getElem?_eq_some_iff.1 hj).1
              simpa using this
            simp at hj
            subst hj
            exact HNEWS.out) (by intro u hu; simp at hu; subst hu; rfl) (by unfold maxLen; omega) (by omega) hbase ?_)
          intro v' w3 hown3 hgrow3 hnil3
          rw [← ilvs_succ] at hown3
          have hb3 : Below w.heap.size w w3 := hbA.grown hgrow3 hbase (fun b hb => (World.ownsRow.lt hownA b hb).1)
          have HF := Lib.hid (And.intro hown3 hb3)
          have HNIL := Lib.hid hnil3
          clear hown3 hgrow3 hb3 hnil3 hownA hbA
          go_wp2_with fail
          go_roundw
          case rel => exact ⟨k + 1, by have := HE.out; omega, congrArg (Value.int .i64) (by have := HE.out; omega), HF.out.1, Lib.hid ⟨fun h => absurd h HNIL.out, fun h => by omega⟩, HF.out.2⟩
          case measure => simp [intOf]; omega
    · have hk1 : k ≠ 0 := by omega
      obtain ⟨g, c, rfl, hg, hgl, hkc, hcell⟩ := iown_form hown (fun e => hk1 (hnil.out.1 e))
      have hln : n < B ^ k := by rw [HN.out]; exact dv_lt_pow HD.out (by rw [← HSZ.out]; omega)
      have HTR := Lib.hid (itrim_any (n := n) (by omega) hkc hln hcell)
      have HF := Lib.hid (And.intro (inum_of hgl (ln_le hln) hkc hcell) hbr)
      clear hown hcell hbr hln
      go_wp2_with fail
      refine HTR.out.mono ?_
      rintro e w4 ⟨rfl, rfl⟩
      go_wp2_with fail
      go_ret
      exact ⟨_, rfl, HF.out.1, HF.out.2⟩

end Go.Proofs.YtiocehlefpbbhaaDoor
