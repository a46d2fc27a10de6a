/-
  CheckAll of the program.
-/
import Derived.Test.YtgehldadfaonbaaDoorAC
import Derived.OwnWalk
namespace Go.Proofs.YtgehldadfaonbaaDoor
open Go.RowKit Go.Shelf Go.ChangeMaps Go.Maps

set_option maxHeartbeats 1600000 in
theorem pall_long {w : World} {ao : Option Addr} {L : List Sch} {c : Nat} (hf : L.length ≤ 9223372036854775807) (h16 : 16 < L.length) :
    Calls Tryd.prog 17 #[.slice ao L.length c] w fun e w' => e = .returned (.tuple #[.int .i64 (chkA L).1, .int .i64 (chkA L).2.1, .int .i64 (chkA L).2.2]) ∧ Below w.heap.size w w' := by
  have q : decide (16 < (L.length : Int)) = true := decide_eq_true (by omega)
  have HR := Lib.hid (show chkA L = (4, 16, -1) from if_pos h16)
  go_enter Tryd.func17, Tryd.ntmps17
  go_wp2
  go_ret3
  exact ⟨by rw [HR.out]; rfl, Below.refl _ _⟩

/-- What holds ahead of schema k. -/
structure AllJ (V : World) (L : List Sch) (mb k : Nat) (S : ByteArray → ByteArray → Bool) (W : World) : Prop where
  ch : Ch (fun j => j = mb) V W
  marks : Marks W mb k S
  seen : ∀ x, S ⟨#[]⟩ x = memB x (snames L k)
  ok : ∀ j, j < k → good (snames L j) (L.getD j default)

set_option maxHeartbeats 6400000 in
set_option maxRecDepth 100000 in
theorem pall_some {w : World} {ao : Option Addr} {L : List Sch} {c : Nat} (hR : Res w) (hL : SL w ao L) (hO : SchsOk w L) (h16 : L.length ≤ 16) :
    Calls Tryd.prog 17 #[.slice ao L.length c] w fun e w' => e = .returned (.tuple #[.int .i64 (chkA L).1, .int .i64 (chkA L).2.1, .int .i64 (chkA L).2.2]) ∧ Below w.heap.size w w' := by
  have HS := Lib.hid (show chkA L = allFrom [] L from if_neg (by omega))
  have HA := Lib.hid (And.intro hR (And.intro hL hO))
  have hmm := @run_makeMap Tryd.prog
  obtain ⟨N, hN⟩ : ∃ N, N = L.length := ⟨_, rfl⟩
  rw [← hN]
  rw [← hN] at h16
  have HN := Lib.hid hN
  have eg := enters_in
  clear hR hL hO hN
  go_enter Tryd.func17, Tryd.ntmps17
  go_wp2_with fail
  clear hmm
  obtain ⟨mb, hmb⟩ : ∃ mb, mb = w.heap.size := ⟨_, rfl⟩
  obtain ⟨U, hU⟩ : ∃ U, U = w.alloc (.map #[] 0) := ⟨_, rfl⟩
  have hm0 : Marks U mb 0 (fun _ _ => false) := by rw [hU, hmb]; exact Marks.made w
  have hwU : Below w.heap.size w U := by rw [hU]; exact (Below.refl _ _).alloc (Nat.le_refl _) _
  rw [← hU, ← hmb]
  refine (in_any U mb ⟨#[]⟩).mono ?_
  rintro e V ⟨rfl, hin, hUV, _⟩
  have hwV := hwU.trans (hUV.mono hwU.size)
  have HV := Lib.hid (And.intro (HA.out.1.of hwV) (And.intro (HA.out.2.1.below hwV) (And.intro (HA.out.2.2.below hwV) (And.intro (hm0.ch (Ch.below (S := fun _ => False) hUV) (fun h => h)) (And.intro hwV hin)))))
  have HZ := Lib.hid (show w.heap.size ≤ mb by omega)
  obtain ⟨ub, hub⟩ : ∃ ub, ub = U.heap.size := ⟨_, rfl⟩
  rw [← hub] at HV
  rw [← hub]
  clear hm0 hwU hwV hin hUV HA hub hU hmb
  go_wp2_with fail
  go_loopw [17] (fun i wr => ∃ (k : Nat) (S : ByteArray → ByteArray → Bool), k ≤ N ∧ i = .int .i64 (k : Int) ∧ Hid (AllJ V L mb k S wr)) (fun i _ => N - (intOf i).toNat)
  case atStart => exact ⟨0, fun _ _ => false, Nat.zero_le _, rfl, Lib.hid ⟨Ch.refl _ _, HV.out.2.2.2.1, fun x => rfl, fun j hj => absurd hj (Nat.not_lt_zero _)⟩⟩
  case round =>
    obtain ⟨k, S, hk, rfl, HJ⟩ := hrel
    by_cases hlt : k < N
    · have hlt2 : k < L.length := by rw [← HN.out]; exact hlt
      obtain ⟨hRV, hLV, hOV, hmV, hwV, hiV⟩ := HV.out
      have hch := HJ.out.ch
      obtain ⟨ad, ea, c0, c1, c2, c3⟩ := (hLV.map hmV hch).at hlt2
      have hok := hOV.map hmV hch k hlt2
      have hRr : Res wr := hRV.ch hch (by obtain ⟨t, fr, hr⟩ := hRV; exact hmV.cells hr)
      have hir : InAt wr ub mb ⟨#[]⟩ := hiV.ch hch (hmV.cells hiV.1) (hmV.cells hiV.2)
      have hsc := HJ.out.marks
      have HAT := Lib.hid (all_at L [] k hlt2 HJ.out.ok)
      have HSN := Lib.hid (snames_succ hlt2)
      obtain ⟨s, hs⟩ : ∃ s, s = L.getD k default := ⟨_, rfl⟩
      rw [← hs] at c0 c1 c2 c3 hok HAT HSN
      obtain ⟨W1, hW1⟩ : ∃ W1, W1 = wr.alloc (.cells #[.string s.name, .bool s.pub, .int .i64 s.many, .slice s.ca s.cols.length s.cc] 24) := ⟨_, rfl⟩
      have hi1 : Below wr.heap.size wr W1 := by rw [hW1]; exact (Below.refl _ _).alloc (Nat.le_refl _) _
      have hat : SchAt W1 wr.heap.size s := by rw [hW1]; exact heap_alloc_new wr _
      have e0 := hat.c0
      have e1 := hat.c1
      have e2 := hat.c2
      have e3 := hat.c3
      have HX := Lib.hid (And.intro hi1 (And.intro hat (And.intro (hok.below hi1).short (And.intro (hsc.ch (Ch.below (S := fun _ => False) hi1) (fun h => h)) (hir.ch (Ch.below (S := fun _ => False) hi1) (fun h => h) (fun h => h))))))
      have HC := Lib.hid (check_any2 (hRr.of hi1) (hok.below hi1).cl (hok.below hi1).ok)
      have HCC := Lib.hid hs
      rw [ea]
      obtain ⟨v, hv⟩ : ∃ v, v = (chkS s).1 := ⟨_, rfl⟩
      obtain ⟨u, hu⟩ : ∃ u, u = (chkS s).2 := ⟨_, rfl⟩
      rw [← hv, ← hu] at HC HAT
      have HVS := Lib.hid hv
      clear hi1 hat hRV hLV hOV hmV hwV hiV hch hok hRr hir hsc hs ea hlt2 hv hu
      subst hW1
      by_cases hz : v = 0
      · have hq : (v != 0) = false := by rw [hz]; rfl
        have HZV := Lib.hid hz
        clear hz
        go_wp2_with fail
        refine HC.out.mono ?_
        rintro e w1 ⟨rfl, h1⟩
        have e0 := (HX.out.2.1.below h1).c0
        have HIN := Lib.hid (in1_any (x := s.name) (HX.out.2.2.2.2.ch (Ch.below (S := fun _ => False) h1) (fun h => h) (fun h => h)) (HX.out.2.2.2.1.ch (Ch.below (S := fun _ => False) h1) (fun h => h)) (Nat.zero_le _) HX.out.2.2.1 (by unfold maxLen; omega))
        rw [HJ.out.seen] at HIN
        have HB1 := Lib.hid (HX.out.1.trans (h1.mono HX.out.1.size))
        cases hd : memB s.name (snames L k) with
        | true =>
          rw [hd] at HIN
          have HR := Lib.hid (show chkA L = (8, (k : Int), -1) by
            have := HAT.out.2 HZV.out (by simpa using hd)
            rw [HS.out, this]; simp)
          clear h1 HX HC hd HAT HSN c0 c1 c2 c3 e1 e2 e3
          go_wp2_with fail
          refine HIN.out.mono ?_
          rintro e w2 ⟨rfl, _, h2⟩
          have HF := Lib.hid (show Below w.heap.size w w2 from HV.out.2.2.2.2.1.trans ((HJ.out.ch.trans ((Ch.below HB1.out).trans h2)).to_below HV.out.2.2.2.2.1.size (fun j e => by rw [e]; exact HZ.out)))
          clear h2 HIN HJ HB1 e0
          go_wp2_with fail
          go_ret3
          exact ⟨by rw [HR.out]; rfl, HF.out⟩
        | false =>
          rw [hd] at HIN
          have HD := Lib.hid hd
          clear h1 HX HC hd HAT c0 c1 c2 c3 e1 e2 e3
          go_wp2_with fail
          refine HIN.out.mono ?_
          rintro e w2 ⟨rfl, hm2, h2⟩
          have HJ2 := Lib.hid (show AllJ V L mb (k + 1) (putS S ⟨#[]⟩ s.name) w2 from ⟨HJ.out.ch.trans ((Ch.below HB1.out).trans h2), hm2, fun x => by
            rw [HSN.out, memB_snoc]; unfold putS; rw [HJ.out.seen]; simp, fun j hj => by
            rcases Nat.lt_succ_iff_lt_or_eq.1 hj with h | rfl
            · exact HJ.out.ok j h
            · rw [← HCC.out]; exact ⟨HVS.out.symm.trans HZV.out, HD.out⟩⟩)
          clear h2 hm2 HIN HJ HB1 e0
          go_wp2_with fail
          go_roundw
          case rel => exact ⟨k + 1, putS S ⟨#[]⟩ s.name, by omega, by go_num, HJ2.out⟩
          case measure => simp [intOf]; omega
      · have hq : (v != 0) = true := by rw [bne_iff_ne]; exact hz
        have HR := Lib.hid (show chkA L = (v, (k : Int), u) by
          have := HAT.out.1 hz
          rw [HS.out, this]; simp)
        clear hz HAT HSN HVS HCC
        go_wp2_with fail
        refine HC.out.mono ?_
        rintro e w1 ⟨rfl, h1⟩
        have HF := Lib.hid (show Below w.heap.size w w1 from HV.out.2.2.2.2.1.trans ((HJ.out.ch.trans (Ch.below (HX.out.1.trans (h1.mono HX.out.1.size)))).to_below HV.out.2.2.2.2.1.size (fun j e => by rw [e]; exact HZ.out)))
        clear h1 HX HC HJ c0 c1 c2 c3 e0 e1 e2 e3
        go_wp2_with fail
        go_ret3
        exact ⟨by rw [HR.out]; rfl, HF.out⟩
    · obtain rfl : N = k := by omega
      have HR := Lib.hid (show chkA L = (0, -1, -1) by
        rw [HS.out]
        exact all_all L [] (fun j hj => HJ.out.ok j (by rw [HN.out]; exact hj)))
      have HF := Lib.hid (show Below w.heap.size w wr from HV.out.2.2.2.2.1.trans (HJ.out.ch.to_below HV.out.2.2.2.2.1.size (fun j e => by rw [e]; exact HZ.out)))
      clear HJ
      go_wp2_with fail
      go_ret3
      exact ⟨by rw [HR.out]; rfl, HF.out⟩
theorem pall_any {w : World} {ao : Option Addr} {L : List Sch} {c : Nat} (hR : Res w) (hL : SL w ao L) (hO : SchsOk w L) (hf : L.length ≤ 9223372036854775807) :
    Calls Tryd.prog 17 #[.slice ao L.length c] w fun e w' => e = .returned (.tuple #[.int .i64 (chkA L).1, .int .i64 (chkA L).2.1, .int .i64 (chkA L).2.2]) ∧ Below w.heap.size w w' := by
  by_cases h : 16 < L.length
  · exact pall_long hf h
  · exact pall_some hR hL hO (by omega)

end Go.Proofs.YtgehldadfaonbaaDoor
