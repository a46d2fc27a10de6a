/-
  Package dist: Delta, Distance, Same.
-/
import Derived.Test.YtofanopnibbaeaaGreatDoorZ12
namespace Go.Proofs.YtofanopnibbaeaaGreatDoor
open Go.RowKit NV Go.Maps Go.Sort Go.Shelf
open Go.Lib (decDigits)

/-- What Delta returns. -/
def dltE (P Q : List MI) (sf : ByteArray) : ByteArray × Nat :=
  if bE P Q ≠ 0 then (⟨#[]⟩, bE P Q) else if eS sf ≠ 0 then (⟨#[]⟩, eS sf) else oQ (dltO P Q (ratS sf))
theorem bE_zero {P Q : List MI} (h : bE P Q = 0) : chkZ P = 0 ∧ chkZ Q = 0 := by
  unfold bE at h
  by_cases h0 : chkZ P = 0
  · rw [if_neg (by omega)] at h; exact ⟨h0, h⟩
  · rw [if_pos h0] at h; exact absurd h h0
theorem eS_zero {s : ByteArray} (h : eS s = 0) : s = qstr (ratS s) ∧ QOk (ratS s) ∧ 0 ≤ ratS s := by
  unfold eS at h
  by_cases h0 : rchk s = 0
  · rw [if_neg (by omega)] at h
    refine ⟨(ratS_ok h0).1, (ratS_ok h0).2, ?_⟩
    by_cases h5 : sgnQ (ratS s) < 0
    · rw [if_pos h5] at h; omega
    · have h6 : cmpQ 0 (ratS s) ≤ 0 := by rw [cmpQ_neg]; unfold sgnQ at h5; omega
      exact cmpQ_le.1 h6
  · rw [if_pos h0] at h; exact absurd h h0

set_option maxHeartbeats 3200000 in
set_option maxRecDepth 100000 in
theorem Delta_any {P Q : List MI} {N M c1 c2 : Nat} {a1 a2 : Option Addr} {sf : ByteArray} {w : World} (hp : MR w a1 N P) (hq : MR w a2 M Q) (hN : N ≤ 1000) (hM : M ≤ 1000) (hlp : ML2 P) (hlq : ML2 Q) (hsf : sf.size ≤ 1000000) (htab : Tab w) (hm : ML w) :
    Calls Tryz.prog 20 #[.slice a1 N c1, .slice a2 M c2, .string sf] w (PR (dltE P Q sf) w) := by
  have hbx := (Below.refl w.heap.size w).alloc (Nat.le_refl _) (.cells #[.string sf] 27)
  have HBX := Lib.hid hbx
  have HF := Lib.hid (show ∀ W, Below (w.alloc (.cells #[.string sf] 27)).heap.size (w.alloc (.cells #[.string sf] 27)) W → W.cell? ⟨w.heap.size, 0, none⟩ = some (.string sf) from fun W hb => (hb.cell (p := ⟨w.heap.size, 0, none⟩) (by simp)).trans (by rw [Lib.cell_of_heap (heap_alloc_new w _)]; rfl))
  have hlw : w.heap.size < (w.alloc (.cells #[.string sf] 27)).heap.size := by simp
  obtain ⟨wx, hwx⟩ : ∃ wx, wx = w.alloc (.cells #[.string sf] 27) := ⟨_, rfl⟩
  rw [← hwx] at hbx HBX HF hlw
  have HWX := Lib.hid hwx
  clear hwx
  have HLW := Lib.hid hlw
  have HTM := Lib.hid (fun W (hb : Below wx.heap.size wx W) => And.intro (htab.below (hbx.trans (hb.mono hbx.size))) (ml_keep hm (ml_pos hm) (hbx.trans (hb.mono hbx.size))))
  have HMR := Lib.hid (fun W (hb : Below wx.heap.size wx W) => And.intro (hp.below (hbx.trans (hb.mono hbx.size))) (hq.below (hbx.trans (hb.mono hbx.size))))
  have HCB := Lib.hid (checkBoth_any (c1 := c1) (c2 := c2) (HMR.out wx (Below.refl _ _)).1 (HMR.out wx (Below.refl _ _)).2 hN hM hlp hlq (HTM.out wx (Below.refl _ _)).1 (HTM.out wx (Below.refl _ _)).2)
  have HCN := Lib.hid (fun W (hb : Below wx.heap.size wx W) => cnn_any sf hsf W (HTM.out W hb).2)
  unfold PR
  obtain ⟨T, hT⟩ : ∃ T, T = dltE P Q sf := ⟨_, rfl⟩
  rw [← hT]
  unfold dltE at hT
  have hlenP := hp.len
  clear hp hq hbx hlw htab hm
  by_cases h0 : bE P Q = 0
  · rw [if_neg (by omega)] at hT
    rw [h0] at HCB
    by_cases h1 : eS sf = 0
    · rw [if_neg (by omega)] at hT
      rw [h1] at HCN
      obtain ⟨hsf1, hsf2, _⟩ := eS_zero h1
      obtain ⟨hcp, hcq⟩ := bE_zero h0
      obtain ⟨hop, _, _, _⟩ := chk_ok hcp
      obtain ⟨hoq, hsq, _, _⟩ := chk_ok hcq
      have HBY := Lib.hid (fun W (hb : Below wx.heap.size wx W) => byKey_any (cap := c2) (HMR.out W hb).2 hM hsq hlq)
      have e1 : ∀ args w, (callFunc 83 args).run Tryz.prog w = .ok (.enter 83 args) w := enters_of Tryz.func83 (by kernel_rfl) rfl
      have HFOLD := Lib.hid (show ∀ (W : World) (b bo : Nat), Below wx.heap.size wx W → MapZ W b M Q → W.cell? ⟨bo, 0, none⟩ = some (.map (some b)) → bo < W.heap.size → Calls Tryz.prog 82 #[.slice a1 N c1, .string ⟨#[48]⟩, .func (.func 83) #[] #[.pointer (some ⟨bo, 0, none⟩), .pointer (some ⟨w.heap.size, 0, none⟩)]] W (PR T W) from fun W b bo hb hmz hbo hbl => by
        have h := foldN_any (lb := #[.pointer (some ⟨bo, 0, none⟩), .pointer (some ⟨w.heap.size, 0, none⟩)]) (cap := c1) (s0 := 0) (f := dltF P Q (ratS sf)) e1 (HMR.out W hb).1 (by omega) (fun k s x W2 hk hx hrun hb2 => by
          have hb3 := hb.trans (hb2.mono hb.size)
          obtain ⟨hx1, hx2⟩ := hop.at hx
          obtain ⟨hv1, hv2⟩ := vQ_ok hoq (kZ x)
          have hsz := (hlp x (List.mem_of_getElem? hx)).1
          have hf2 := HF.out W2 hb3
          rw [hsf1] at hf2
          have h := Delta1_any (key := x.1) (s := s) (p := qZ P k) (q := vQ Q (kZ x)) (f := ratS sf) W2 (hmz.below hb2) hv1 hsz ((hb2.cell (p := ⟨bo, 0, none⟩) hbl).trans hbo) (Nat.lt_of_lt_of_le hbl hb2.size) hf2 (Nat.lt_of_lt_of_le HLW.out hb3.size)
            (runF_ok (fun _ _ _ _ h => dltF_ok h) hrun) hx2 hv2 hsf2 (HTM.out W2 hb3).1 (HTM.out W2 hb3).2
          rw [← hx1] at h
          have e2 : dltF P Q (ratS sf) k s = (exO (qZ P k) (vQ Q (kZ x)) (ratS sf)).bind fun d => okQ (s + d) := by unfold dltF; rw [getZ_of hx]
          rw [e2]; exact h)
        rw [q0Z] at h
        rw [hT]
        unfold dltO
        rw [hlenP]; exact h)
      clear hT h0 h1 hsf1 hsf2 hcp hcq hop hoq hsq e1 hsf hlp hlq hlenP HMR HTM
      go_enter Tryz.func20, Tryz.ntmps20
      go_wp2_with fail
      rw [← HWX.out]
      refine HCB.out.mono ?_
      rintro e w1 ⟨rfl, hb⟩
      have HB := Lib.hid hb
      have c0 := HF.out w1 hb
      clear hb HCB
      go_wp2_with fail
      refine (HCN.out _ HB.out).mono ?_
      rintro e w2 ⟨rfl, hb⟩
      have HB2 := Lib.hid (HB.out.trans (hb.mono HB.out.size))
      clear hb HCN HB c0
      go_wp2_with fail
      refine (HBY.out _ HB2.out).mono ?_
      rintro e w3 ⟨rfl, hmz, hb⟩
      have HB3 := Lib.hid (HB2.out.trans (hb.mono HB2.out.size))
      have hal := (Below.refl w3.heap.size w3).alloc (Nat.le_refl _) (.cells #[.map (some w2.heap.size)] 97)
      have HB4 := Lib.hid (HB3.out.trans (hal.mono HB3.out.size))
      have HFD := Lib.hid (HFOLD.out _ w2.heap.size w3.heap.size HB4.out (hmz.below hal) (by rw [Lib.cell_of_heap (heap_alloc_new w3 _)]; rfl) (by simp))
      clear hb hmz hal HBY HB2 HB3 HFOLD HF
      go_wp2_with fail
      refine HFD.out.mono ?_
      rintro e w5 ⟨rfl, hb⟩
      have HB5 := Lib.hid (HBX.out.trans ((HB4.out.trans (hb.mono HB4.out.size)).mono HBX.out.size))
      clear hb HFD HB4
      go_wp2_with fail
      go_ret2
      exact ⟨rfl, HB5.out⟩
    · rw [if_pos h1] at hT
      have hz := errneZ h1
      obtain rfl := hT
      generalize eS sf = d at *
      clear h0 h1 hsf hlp hlq hlenP HMR HTM
      go_enter Tryz.func20, Tryz.ntmps20
      go_wp2_with fail
      rw [← HWX.out]
      refine HCB.out.mono ?_
      rintro e w1 ⟨rfl, hb⟩
      have HB := Lib.hid hb
      have c0 := HF.out w1 hb
      clear hb HCB
      go_wp2_with fail
      refine (HCN.out _ HB.out).mono ?_
      rintro e w2 ⟨rfl, hb⟩
      have HB2 := Lib.hid (HBX.out.trans ((HB.out.trans (hb.mono HB.out.size)).mono HBX.out.size))
      clear hb HCN HB c0 HF
      go_wp2_with fail
      go_ret2
      exact ⟨rfl, HB2.out⟩
  · rw [if_pos h0] at hT
    have hz := errneZ h0
    obtain rfl := hT
    generalize bE P Q = d at *
    clear h0 hsf hlp hlq hlenP HMR HTM HCN
    go_enter Tryz.func20, Tryz.ntmps20
    go_wp2_with fail
    rw [← HWX.out]
    refine HCB.out.mono ?_
    rintro e w1 ⟨rfl, hb⟩
    have HB := Lib.hid (HBX.out.trans (hb.mono HBX.out.size))
    clear hb HCB HF
    go_wp2_with fail
    go_ret2
    exact ⟨rfl, HB.out⟩

set_option maxHeartbeats 1600000 in
set_option maxRecDepth 100000 in
theorem Distance_any {P Q : List MI} {N M c1 c2 : Nat} {a1 a2 : Option Addr} {w : World} (hp : MR w a1 N P) (hq : MR w a2 M Q) (hN : N ≤ 1000) (hM : M ≤ 1000) (hlp : ML2 P) (hlq : ML2 Q) (htab : Tab w) (hm : ML w) :
    Calls Tryz.prog 21 #[.slice a1 N c1, .slice a2 M c2] w (PR (dltE P Q ⟨#[49]⟩) w) := by
  have HD := Lib.hid (Delta_any (c1 := c1) (c2 := c2) (sf := ⟨#[49]⟩) hp hq hN hM hlp hlq (by decide) htab hm)
  unfold PR at *
  generalize dltE P Q ⟨#[49]⟩ = T at *
  clear hp hq hlp hlq htab hm
  go_enter Tryz.func21, Tryz.ntmps21
  go_wp2_with fail
  refine HD.out.mono ?_
  rintro e w1 ⟨rfl, hb⟩
  have HB := Lib.hid hb
  clear hb HD
  go_wp2_with fail
  go_ret2
  exact ⟨rfl, HB.out⟩

end Go.Proofs.YtofanopnibbaeaaGreatDoor
