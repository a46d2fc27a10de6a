/-
  fold over the pieces of a text into a list.
-/
import Derived.Test.YtpkbppfgmpcpcaaGreatDoorB15
import Derived.Test.YtpkbppfgmpcpcaaGreatDoorB3
namespace Go.Proofs.YtpkbppfgmpcpcaaGreatDoor
open Go.RowKit Go.Shelf
attribute [local go_sem] Oper.semAt_some

set_option maxHeartbeats 3200000 in
set_option maxRecDepth 100000 in
theorem fold_cut {bB bN c : Nat} {s : ByteArray} {w : World} (hne : bN ≠ bB) (hc : 0 < c) (hc1 : c ≤ 1000) (hs : s.size ≤ 140737488351232) (hn : np c s.size ≤ 999999)
    (hp : PSt bB bN s c 0 w) :
    Calls Tryz.prog 107 #[.func (.func 189) #[] #[.pointer (some ⟨bB, 0, none⟩), .pointer (some ⟨bN, 0, none⟩)], .slice none 0 0, .func (.func 109) #[] #[]] w fun e w' =>
      ∃ v, e = .returned v ∧ w'.ownsRow (w.heap.size + 4) 22 1 v (np c s.size) (pcs s c (np c s.size)) ∧ Ch (fun j => j = bB) w w' := by
  refine (callsIn_wide (n := 5)).1 ?_
  refine callsIn_of_wp_marks Tryz.func107 rfl trivial ?_ rfl
  simp only [Tryz.ntmps107, List.size_toArray, List.length_cons, List.length_nil, Nat.reduceAdd, Nat.reduceSub, Array.replicate_succ, Array.replicate_zero, List.push_toArray, List.append_toArray, List.nil_append, List.cons_append]
  have hlt1 := hp.1.lt
  have hlt2 := hp.2.lt
  gi_wp2
  have b1 := (Boxed.new w 25 (.slice none 0 0)).alloc (.cells #[.func (.func 109) #[] #[]] 104)
  have b2 := Boxed.new (w.alloc (.cells #[.slice none 0 0] 25)) 104 (.func (.func 109) #[] #[])
  rw [World.size_alloc] at b2
  have hsz : ((w.alloc (.cells #[.slice none 0 0] 25)).alloc (.cells #[.func (.func 109) #[] #[]] 104)).heap.size = w.heap.size + 2 := by simp
  have hch : ∀ S, Ch S w ((w.alloc (.cells #[.slice none 0 0] 25)).alloc (.cells #[.func (.func 109) #[] #[]] 104)) := fun S => (Ch.alloc S w _).trans (Ch.alloc S _ _)
  have hp2 : PSt bB bN s c 0 ((w.alloc (.cells #[.slice none 0 0] 25)).alloc (.cells #[.func (.func 109) #[] #[]] 104)) := ⟨((hch (fun _ => False)).boxed (fun h => h) hp.1), ((hch (fun _ => False)).boxed (fun h => h) hp.2)⟩
  generalize (w.alloc (.cells #[.slice none 0 0] 25)).alloc (.cells #[.func (.func 109) #[] #[]] 104) = w2 at b1 b2 hsz hch hp2 ⊢
  refine wpIn_rangeCh (by omega) (gf := 189) (lb := #[.pointer (some ⟨bB, 0, none⟩), .pointer (some ⟨bN, 0, none⟩)]) rfl (enters_of Tryz.func189 (by kernel_rfl) rfl)
    (fun j => j = bB) (fun j => j = w.heap.size ∨ w.heap.size + 4 ≤ j) (fun k => #[.string (piece s c k)]) (fun _ => rfl) (np c s.size) (PSt bB bN s c)
    (fun k W => (∃ v, Boxed W w.heap.size 25 v ∧ W.ownsRow (w.heap.size + 4) 22 1 v k (pcs s c k)) ∧ Boxed W (w.heap.size + 1) 104 (.func (.func 109) #[] #[]) ∧ Ch (fun j => j = bB) w W)
    (fun j hj => by subst hj; omega) ⟨by omega, by omega⟩
    (fun k W W' h hc => ⟨hc.boxed (by omega) h.1, hc.boxed (by omega) h.2⟩)
    (fun k W W' h hc => ⟨(by
        obtain ⟨v, h1, h2⟩ := h.1
        exact ⟨v, hc.boxed (by omega) h1, row_ch h2 hc (fun j hj => by omega)⟩), hc.boxed (by omega) h.2.1, ⟨hc.os.trans h.2.2.os, hc.tape.trans h.2.2.tape, hc.output.trans h.2.2.output, Nat.le_trans h.2.2.size hc.size, fun j hj hs => (hc.block j (Nat.lt_of_lt_of_le hj h.2.2.size) (by omega)).trans (h.2.2.block j hj hs)⟩⟩)
    (fun l J W hJ hY s0 h0 => pieces_calls hne (by omega) hc hc1 hs J hJ hY W s0 h0) hp2 ⟨⟨_, b1, World.ownsRow_nil _ _ _ _⟩, b2, hch _⟩
    (fun k => { tmps := #[.func (.func 189) #[] #[.pointer (some ⟨bB, 0, none⟩), .pointer (some ⟨bN, 0, none⟩)], .slice none 0 0, .func (.func 109) #[] #[], undef, .pointer (some ⟨w.heap.size, 0, none⟩), .pointer (some ⟨w.heap.size + 1, 0, none⟩), .slice none 0 0, .string (piece s c k), .func (.func 189) #[] #[.pointer (some ⟨bB, 0, none⟩), .pointer (some ⟨bN, 0, none⟩)], .string (piece s c k), undef, undef, undef, undef, undef], defers := [] }) ?assign ?body ?done
  case assign =>
    intro l k W K hK
    gi_wp2
    exact hK
  case body =>
    rintro l k W hsW ⟨⟨v, hr, hrow⟩, hf, hc⟩ hk
    have HS := Lib.hid (cut_step hrow (by omega) (by omega) (piece s c k))
    obtain ⟨ao, m, cc, rfl⟩ := slice_of_row hrow
    have c0 := hr.cell
    have c1 := hf.cell
    have HR := Lib.hid hr
    have HF := Lib.hid hf
    have HCH := Lib.hid hc
    clear hr hf hc b1 b2 hp2 hch hp hrow
    gi_wp2_with fail
    refine ⟨trivial, (CallsIn.inRound l (callsIn_wide.2 HS.out)).mono ?_⟩
    rintro e W2 ⟨v', rfl, hrow2, hch2⟩
    have HB := Lib.hid hch2
    have HR2 := Lib.hid (hch2.boxed (by omega) HR.out)
    have HF2 := Lib.hid (hch2.boxed (by omega) HF.out)
    have HROW := Lib.hid hrow2
    obtain ⟨ao2, m2, cc2, rfl⟩ := slice_of_row hrow2
    have d0 := HR2.out.cell
    have d1 := HR2.out.frozen
    clear hch2 hrow2 c0 c1
    gi_wp2_with fail
    refine ⟨(HB.out.mono (fun j _ e => .inr e)).trans (Ch.setCell _ W2 _ (.inl rfl)), ⟨_, HR2.out.set _, ?_⟩, HF2.out.other (by omega) _, ?_⟩
    · rw [pcs_succ]
      exact ownsRow_setCell_below HROW.out (by show w.heap.size < _; omega) _
    · have h3 := HCH.out
      exact ⟨HB.out.os.trans h3.os, HB.out.tape.trans h3.tape, HB.out.output.trans h3.output, by have := HB.out.size; have := h3.size; simp [World.setCell]; omega, fun j hj hs => by
        rw [Below.heap_setCell _ _ _ _ (show j ≠ w.heap.size by omega), HB.out.block j (by have := h3.size; omega) (by omega)]
        exact h3.block j hj hs⟩
  case done =>
    rintro W ⟨⟨v, hr, hrow⟩, hf, hc⟩ hK
    have c0 := hr.cell
    have HROW := Lib.hid hrow
    obtain ⟨ao, m, cc, rfl⟩ := slice_of_row hrow
    clear hrow
    gi_wp2
    refine ⟨by simp, .inl ⟨_, _, rfl, run_takeDeferred hK, ?_⟩⟩
    exact ⟨_, results_tmp rfl _ _ _, _, rfl, ownsRow_putObj HROW.out _ hK rfl, ⟨hc.os, hc.tape, hc.output, by simpa using hc.size, fun j hj hs => (World.putObj_heap_other (by omega)).trans (hc.block j hj hs)⟩⟩

end Go.Proofs.YtpkbppfgmpcpcaaGreatDoor
