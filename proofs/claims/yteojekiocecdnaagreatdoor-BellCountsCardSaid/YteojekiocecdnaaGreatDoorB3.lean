/-
  fold over the pieces of a text.
-/
import Derived.Test.YteojekiocecdnaaGreatDoorB2
namespace Go.Proofs.YteojekiocecdnaaGreatDoor
open Go.RowKit Go.Shelf
attribute [local go_sem] Oper.semAt_some

set_option maxHeartbeats 3200000 in
set_option maxRecDepth 100000 in
theorem fold_num {bB bN c g B : Nat} {s : ByteArray} {w : World} (hne : bN ≠ bB) (hc : 0 < c) (hc1 : c ≤ 1000) (hs : s.size ≤ 140737488351232) (hB : B ≤ bB)
    (hp : PSt bB bN s c 0 w) (vs : Nat → ByteArray) (eg : ∀ args w, (callFunc g args).run Tryz.prog w = .ok (.enter g args) w)
    (hstep : ∀ k W, k < np c s.size → Below B w W → Calls Tryz.prog g #[.string (vs k), .string (piece s c k)] W fun e W' => e = .returned (.string (vs (k + 1))) ∧ Below W.heap.size W W') :
    Calls Tryz.prog 179 #[.func (.func 224) #[] #[.pointer (some ⟨bB, 0, none⟩), .pointer (some ⟨bN, 0, none⟩)], .string (vs 0), .func (.func g) #[] #[]] w fun e w' => e = .returned (.string (vs (np c s.size))) ∧ Ch (fun j => j = bB) w w' := by
  refine (callsIn_wide (n := 5)).1 ?_
  refine callsIn_of_wp_marks Tryz.func179 rfl trivial ?_ rfl
  simp only [Tryz.ntmps179, List.size_toArray, List.length_cons, List.length_nil, Nat.reduceAdd, Nat.reduceSub, Array.replicate_succ, Array.replicate_zero, List.push_toArray, List.append_toArray, List.nil_append, List.cons_append]
  have hlt1 := hp.1.lt
  have hlt2 := hp.2.lt
  have HST := Lib.hid hstep
  clear hstep
  gi_wp2
  have b1 := (Boxed.new w 22 (.string (vs 0))).alloc (.cells #[.func (.func g) #[] #[]] 213)
  have b2 := Boxed.new (w.alloc (.cells #[.string (vs 0)] 22)) 213 (.func (.func g) #[] #[])
  rw [World.size_alloc] at b2
  have hsz : ((w.alloc (.cells #[.string (vs 0)] 22)).alloc (.cells #[.func (.func g) #[] #[]] 213)).heap.size = w.heap.size + 2 := by simp
  have hch : ∀ S, Ch S w ((w.alloc (.cells #[.string (vs 0)] 22)).alloc (.cells #[.func (.func g) #[] #[]] 213)) := fun S => (Ch.alloc S w _).trans (Ch.alloc S _ _)
  have hp2 : PSt bB bN s c 0 ((w.alloc (.cells #[.string (vs 0)] 22)).alloc (.cells #[.func (.func g) #[] #[]] 213)) := ⟨((hch (fun _ => False)).boxed (fun h => h) hp.1), ((hch (fun _ => False)).boxed (fun h => h) hp.2)⟩
  generalize (w.alloc (.cells #[.string (vs 0)] 22)).alloc (.cells #[.func (.func g) #[] #[]] 213) = w2 at b1 b2 hsz hch hp2 ⊢
  refine wpIn_rangeCh (by omega) (gf := 224) (lb := #[.pointer (some ⟨bB, 0, none⟩), .pointer (some ⟨bN, 0, none⟩)]) rfl (enters_of Tryz.func224 (by kernel_rfl) rfl)
    (fun j => j = bB) (fun j => j = w.heap.size) (fun k => #[.string (piece s c k)]) (fun _ => rfl) (np c s.size) (PSt bB bN s c)
    (fun k W => Boxed W w.heap.size 22 (.string (vs k)) ∧ Boxed W (w.heap.size + 1) 213 (.func (.func g) #[] #[]) ∧ Ch (fun j => j = bB) w W)
    (fun j hj => by subst hj; omega) ⟨by omega, by omega⟩
    (fun k W W' h hc => ⟨hc.boxed (by omega) h.1, hc.boxed (by omega) h.2⟩)
    (fun k W W' h hc => ⟨hc.boxed (by omega) h.1, hc.boxed (by omega) h.2.1, ⟨hc.os.trans h.2.2.os, hc.tape.trans h.2.2.tape, hc.output.trans h.2.2.output, Nat.le_trans h.2.2.size hc.size, fun j hj hs => (hc.block j (Nat.lt_of_lt_of_le hj h.2.2.size) (by omega)).trans (h.2.2.block j hj hs)⟩⟩)
    (fun l J W hJ hY s0 h0 => pieces_calls hne (by omega) hc hc1 hs J hJ hY W s0 h0) hp2 ⟨b1, b2, hch _⟩
    (fun k => { tmps := #[.func (.func 224) #[] #[.pointer (some ⟨bB, 0, none⟩), .pointer (some ⟨bN, 0, none⟩)], .string (vs 0), .func (.func g) #[] #[], undef, .pointer (some ⟨w.heap.size, 0, none⟩), .pointer (some ⟨w.heap.size + 1, 0, none⟩), .string ⟨#[]⟩, .string (piece s c k), .func (.func 224) #[] #[.pointer (some ⟨bB, 0, none⟩), .pointer (some ⟨bN, 0, none⟩)], .string (piece s c k), undef, undef, undef, undef, undef], defers := [] }) ?assign ?body ?done
  case assign =>
    intro l k W K hK
    gi_wp2
    exact hK
  case body =>
    rintro l k W hsW ⟨hr, hf, hc⟩ hk
    have HS := Lib.hid (HST.out k W hk (hc.to_below (by omega) (fun j hj => by subst hj; exact hB)))
    have c0 := hr.cell
    have c1 := hf.cell
    have HR := Lib.hid hr
    have HF := Lib.hid hf
    have HCH := Lib.hid hc
    clear hr hf hc b1 b2 hp2 hch hp
    gi_wp2_with fail
    refine ⟨trivial, (CallsIn.inRound l (callsIn_wide.2 HS.out)).mono ?_⟩
    rintro e W2 ⟨rfl, hb⟩
    have HB := Lib.hid hb
    have HR2 := Lib.hid ((Ch.below (S := fun _ => False) hb).boxed (fun h => h) HR.out)
    have HF2 := Lib.hid ((Ch.below (S := fun _ => False) hb).boxed (fun h => h) HF.out)
    have d0 := HR2.out.cell
    have d1 := HR2.out.frozen
    clear hb c0 c1
    gi_wp2_with fail
    refine ⟨(Ch.below HB.out).trans (Ch.setCell _ W2 _ rfl), HR2.out.set _, HF2.out.other (by omega) _, ?_⟩
    have h3 := HCH.out
    exact ⟨HB.out.os.trans h3.os, HB.out.tape.trans h3.tape, HB.out.output.trans h3.output, by have := HB.out.size; have := h3.size; simp [World.setCell]; omega, fun j hj hs => by
      rw [Below.heap_setCell _ _ _ _ (show j ≠ w.heap.size by omega), HB.out.block j (by have := h3.size; omega)]
      exact h3.block j hj hs⟩
  case done =>
    rintro W ⟨hr, hf, hc⟩ hK
    have c0 := hr.cell
    gi_wp2
    refine ⟨by simp, .inl ⟨_, _, rfl, run_takeDeferred hK, ?_⟩⟩
    exact ⟨_, results_tmp rfl _ _ _, rfl, ⟨hc.os, hc.tape, hc.output, by simpa using hc.size, fun j hj hs => (World.putObj_heap_other (by omega)).trans (hc.block j hj hs)⟩⟩

set_option maxHeartbeats 3200000 in
set_option maxRecDepth 100000 in
theorem fold_int {bB bN c g B : Nat} {s : ByteArray} {w : World} (hne : bN ≠ bB) (hc : 0 < c) (hc1 : c ≤ 1000) (hs : s.size ≤ 140737488351232) (hB : B ≤ bB)
    (hp : PSt bB bN s c 0 w) (vs : Nat → Int) (eg : ∀ args w, (callFunc g args).run Tryz.prog w = .ok (.enter g args) w)
    (hstep : ∀ k W, k < np c s.size → Below B w W → Calls Tryz.prog g #[.int .i64 (vs k), .string (piece s c k)] W fun e W' => e = .returned (.int .i64 (vs (k + 1))) ∧ Below W.heap.size W W') :
    Calls Tryz.prog 225 #[.func (.func 224) #[] #[.pointer (some ⟨bB, 0, none⟩), .pointer (some ⟨bN, 0, none⟩)], .int .i64 (vs 0), .func (.func g) #[] #[]] w fun e w' => e = .returned (.int .i64 (vs (np c s.size))) ∧ Ch (fun j => j = bB) w w' := by
  refine (callsIn_wide (n := 5)).1 ?_
  refine callsIn_of_wp_marks Tryz.func225 rfl trivial ?_ rfl
  simp only [Tryz.ntmps225, List.size_toArray, List.length_cons, List.length_nil, Nat.reduceAdd, Nat.reduceSub, Array.replicate_succ, Array.replicate_zero, List.push_toArray, List.append_toArray, List.nil_append, List.cons_append]
  have hlt1 := hp.1.lt
  have hlt2 := hp.2.lt
  have HST := Lib.hid hstep
  clear hstep
  gi_wp2
  have b1 := (Boxed.new w 3 (.int .i64 (vs 0))).alloc (.cells #[.func (.func g) #[] #[]] 248)
  have b2 := Boxed.new (w.alloc (.cells #[.int .i64 (vs 0)] 3)) 248 (.func (.func g) #[] #[])
  rw [World.size_alloc] at b2
  have hsz : ((w.alloc (.cells #[.int .i64 (vs 0)] 3)).alloc (.cells #[.func (.func g) #[] #[]] 248)).heap.size = w.heap.size + 2 := by simp
  have hch : ∀ S, Ch S w ((w.alloc (.cells #[.int .i64 (vs 0)] 3)).alloc (.cells #[.func (.func g) #[] #[]] 248)) := fun S => (Ch.alloc S w _).trans (Ch.alloc S _ _)
  have hp2 : PSt bB bN s c 0 ((w.alloc (.cells #[.int .i64 (vs 0)] 3)).alloc (.cells #[.func (.func g) #[] #[]] 248)) := ⟨((hch (fun _ => False)).boxed (fun h => h) hp.1), ((hch (fun _ => False)).boxed (fun h => h) hp.2)⟩
  generalize (w.alloc (.cells #[.int .i64 (vs 0)] 3)).alloc (.cells #[.func (.func g) #[] #[]] 248) = w2 at b1 b2 hsz hch hp2 ⊢
  refine wpIn_rangeCh (by omega) (gf := 224) (lb := #[.pointer (some ⟨bB, 0, none⟩), .pointer (some ⟨bN, 0, none⟩)]) rfl (enters_of Tryz.func224 (by kernel_rfl) rfl)
    (fun j => j = bB) (fun j => j = w.heap.size) (fun k => #[.string (piece s c k)]) (fun _ => rfl) (np c s.size) (PSt bB bN s c)
    (fun k W => Boxed W w.heap.size 3 (.int .i64 (vs k)) ∧ Boxed W (w.heap.size + 1) 248 (.func (.func g) #[] #[]) ∧ Ch (fun j => j = bB) w W)
    (fun j hj => by subst hj; omega) ⟨by omega, by omega⟩
    (fun k W W' h hc => ⟨hc.boxed (by omega) h.1, hc.boxed (by omega) h.2⟩)
    (fun k W W' h hc => ⟨hc.boxed (by omega) h.1, hc.boxed (by omega) h.2.1, ⟨hc.os.trans h.2.2.os, hc.tape.trans h.2.2.tape, hc.output.trans h.2.2.output, Nat.le_trans h.2.2.size hc.size, fun j hj hs => (hc.block j (Nat.lt_of_lt_of_le hj h.2.2.size) (by omega)).trans (h.2.2.block j hj hs)⟩⟩)
    (fun l J W hJ hY s0 h0 => pieces_calls hne (by omega) hc hc1 hs J hJ hY W s0 h0) hp2 ⟨b1, b2, hch _⟩
    (fun k => { tmps := #[.func (.func 224) #[] #[.pointer (some ⟨bB, 0, none⟩), .pointer (some ⟨bN, 0, none⟩)], .int .i64 (vs 0), .func (.func g) #[] #[], undef, .pointer (some ⟨w.heap.size, 0, none⟩), .pointer (some ⟨w.heap.size + 1, 0, none⟩), .int .i64 0, .string (piece s c k), .func (.func 224) #[] #[.pointer (some ⟨bB, 0, none⟩), .pointer (some ⟨bN, 0, none⟩)], .string (piece s c k), undef, undef, undef, undef, undef], defers := [] }) ?assign ?body ?done
  case assign =>
    intro l k W K hK
    gi_wp2
    exact hK
  case body =>
    rintro l k W hsW ⟨hr, hf, hc⟩ hk
    have HS := Lib.hid (HST.out k W hk (hc.to_below (by omega) (fun j hj => by subst hj; exact hB)))
    have c0 := hr.cell
    have c1 := hf.cell
    have HR := Lib.hid hr
    have HF := Lib.hid hf
    have HCH := Lib.hid hc
    clear hr hf hc b1 b2 hp2 hch hp
    gi_wp2_with fail
    refine ⟨trivial, (CallsIn.inRound l (callsIn_wide.2 HS.out)).mono ?_⟩
    rintro e W2 ⟨rfl, hb⟩
    have HB := Lib.hid hb
    have HR2 := Lib.hid ((Ch.below (S := fun _ => False) hb).boxed (fun h => h) HR.out)
    have HF2 := Lib.hid ((Ch.below (S := fun _ => False) hb).boxed (fun h => h) HF.out)
    have d0 := HR2.out.cell
    have d1 := HR2.out.frozen
    clear hb c0 c1
    gi_wp2_with fail
    refine ⟨(Ch.below HB.out).trans (Ch.setCell _ W2 _ rfl), HR2.out.set _, HF2.out.other (by omega) _, ?_⟩
    have h3 := HCH.out
    exact ⟨HB.out.os.trans h3.os, HB.out.tape.trans h3.tape, HB.out.output.trans h3.output, by have := HB.out.size; have := h3.size; simp [World.setCell]; omega, fun j hj hs => by
      rw [Below.heap_setCell _ _ _ _ (show j ≠ w.heap.size by omega), HB.out.block j (by have := h3.size; omega)]
      exact h3.block j hj hs⟩
  case done =>
    rintro W ⟨hr, hf, hc⟩ hK
    have c0 := hr.cell
    gi_wp2
    refine ⟨by simp, .inl ⟨_, _, rfl, run_takeDeferred hK, ?_⟩⟩
    exact ⟨_, results_tmp rfl _ _ _, rfl, ⟨hc.os, hc.tape, hc.output, by simpa using hc.size, fun j hj hs => (World.putObj_heap_other (by omega)).trans (hc.block j hj hs)⟩⟩

set_option maxHeartbeats 800000 in
theorem pieces_any (s : ByteArray) (c : Nat) (w : World) :
    Calls Tryz.prog 180 #[.string s, .int .i64 (c : Int)] w fun e w' =>
      e = .returned (.func (.func 224) #[] #[.pointer (some ⟨w.heap.size, 0, none⟩), .pointer (some ⟨w.heap.size + 1, 0, none⟩)]) ∧ PSt w.heap.size (w.heap.size + 1) s c 0 w' ∧ Below w.heap.size w w' := by
  have hmf : ∀ (fn : Fn) (first cap : Array Value) (w : World), (Instr.makeFunc fn first cap).run Tryz.prog w = .ok (.func fn first cap) w := fun _ _ _ _ => rfl
  have b1 := (Boxed.new w 23 (.string s)).alloc (.cells #[.int .i64 (c : Int)] 3)
  have b2 := Boxed.new (w.alloc (.cells #[.string s] 23)) 3 (.int .i64 (c : Int))
  rw [World.size_alloc] at b2
  have HB1 := Lib.hid b1
  have HB2 := Lib.hid b2
  have HB := Lib.hid (((Below.refl w.heap.size w).alloc (Nat.le_refl _) (.cells #[.string s] 23)).alloc (by simp) (.cells #[.int .i64 (c : Int)] 3))
  clear b1 b2
  go_enter Tryz.func180, Tryz.ntmps180
  go_wp2_with fail
  go_ret
  exact ⟨rfl, ⟨by rw [rest_first]; exact HB1.out, HB2.out⟩, HB.out⟩

end Go.Proofs.YteojekiocecdnaaGreatDoor
