/-
  The contracts of slices.Sorted at maps.Keys, laid at this program.
-/
import Derived.Shelf.SlIter.Nil
import Derived.Shelf.SortM.Plain
import Derived.Shelf.SortM.SortNone
import Derived.Ground.GgzProg
import Derived.Ground.SlgmProg
import Derived.Test.YtpkbppfgmpcpcaaGreatDoorProg
namespace Go.Proofs
open Go.RowKit Go.Maps Go.Sort Go.Shelf
def Tryz.keys219_ren : Go.Shelf.Ren := ⟨fun | 7 => 219 | 10 => 286 | n => n, fun | 23 => 144 | 26 => 9 | 3 => 23 | 28 => 222 | 0 => 0 | 27 => 221 | 33 => 200 | 4 => 4 | n => n, fun | n => n⟩
theorem Tryz.keys219 : Go.Proofs.SlLaysZ.n7 Tryz.prog Tryz.keys219_ren := {
  mixed := by kernel_rfl
  f7 := ⟨Tryz.f219.name, by decide, Tryz.func219.trans (congrArg some (by kernel_rfl))⟩
  f10 := ⟨Tryz.f286.name, by decide, Tryz.func286.trans (congrArg some (by kernel_rfl))⟩
  t0 := Tryz.underlying0
  a0 := Tryz.isAgg0
  z0 := Tryz.sizeOf0
  v0 := Tryz.zeroValue0
  t4 := Tryz.underlying4
  a4 := Tryz.isAgg4
  z4 := Tryz.sizeOf4
  v4 := Tryz.zeroValue4
  t23 := Tryz.underlying144
  a23 := Tryz.isAgg144
  z23 := Tryz.sizeOf144
  v23 := Tryz.zeroValue144
  t26 := Tryz.underlying9
  a26 := Tryz.isAgg9
  z26 := Tryz.sizeOf9
  v26 := Tryz.zeroValue9
  t27 := Tryz.underlying221
  a27 := Tryz.isAgg221
  z27 := Tryz.sizeOf221
  v27 := Tryz.zeroValue221
  t28 := Tryz.underlying222
  a28 := Tryz.isAgg222
  z28 := Tryz.sizeOf222
  v28 := Tryz.zeroValue222
  t33 := Tryz.underlying200
  a33 := Tryz.isAgg200
  z33 := Tryz.sizeOf200
  v33 := Tryz.zeroValue200 }
def Tryz.sorted218_ren : Go.Shelf.Ren := ⟨fun | 6 => 218 | 8 => 284 | 9 => 285 | 11 => 347 | 13 => 349 | 12 => 348 | 23 => 391 | 24 => 392 | 14 => 382 | 15 => 383 | 16 => 384 | 17 => 385 | 18 => 386 | 19 => 387 | 20 => 388 | 21 => 389 | 22 => 390 | 25 => 413 | 26 => 414 | 27 => 415 | 28 => 416 | 29 => 417 | 30 => 418 | 31 => 434 | n => n, fun | 26 => 9 | 28 => 222 | 24 => 219 | 0 => 0 | 3 => 3 | 37 => 281 | 48 => 378 | 50 => 258 | 4 => 4 | 40 => 372 | 39 => 371 | 45 => 201 | 5 => 5 | 9 => 9 | 51 => 397 | 55 => 400 | 57 => 417 | 58 => 418 | 33 => 200 | n => n, fun | n => n⟩
theorem Tryz.sorted218 : Go.Proofs.SlLaysZ.n6 Tryz.prog Tryz.sorted218_ren := {
  mixed := by kernel_rfl
  f6 := ⟨Tryz.f218.name, by decide, Tryz.func218.trans (congrArg some (by kernel_rfl))⟩
  f8 := ⟨Tryz.f284.name, by decide, Tryz.func284.trans (congrArg some (by kernel_rfl))⟩
  f11 := ⟨Tryz.f347.name, by decide, Tryz.func347.trans (congrArg some (by kernel_rfl))⟩
  t0 := Tryz.underlying0
  a0 := Tryz.isAgg0
  z0 := Tryz.sizeOf0
  v0 := Tryz.zeroValue0
  t24 := Tryz.underlying219
  a24 := Tryz.isAgg219
  z24 := Tryz.sizeOf219
  v24 := Tryz.zeroValue219
  t26 := Tryz.underlying9
  a26 := Tryz.isAgg9
  z26 := Tryz.sizeOf9
  v26 := Tryz.zeroValue9
  t28 := Tryz.underlying222
  a28 := Tryz.isAgg222
  z28 := Tryz.sizeOf222
  v28 := Tryz.zeroValue222
  i26 := by kernel_rfl }
def Tryz.sort285_ren : Go.Shelf.Ren := ⟨fun | 6 => 285 | 8 => 349 | 9 => 348 | 19 => 391 | 20 => 392 | 21 => 382 | 22 => 383 | 23 => 384 | 24 => 385 | 25 => 386 | 26 => 387 | 27 => 388 | 28 => 389 | 29 => 390 | 36 => 413 | 31 => 414 | 32 => 415 | 37 => 416 | 38 => 417 | 39 => 418 | 41 => 434 | n => n, fun | 27 => 219 | 29 => 9 | 3 => 3 | 32 => 281 | 26 => 219 | 0 => 0 | 44 => 378 | 46 => 258 | 4 => 4 | 36 => 372 | 35 => 371 | 41 => 201 | 5 => 5 | 9 => 9 | 53 => 397 | 57 => 400 | 63 => 417 | 64 => 418 | n => n, fun | n => n⟩
theorem Tryz.sort285 : Go.Proofs.SlLaysM.n6 Tryz.prog Tryz.sort285_ren := {
  mixed := by kernel_rfl
  f6 := ⟨Tryz.f285.name, by decide, Tryz.func285.trans (congrArg some (by kernel_rfl))⟩
  f8 := Tryz.func349.trans (congrArg some (by kernel_rfl))
  f9 := ⟨Tryz.f348.name, by decide, Tryz.func348.trans (congrArg some (by kernel_rfl))⟩
  f19 := Tryz.func391.trans (congrArg some (by kernel_rfl))
  f20 := Tryz.func392.trans (congrArg some (by kernel_rfl))
  f21 := ⟨Tryz.f382.name, by decide, Tryz.func382.trans (congrArg some (by kernel_rfl))⟩
  f22 := ⟨Tryz.f383.name, by decide, Tryz.func383.trans (congrArg some (by kernel_rfl))⟩
  f23 := ⟨Tryz.f384.name, by decide, Tryz.func384.trans (congrArg some (by kernel_rfl))⟩
  f24 := ⟨Tryz.f385.name, by decide, Tryz.func385.trans (congrArg some (by kernel_rfl))⟩
  f25 := ⟨Tryz.f386.name, by decide, Tryz.func386.trans (congrArg some (by kernel_rfl))⟩
  f26 := ⟨Tryz.f387.name, by decide, Tryz.func387.trans (congrArg some (by kernel_rfl))⟩
  f27 := ⟨Tryz.f388.name, by decide, Tryz.func388.trans (congrArg some (by kernel_rfl))⟩
  f28 := ⟨Tryz.f389.name, by decide, Tryz.func389.trans (congrArg some (by kernel_rfl))⟩
  f29 := ⟨Tryz.f390.name, by decide, Tryz.func390.trans (congrArg some (by kernel_rfl))⟩
  f31 := Tryz.func414.trans (congrArg some (by kernel_rfl))
  f32 := Tryz.func415.trans (congrArg some (by kernel_rfl))
  f36 := ⟨Tryz.f413.name, by decide, Tryz.func413.trans (congrArg some (by kernel_rfl))⟩
  f37 := ⟨Tryz.f416.name, by decide, Tryz.func416.trans (congrArg some (by kernel_rfl))⟩
  f38 := ⟨Tryz.f417.name, by decide, Tryz.func417.trans (congrArg some (by kernel_rfl))⟩
  f39 := ⟨Tryz.f418.name, by decide, Tryz.func418.trans (congrArg some (by kernel_rfl))⟩
  f41 := ⟨Tryz.f434.name, by decide, Tryz.func434.trans (congrArg some (by kernel_rfl))⟩
  t0 := Tryz.underlying0
  a0 := Tryz.isAgg0
  z0 := Tryz.sizeOf0
  v0 := Tryz.zeroValue0
  t3 := Tryz.underlying3
  a3 := Tryz.isAgg3
  z3 := Tryz.sizeOf3
  v3 := Tryz.zeroValue3
  t4 := Tryz.underlying4
  a4 := Tryz.isAgg4
  z4 := Tryz.sizeOf4
  v4 := Tryz.zeroValue4
  t5 := Tryz.underlying5
  a5 := Tryz.isAgg5
  z5 := Tryz.sizeOf5
  v5 := Tryz.zeroValue5
  t9 := Tryz.underlying9
  a9 := Tryz.isAgg9
  z9 := Tryz.sizeOf9
  v9 := Tryz.zeroValue9
  t26 := Tryz.underlying219
  a26 := Tryz.isAgg219
  z26 := Tryz.sizeOf219
  v26 := Tryz.zeroValue219
  t27 := Tryz.underlying219
  a27 := Tryz.isAgg219
  z27 := Tryz.sizeOf219
  v27 := Tryz.zeroValue219
  t29 := Tryz.underlying9
  a29 := Tryz.isAgg9
  z29 := Tryz.sizeOf9
  v29 := Tryz.zeroValue9
  t32 := Tryz.underlying281
  a32 := Tryz.isAgg281
  z32 := Tryz.sizeOf281
  v32 := Tryz.zeroValue281
  t35 := Tryz.underlying371
  a35 := Tryz.isAgg371
  z35 := Tryz.sizeOf371
  v35 := Tryz.zeroValue371
  t36 := Tryz.underlying372
  a36 := Tryz.isAgg372
  z36 := Tryz.sizeOf372
  v36 := Tryz.zeroValue372
  t41 := Tryz.underlying201
  a41 := Tryz.isAgg201
  z41 := Tryz.sizeOf201
  v41 := Tryz.zeroValue201
  t44 := Tryz.underlying378
  a44 := Tryz.isAgg378
  z44 := Tryz.sizeOf378
  v44 := Tryz.zeroValue378
  t46 := Tryz.underlying258
  a46 := Tryz.isAgg258
  z46 := Tryz.sizeOf258
  v46 := Tryz.zeroValue258
  t53 := Tryz.underlying397
  a53 := Tryz.isAgg397
  z53 := Tryz.sizeOf397
  v53 := Tryz.zeroValue397
  t57 := Tryz.underlying400
  a57 := Tryz.isAgg400
  z57 := Tryz.sizeOf400
  v57 := Tryz.zeroValue400
  t63 := Tryz.underlying417
  a63 := Tryz.isAgg417
  z63 := Tryz.sizeOf417
  v63 := Tryz.zeroValue417
  t64 := Tryz.underlying418
  a64 := Tryz.isAgg418
  z64 := Tryz.sizeOf418
  v64 := Tryz.zeroValue418 }


theorem Tryz.sorts218 (m : Nat) : AnyZ.SortsIn Tryz.prog Tryz.sorted218_ren Fence.wide m :=
  ⟨fun blk off cap ss W hH hblk hsz => callsIn_wide.2 (AnyM.slices_Sort_string Tryz.sort285 blk off cap ss W hH hblk hsz),
   fun p cap W => callsIn_wide.2 (AnyM.slices_Sort_string_none Tryz.sort285 p cap W)⟩

theorem Tryz.maps_Keys_219 (mb : Option Nat) (W : World) : CallsIn Fence.wide 5 Tryz.prog 219 #[.map mb] W fun e w' => e = .returned (.func (.func 286) #[] #[.pointer (some ⟨W.heap.size, 0, none⟩)]) ∧ w' = W.alloc (.cells #[.map mb] 144) :=
  AnyZ.keys_in Tryz.keys219 Fence.wide 5 trivial rfl mb W

set_option maxHeartbeats 1000000 in
theorem Tryz.slices_Sorted_keys_218_219 {H : Type} (b nn : Nat) (D0 : DataW H) (R : Value → Option (DataW H × List MemPlace)) (w : World) (hown : w.ownsMap Tryz.prog 9 R b nn D0) (hmax : Maps.size D0 ≤ maxLen) (hbytes : Maps.size D0 * 16 ≤ 140737488355328) :
    CallsIn Fence.wide 5 Tryz.prog 218 #[.func (.func 286) #[] #[.pointer (some ⟨w.heap.size, 0, none⟩)]] (w.alloc (.cells #[.map (some b)] 144)) fun e w' => ∃ (v : Value) (ss : List (List UInt8)), e = .returned v ∧ ss.Perm (strKeys D0) ∧
      w'.ownsRow (w.alloc (.cells #[.map (some b)] 144)).heap.size 9 1 v ss.length ((ss.mergeSort (fun x y => decide (x ≤ y))).map encStr) ∧ (v = .slice none 0 0 ↔ ss = []) ∧ Below (w.alloc (.cells #[.map (some b)] 144)).heap.size (w.alloc (.cells #[.map (some b)] 144)) w' := by
  have hbl := hown.lt
  have hseq : SeqGives Fence.wide 2 Tryz.prog 286 #[.pointer (some ⟨w.heap.size, 0, none⟩)] encStr (fun ss => ss.Perm (strKeys D0)) (Maps.size D0) (w.alloc (.cells #[.map (some b)] 144)) :=
    AnyZ.keys_gives (ρ := Tryz.keys219_ren) { Tryz.keys219 with } Fence.wide _ trivial rfl (by omega) w.heap.size b nn D0 _ (by simp) (by simp) (by
      obtain ⟨es, clock, hb, Ft, hs, hD⟩ := hown
      exact ⟨es, clock, (Below.heap_alloc _ _ b hbl).trans hb, Ft, hs, hD⟩)
  exact AnyZ.sorted_in Tryz.sorted218 Fence.wide 5 trivial trivial trivial trivial rfl (by omega) (Tryz.sorts218 _) (enters_of Tryz.func285 (by kernel_rfl) rfl) 286 #[.pointer (some ⟨w.heap.size, 0, none⟩)] trivial (enters_of Tryz.func286 (by kernel_rfl) rfl) _ _ hmax hbytes _ hseq

set_option maxHeartbeats 1000000 in
theorem Tryz.slices_Sorted_keys_nil_218_219 (w : World) :
    CallsIn Fence.wide 5 Tryz.prog 218 #[.func (.func 286) #[] #[.pointer (some ⟨w.heap.size, 0, none⟩)]] (w.alloc (.cells #[.map none] 144)) fun e w' => ∃ (v : Value) (ss : List (List UInt8)), e = .returned v ∧ ss = [] ∧
      w'.ownsRow (w.alloc (.cells #[.map none] 144)).heap.size 9 1 v ss.length ((ss.mergeSort (fun x y => decide (x ≤ y))).map encStr) ∧ (v = .slice none 0 0 ↔ ss = []) ∧ Below (w.alloc (.cells #[.map none] 144)).heap.size (w.alloc (.cells #[.map none] 144)) w' := by
  have hseq : SeqGives Fence.wide 2 Tryz.prog 286 #[.pointer (some ⟨w.heap.size, 0, none⟩)] encStr (fun ss : List (List UInt8) => ss = []) 0 (w.alloc (.cells #[.map none] 144)) :=
    AnyZ.keys_gives_nil (ρ := Tryz.keys219_ren) { Tryz.keys219 with } Fence.wide _ trivial rfl w.heap.size _ (by simp) (by simp)
  exact AnyZ.sorted_in Tryz.sorted218 Fence.wide 5 trivial trivial trivial trivial rfl (by omega) (Tryz.sorts218 _) (enters_of Tryz.func285 (by kernel_rfl) rfl) 286 #[.pointer (some ⟨w.heap.size, 0, none⟩)] trivial (enters_of Tryz.func286 (by kernel_rfl) rfl) _ 0 (Nat.zero_le _) (by omega) _ hseq



end Go.Proofs
