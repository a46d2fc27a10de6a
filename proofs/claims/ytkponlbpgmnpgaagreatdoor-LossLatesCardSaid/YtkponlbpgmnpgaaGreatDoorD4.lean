/-
  The laws of layer 9: late.
-/
import Derived.Test.YtkponlbpgmnpgaaGreatDoorDB
import Derived.Test.YtkponlbpgmnpgaaGreatDoorD0
namespace Go.Proofs.YtkponlbpgmnpgaaGreatDoor
open Go.RowKit NV Go.Maps Go.Sort Go.Shelf
open Go.Lib (decDigits)
def lateS : ByteArray := ⟨#[108, 97, 116, 101]⟩
def lateT (n : Nat) : Rat := (n : Rat) / 8
theorem lateT_ok {n : Nat} (h : n < 4) : 0 ≤ lateT n ∧ lateT n ≤ 1 ∧ Sz 1 (lateT n) ∧ Zd 8 (lateT n) := by
 rcases (show n = 0 ∨ n = 1 ∨ n = 2 ∨ n = 3 by omega) with rfl | rfl | rfl | rfl
 ·exact ⟨by decide +kernel, by decide +kernel, ⟨by decide +kernel, by decide +kernel⟩, (Zd.den _).up (by decide +kernel)⟩
 ·exact ⟨by decide +kernel, by decide +kernel, ⟨by decide +kernel, by decide +kernel⟩, (Zd.den _).up (by decide +kernel)⟩
 ·exact ⟨by decide +kernel, by decide +kernel, ⟨by decide +kernel, by decide +kernel⟩, (Zd.den _).up (by decide +kernel)⟩
 ·exact ⟨by decide +kernel, by decide +kernel, ⟨by decide +kernel, by decide +kernel⟩, (Zd.den _).up (by decide +kernel)⟩
def latP (P : List MI) (r : Nat → Nat) (i : Nat) : Rat := qZ P i * lateT (r i)
def latR (P : List MI) (r : Nat → Nat) (i : Nat) : Rat := qZ P i + -latP P r i
def lateL (P : List MI) (r : Nat → Nat) : Nat → List MI
 | 0 => []
 | k + 1 => lateL P r k ++ [((getZ P k).1, qstr (latR P r k)), (lateS, qstr (latP P r k))]
def lateU (P : List MI) (r : Nat → Nat) (k : Nat) : Rat := sm (latP P r) k
def lateA (P : List MI) (r : Nat → Nat) (key : List UInt8) (k : Nat) : Rat := sm (fun i => if kZ (getZ P i) = key then latP P r i else 0) k
theorem lateL_len {P : List MI} {r : Nat → Nat} : ∀ k, (lateL P r k).length = k * 2
 | 0 => rfl
 | k + 1 => by
  show (lateL P r k ++ _).length = _
  rw [List.length_append, lateL_len k]
  show k * 2 + 2 = _
  omega
theorem lateL_congr {P : List MI} {r s : Nat → Nat} : ∀ {k : Nat}, (∀ i, i < k → r i = s i) → lateL P r k = lateL P s k
 | 0, _ => rfl
 | k + 1, h => by
  have e := lateL_congr (P := P) (k := k) (fun i hi => h i (by omega))
  have h2 := h k (by omega)
  show lateL P r k ++ _ = lateL P s k ++ _
  unfold latR latP
  rw [e, h2]
theorem lateU_congr {P : List MI} {r s : Nat → Nat} {k : Nat} (h : ∀ i, i < k → r i = s i) : lateU P r k = lateU P s k := sm_eq fun i hi => by unfold latP; rw [h i hi]
theorem kv_two {a b : MI} {k : List UInt8} : kv [a, b] k [a, b].length = (if kZ a = k then ratS a.2 else 0) + (if kZ b = k then ratS b.2 else 0) := by
 show (0 + (if kZ a = k then ratS a.2 else 0)) + (if kZ b = k then ratS b.2 else 0) = _
 rw [Rat.zero_add]
theorem sum_two {a b : MI} : sm (qZ [a, b]) [a, b].length = ratS a.2 + ratS b.2 := by
 show (0 + ratS a.2) + ratS b.2 = _
 rw [Rat.zero_add]
theorem late_sum {P : List MI} {r : Nat → Nat} : ∀ k, sm (qZ (lateL P r k)) (lateL P r k).length = sm (qZ P) k
 | 0 => by show (0 : Rat) = 0; rfl
 | k + 1 => by
  show sm (qZ (lateL P r k ++ _)) (lateL P r k ++ _).length = sm (qZ P) k + qZ P k
  rw [sum_app, late_sum k, sum_two]
  show _ + (ratS (qstr (latR P r k)) + ratS (qstr (latP P r k))) = _
  rw [ratS_q, ratS_q]
  unfold latR
  grind
theorem late_kv {P : List MI} {r : Nat → Nat} {key : List UInt8} : ∀ k, kv (lateL P r k) key (lateL P r k).length = kv P key k - lateA P r key k + (if key = lateS.data.toList then lateU P r k else 0)
 | 0 => by
  show (0 : Rat) = 0 - 0 + (if key = lateS.data.toList then 0 else 0)
  split <;> grind
 | k + 1 => by
  show kv (lateL P r k ++ _) key (lateL P r k ++ _).length = (kv P key k + (if kZ (getZ P k) = key then qZ P k else 0)) - (lateA P r key k + (if kZ (getZ P k) = key then latP P r k else 0)) + (if key = lateS.data.toList then lateU P r k + latP P r k else 0)
  rw [kv_app, late_kv k, kv_two]
  show _ + ((if kZ (getZ P k) = key then ratS (qstr (latR P r k)) else 0) + (if lateS.data.toList = key then ratS (qstr (latP P r k)) else 0)) = _
  rw [ratS_q, ratS_q]
  unfold latR
  by_cases h1 : kZ (getZ P k) = key
  ·rw [if_pos h1, if_pos h1, if_pos h1]
   by_cases h2 : key = lateS.data.toList
   ·rw [if_pos h2, if_pos h2, if_pos h2.symm]; grind
   ·rw [if_neg h2, if_neg h2, if_neg (fun e => h2 e.symm)]; grind
  ·rw [if_neg h1, if_neg h1, if_neg h1]
   by_cases h2 : key = lateS.data.toList
   ·rw [if_pos h2, if_pos h2, if_pos h2.symm]; grind
   ·rw [if_neg h2, if_neg h2, if_neg (fun e => h2 e.symm)]; grind
structure LatOk (P : List MI) (r : Nat → Nat) (i : Nat) : Prop where
 p0 : 0 ≤ latP P r i
 r0 : 0 ≤ latR P r i
 ps : Sz 25 (latP P r i)
 rs : Sz 50 (latR P r i)
 pz : Zd (pd P P.length * 8) (latP P r i)
 rz : Zd (pd P P.length * 8) (latR P r i)
theorem lat_ok {P : List MI} {r : Nat → Nat} {i : Nat} (hp : DiL P) (hs : Sz 24 (qZ P i)) (hi : i < P.length) (hr : r i < 4) : LatOk P r i := by
 obtain ⟨t0, t1, ts, tz⟩ := lateT_ok hr
 have h0 := Rat.le_of_lt (hp.pos i hi)
 have hz : Zd (pd P P.length) (qZ P i) := (Zd.den _).up (pd_dvd hi)
 have h1 := Rat.mul_nonneg h0 t0
 have h2 := Rat.mul_nonneg h0 (show 0 ≤ 1 - lateT (r i) by grind)
 have s1 := Sz.mul hs ts
 have z1 := Zd.mul hz tz
 refine ⟨h1, ?_, s1, Sz.add hs (Sz.neg s1), z1, Zd.add (hz.up (Nat.dvd_mul_right ..)) (Zd.neg z1)⟩
 unfold latR latP
 grind
theorem late_fine {P : List MI} {r : Nat → Nat} (hp : DiL P) (hs : ∀ i, i < P.length → Sz 24 (qZ P i)) (hr : ∀ i, r i < 4) : ∀ {k : Nat}, k ≤ P.length → FineL (pd P P.length * 8) (lateL P r k)
 | 0, _ => fun x hx => by cases hx
 | k + 1, hk => by
  refine FineL.app (late_fine hp hs hr (by omega)) fun x hx => ?_
  have h := lat_ok hp (hs k (by omega)) (by omega) (hr k)
  rcases List.mem_cons.1 hx with rfl | hx
  ·exact ⟨_, rfl, h.rs.qok (by omega) (by omega), h.r0, h.rz⟩
  ·rcases List.mem_cons.1 hx with rfl | hx
   ·exact ⟨_, rfl, h.ps.qok (by omega) (by omega), h.p0, h.pz⟩
   ·cases hx
theorem lateU_sz {P : List MI} {r : Nat → Nat} (hp : DiL P) (hs : ∀ i, i < P.length → Sz 24 (qZ P i)) (hr : ∀ i, r i < 4) {k : Nat} (hk : k ≤ P.length) (h12 : k ≤ 12) : Sz 320 (lateU P r k) ∧ 0 ≤ lateU P r k ∧ lateU P r k ≤ 1 := by
 have h := fun i (hi : i < k) => lat_ok hp (hs i (by omega)) (by omega) (hr i)
 refine ⟨(sm_sz (c := 25) (fun i hi => (h i hi).ps)).mono (by omega), sm_nonneg fun i hi => (h i hi).p0, ?_⟩
 have h1 : lateU P r k ≤ sm (qZ P) k := sm_le fun i hi => by
  have h2 := (h i hi).r0
  unfold latR at h2
  grind
 have h3 := sm_mono (g := qZ P) (fun i hi => Rat.le_of_lt (hp.pos i hi)) hk
 rw [hp.one] at h3
 exact Rat.le_trans h1 h3
set_option exponentiation.threshold 4000 in
theorem latD_lt {P : List MI} (h12 : P.length ≤ 16) (hs : ∀ i, i < P.length → Sz 24 (qZ P i)) : pd P P.length * 8 < 10 ^ 400 := by
 have h1 : pd P P.length ≤ 10 ^ 384 := Nat.le_trans (pd_lt hs _ (Nat.le_refl _)) (Nat.pow_le_pow_right (by omega) (by omega))
 have h2 : (10 : Nat) ^ 400 = 10 ^ 384 * 10 ^ 16 := by rw [← Nat.pow_add]
 rw [h2]
 exact Nat.mul_lt_mul_of_le_of_lt h1 (by decide) (Nat.pow_pos (by omega))
structure LateX (P : List MI) (r : Nat → Nat) (X : List MI) (NX : Nat) : Prop where
 len : X.length = NX
 le : NX ≤ 24
 chk : chkZ X = 0
 ml : ML2 X
 val : ∀ k, vQ X k = vQ P k - lateA P r k P.length + (if k = lateS.data.toList then lateU P r P.length else 0)
 zd : ∀ k, Zd (pd P P.length * 8) (vQ X k)
theorem late_coll {P : List MI} {r : Nat → Nat} (hp : DiL P) (hl : P.length ≤ 12) (hs : ∀ i, i < P.length → Sz 24 (qZ P i)) (hml : ML2 P) (hr : ∀ i, r i < 4) :
  ∃ S, CollR (lateL P r P.length) (pd P P.length * 8) S ∧ LateX P r (tZ (outQ S)) (outQ S).length ∧ ML2 (lateL P r P.length) := by
 have hf := late_fine hp hs hr (Nat.le_refl _)
 have hone : sm (qZ (lateL P r P.length)) (lateL P r P.length).length = 1 := by rw [late_sum, hp.one]
 obtain ⟨S, hS⟩ := coll_ok (K := 400) hf hone (Nat.mul_pos (pd_pos _) (by omega)) (latD_lt (by omega) hs) (by omega) (by omega)
 have hmL : ∀ k, k ≤ P.length → ML2 (lateL P r k) := fun k => by
  induction k with
  | zero => exact fun _ x hx => by cases hx
  | succ k ih =>
   intro hk x hx
   have h := lat_ok hp (hs k (by omega)) (by omega) (hr k)
   rcases List.mem_append.1 hx with hx | hx
   ·exact ih (by omega) x hx
   ·rcases List.mem_cons.1 hx with rfl | hx
    ·refine ⟨?_, Nat.le_trans (qstr_size (h.rs.qok (by omega) (by omega))) (by omega)⟩
     show (getZ P k).1.size ≤ _
     rw [getZ_of (List.getElem?_eq_getElem (show k < P.length by omega))]
     exact (hml _ (List.getElem_mem _)).1
    ·rcases List.mem_cons.1 hx with rfl | hx
     ·exact ⟨by show lateS.size ≤ 1000000; decide, Nat.le_trans (qstr_size (h.ps.qok (by omega) (by omega))) (by omega)⟩
     ·cases hx
 have hm := hmL _ (Nat.le_refl _)
 have hlen := hS.len
 rw [lateL_len] at hlen
 refine ⟨S, hS, ⟨tZ_len _, by omega, hS.chk, fun x hx => ?_, fun k => ?_, hS.zd⟩, hm⟩
 ·obtain ⟨y, hy, rfl⟩ := List.mem_map.1 hx
  have hyS : y ∈ S := (List.mem_filter.1 hy).1
  have hI := ColI.run (L := lateL P r P.length) (Nat.le_refl _) (show runO (colS (lateL P r P.length)) [] (lateL P r P.length).length = some S from hS.col)
  obtain ⟨z, hz, e⟩ := hI.key y hyS
  refine ⟨?_, Nat.le_trans (qstr_size (hI.ok y hyS)) (by omega)⟩
  show y.1.size ≤ _
  rw [e]
  exact (hm z hz).1
 ·rw [hS.val, late_kv]
  have e : kv P k P.length = vQ P k := by
   have h := kv_dist (k := k) (f := 1) hp.srt (Nat.le_refl P.length) (fun j h1 h2 => by omega)
   rw [Rat.mul_one] at h
   rw [← h]
   exact sm_eq fun i _ => by rw [Rat.mul_one]
  rw [e]
theorem lateA_nn {P : List MI} {r : Nat → Nat} (hp : DiL P) (hs : ∀ i, i < P.length → Sz 24 (qZ P i)) (hr : ∀ i, r i < 4) (k : List UInt8) : 0 ≤ lateA P r k P.length := sm_nonneg fun i hi => by
 by_cases h : kZ (getZ P i) = k
 ·rw [if_pos h]; exact (lat_ok hp (hs i hi) hi (hr i)).p0
 ·rw [if_neg h]; exact Rat.le_refl
theorem lateA_ks {P X : List MI} {r : Nat → Nat} (hx : SrtZ X) (hp : DiL P) (hs : ∀ i, i < P.length → Sz 24 (qZ P i)) (hr : ∀ i, r i < 4) : ks X (fun k => lateA P r k P.length) X.length ≤ lateU P r P.length := by
 unfold ks lateA
 rw [sm_swap]
 refine sm_le fun j hj => ?_
 have h := key_once (κ := kZ (getZ P j)) hx (lat_ok hp (hs j hj) hj (hr j)).p0 (Nat.le_refl _)
 refine Rat.le_trans (sm_le fun i _ => ?_) h
 by_cases e : kZ (getZ P j) = kZ (getZ X i)
 ·rw [if_pos e, if_pos e.symm]; exact Rat.le_refl
 ·rw [if_neg e, if_neg (fun h => e h.symm)]; exact Rat.le_refl
theorem rMake8 {n : Nat} (h : n < 4) (w : World) : Calls Tryz.prog 116 #[.string (dstr n), .string ⟨#[56]⟩] w (PR (qstr (lateT n), 0) w) := by
 have key : ∀ m, m < 4 → (chkI (dstr m) = 0 ∧ (dstr m).size ≤ 1000000) ∧ mkQ (minusB (dstr m)) (dv (restS (dstr m)).data.toList) (dv (⟨#[56]⟩ : ByteArray).data.toList) = lateT m := by decide +kernel
 obtain ⟨⟨k1, k2⟩, k3⟩ := key n h
 have h1 := rMake_q (s := dstr n) (t := ⟨#[56]⟩) w k2 (by decide) k1 (by decide +kernel) (by decide +kernel)
 rw [k3] at h1
 unfold RQ at h1
 rw [wQ_oQ, okQ_yes ((lateT_ok h).2.2.1.qok (by omega) (by omega))] at h1
 exact h1
set_option maxHeartbeats 6400000 in
set_option maxRecDepth 100000 in
theorem late9_any {P : List MI} {N cap : Nat} {ao : Option Addr} {n : Int} {w : World} (hr : MR w ao N P) (hN : N ≤ 12) (hp : DiL P) (hml : ML2 P) (hs : ∀ i, i < P.length → Sz 24 (qZ P i)) (n0 : -9223372036854775808 ≤ n) (n1 : n ≤ 9223372036854775807) :
  Calls Tryz.prog 46 #[.slice ao N cap, .int .i64 n] w fun e w' => ∃ (r : Nat → Nat) (X : List MI) (NX xc : Nat) (xo : Option Addr), (∀ i, r i < 4) ∧ e = .returned (.tuple #[.slice xo NX xc, .string (qstr (lateU P r P.length))]) ∧ MR w' xo NX X ∧ LateX P r X NX ∧ Below w.heap.size w w' := by
 obtain ⟨i0, hi, hz0, hz1, hz2⟩ := info_parts infoZ
 have hlen := hr.len
 have HMR := Lib.hid hr
 have HFIN := Lib.hid (show ∀ r, (∀ i, r i < 4) → ∃ S, CollR (lateL P r N) (pd P P.length * 8) S ∧ LateX P r (tZ (outQ S)) (outQ S).length ∧ ML2 (lateL P r N) from fun r hr4 => by rw [← hlen]; exact late_coll hp (by omega) hs hml hr4)
 have HMU := Lib.hid (show ∀ W i m, i < N → m < 4 → Calls Tryz.prog 77 #[.string (qstr (qZ P i)), .string (qstr (lateT m))] W (PR (qstr (qZ P i * lateT m), 0) W) from fun W i m h1 h2 => by
  have h := rMul_oQ (qZ P i) (lateT m) ((hs i (by omega)).qok (by omega) (by omega)) ((lateT_ok h2).2.2.1.qok (by omega) (by omega)) W
  rw [okQ_yes ((Sz.mul (hs i (by omega)) (lateT_ok h2).2.2.1).qok (by omega) (by omega))] at h
  exact h)
 have HSB := Lib.hid (show ∀ W i m, i < N → m < 4 → Calls Tryz.prog 68 #[.string (qstr (qZ P i)), .string (qstr (qZ P i * lateT m))] W (PR (qstr (qZ P i + -(qZ P i * lateT m)), 0) W) from fun W i m h1 h2 => by
  have s1 := Sz.mul (hs i (by omega)) (lateT_ok h2).2.2.1
  have h := rSub_oQ (qZ P i) (qZ P i * lateT m) ((hs i (by omega)).qok (by omega) (by omega)) (s1.qok (by omega) (by omega)) W
  rw [okQ_yes ((Sz.add (hs i (by omega)) s1.neg).qok (by omega) (by omega))] at h
  exact h)
 have HAD := Lib.hid (show ∀ W (r : Nat → Nat) k m, (∀ i, r i < 4) → k < N → m < 4 → Calls Tryz.prog 66 #[.string (qstr (lateU P r k)), .string (qstr (qZ P k * lateT m))] W (PR (qstr (lateU P r k + qZ P k * lateT m), 0) W) from fun W r k m h0 h1 h2 => by
  have s1 := (lateU_sz hp hs h0 (k := k) (by omega) (by omega)).1
  have s2 := Sz.mul (hs k (by omega)) (lateT_ok h2).2.2.1
  have h := rAdd_oQ (lateU P r k) (qZ P k * lateT m) (s1.qok (by omega) (by omega)) (s2.qok (by omega) (by omega)) W
  rw [okQ_yes ((Sz.add s1 s2).qok (by omega) (by omega))] at h
  exact h)
 have HOK := Lib.hid hp.ok
 have HNN := Lib.hid (And.intro n0 n1)
 have HLEN := Lib.hid hlen
 clear hr hlen hp hml hs n0 n1
 go_enter Tryz.func46, Tryz.ntmps46
 go_wp2_with fail
 go_loopw [6, 7, 8] (fun vv uv iv wr => ∃ (k : Nat) (r : Nat → Nat) (su : ByteArray), k ≤ N ∧ iv = .int .i64 (k : Int) ∧ Hid (∀ i, r i < 4) ∧ uv = .string su ∧ Hid (su = qstr (lateU P r k)) ∧ Hid (wr.ownsRow w.heap.size 78 2 vv (k * 2) (cellsZ (lateL P r k))) ∧ Below w.heap.size w wr) (fun _ _ iv _ => N - (intOf iv).toNat)
 case atStart => exact ⟨0, fun _ => 0, ⟨#[48]⟩, Nat.zero_le _, rfl, Lib.hid (fun _ => by show 0 < 4; decide), rfl, Lib.hid q0Z.symm, Lib.hid (World.ownsRow_nil _ _ _ _), Below.refl _ _⟩
 case round =>
  obtain ⟨k, r, su, hk, rfl, HR4, rfl, HSU, HROW, hb⟩ := hrel
  by_cases hlt : k < N
  ·obtain ⟨a, x, rfl, hx, _, _, _⟩ := (HMR.out.below hb).at hlt
   obtain ⟨hx1, hx2⟩ := HOK.out.at hx
   have hx1' : x.1 = (getZ P k).1 := by rw [getZ_of hx]
   have HCX := Lib.hid (show ∀ W, Below w.heap.size w W → W.cell? (a.add (k * 2)) = some (.string (getZ P k).1) ∧ W.cell? ⟨(a.add (k * 2)).block, (a.add (k * 2)).off + 1, none⟩ = some (.string (qstr (qZ P k))) from fun W hw => by
    obtain ⟨ad', x', h1, h2, _, h3, h4⟩ := (HMR.out.below hw).at hlt
    obtain rfl := Option.some.inj h1
    rw [hx] at h2
    obtain rfl := Option.some.inj h2
    rw [hx1'] at h3
    rw [hx1] at h4
    exact ⟨h3, h4⟩)
   have hm1 : (1 : Int) ≤ 2 ^ (2 * k) := by
    have h : (1 : Nat) ≤ 2 ^ (2 * k) := Nat.one_le_two_pow
    have h2 : ((2 ^ (2 * k) : Nat) : Int) = 2 ^ (2 * k) := by simp
    omega
   obtain ⟨hn0, hn1⟩ := HNN.out
   have hp0 : -9223372036854775808 ≤ n / 2 ^ (2 * k) := by
    generalize (2 : Int) ^ (2 * k) = z at *
    refine (Int.le_ediv_iff_mul_le (by omega)).2 ?_
    have h := Int.mul_le_mul_of_nonneg_left hm1 (show (0 : Int) ≤ 9223372036854775808 by decide)
    omega
   have hp1 : n / 2 ^ (2 * k) ≤ 9223372036854775807 := by
    generalize (2 : Int) ^ (2 * k) = z at *
    refine Int.lt_add_one_iff.1 ((Int.ediv_lt_iff_lt_mul (by omega)).2 ?_)
    have h := Int.mul_le_mul_of_nonneg_left hm1 (show (0 : Int) ≤ 9223372036854775808 by decide)
    omega
   have HPK := Lib.hid (lPick_any (n / 2 ^ (2 * k)) 4 (by omega) (by omega) hp0 hp1 wr)
   have HB1 := Lib.hid hb
   have HMU2 := Lib.hid (fun W m (h : m < 4) => HMU.out W k m hlt h)
   have HSB2 := Lib.hid (fun W m (h : m < 4) => HSB.out W k m hlt h)
   have HAD2 := Lib.hid (fun W m (h : m < 4) => HAD.out W r k m HR4.out hlt h)
   rw [← HSU.out] at HAD2
   clear hb hx hx1 hx2 hx1' hm1 hn0 hn1 hp0 hp1 HMR HFIN HMU HSB HAD HOK HNN HLEN
   obtain ⟨xo, xc, rfl, _⟩ := rowM_shape HROW.out
   go_wp2_with fail
   refine HPK.out.mono ?_
   rintro e w1 ⟨⟨m, hm, rfl⟩, rfl⟩
   have hm4 : m < 4 := by omega
   have HI := Lib.hid (rInt_nat m (by omega) wr)
   clear HPK
   go_wp2_with fail
   refine HI.out.mono ?_
   rintro e w2 ⟨rfl, hb⟩
   have HB2 := Lib.hid (HB1.out.trans (hb.mono HB1.out.size))
   have HRW2 := Lib.hid (rowM_below HROW.out hb)
   have HMK := Lib.hid (rMake8 hm4 w2)
   clear hb HI HROW HB1
   go_wp2_with fail
   refine HMK.out.mono ?_
   rintro e w3 ⟨rfl, hb⟩
   have HB3 := Lib.hid (HB2.out.trans (hb.mono HB2.out.size))
   have HRW3 := Lib.hid (rowM_below HRW2.out hb)
   have HM := Lib.hid (HMU2.out w3 m hm4)
   have HR5 := Lib.hid (show ∀ i, (fun i => if i = k then m else r i) i < 4 from fun i => by
    show (if i = k then m else r i) < 4
    split
    ·exact hm4
    ·exact HR4.out i)
   have HL5 := Lib.hid (show lateL P (fun i => if i = k then m else r i) (k + 1) = lateL P r k ++ [((getZ P k).1, qstr (qZ P k + -(qZ P k * lateT m))), (lateS, qstr (qZ P k * lateT m))] from by
    show lateL P (fun i => if i = k then m else r i) k ++ [((getZ P k).1, qstr (latR P _ k)), (lateS, qstr (latP P _ k))] = _
    rw [lateL_congr (s := r) (fun i hi => if_neg (by omega))]
    unfold latR latP
    rw [show (fun i => if i = k then m else r i) k = m from if_pos rfl])
   have HU5 := Lib.hid (show qstr (lateU P (fun i => if i = k then m else r i) (k + 1)) = qstr (lateU P r k + qZ P k * lateT m) from by
    show qstr (lateU P (fun i => if i = k then m else r i) k + latP P _ k) = _
    rw [lateU_congr (s := r) (fun i hi => if_neg (by omega))]
    unfold latP
    rw [show (fun i => if i = k then m else r i) k = m from if_pos rfl])
   have c1 := (HCX.out w3 HB3.out).2
   clear hb HMK HRW2 HB2 HMU2 hm
   go_wp2_with fail
   refine HM.out.mono ?_
   rintro e w4 ⟨rfl, hb⟩
   have HB4 := Lib.hid (HB3.out.trans (hb.mono HB3.out.size))
   have HRW4 := Lib.hid (rowM_below HRW3.out hb)
   have HS := Lib.hid (HSB2.out w4 m hm4)
   clear hb HM HRW3 HB3 c1 HSB2
   have c1 := (HCX.out w4 HB4.out).2
   go_wp2_with fail
   refine HS.out.mono ?_
   rintro e w5 ⟨rfl, hb⟩
   have HB5 := Lib.hid (HB4.out.trans (hb.mono HB4.out.size))
   have HRW5 := Lib.hid (rowM_below HRW4.out hb)
   have HA := Lib.hid (HAD2.out w5 m hm4)
   clear hb HS HRW4 HB4 c1 HAD2
   go_wp2_with fail
   refine HA.out.mono ?_
   rintro e w6 ⟨rfl, hb⟩
   have HB6 := Lib.hid (HB5.out.trans (hb.mono HB5.out.size))
   have HRW6 := Lib.hid (rowM_below HRW5.out hb)
   have c0 := (HCX.out w6 HB6.out).1
   clear hb HA HRW5 HB5 HCX HR4 HSU hm4
   generalize qstr (qZ P k + -(qZ P k * lateT m)) = sr at *
   generalize qstr (qZ P k * lateT m) = sp at *
   generalize qstr (lateU P r k + qZ P k * lateT m) = su2 at *
   generalize (getZ P k).1 = x1 at *
   go_wp2_with (at_builtin; refine wpList_append_own _ rfl _ _ 37 rfl w.heap.size 78 i0 (.agg #[.string ⟨#[]⟩, .string ⟨#[]⟩]) 2 32 Tryz.underlying37 hi hz0 hz1 hz2 rfl (by decide) _ _ _ rfl (HRW6.out.alloc _) ⟨w6.heap.size, 0, none⟩ 2 2 [.string x1, .string sr, .string lateS, .string sp] rfl rfl (World.news_of_block (heap_alloc_new _ _)) (fun u hu => by simp at hu; rcases hu with rfl | rfl | rfl | rfl <;> rfl) ?c3 ?c4 ?c5 ?_)
   case c3 => unfold maxLen; omega
   case c4 => omega
   case c5 => have := HB6.out.size; simp; omega
   intro v' w7 hown' hgrow _
   have hlt5 := HRW6.out.lt
   have HF2 := Lib.hid (And.intro hown' ((HB6.out.alloc HB6.out.size _).grown hgrow (by have := HB6.out.size; simp; omega) (fun q hq => (hlt5 q hq).1)))
   clear hown' hgrow hlt5 c0
   go_wp2_with fail
   go_roundw
   case rel => exact ⟨k + 1, (fun i => if i = k then m else r i), su2, by omega, by go_num, HR5, rfl, Lib.hid HU5.out.symm, Lib.hid (by rw [HL5.out, cellsZ_app, Nat.succ_mul]; exact HF2.out.1), HF2.out.2⟩
   case measure => simp [intOf]; omega
  ·obtain rfl : k = N := by omega
   obtain ⟨S, hS, hX, hmL⟩ := HFIN.out r HR4.out
   have hLL : (lateL P r k).length = k * 2 := lateL_len k
   obtain ⟨xo, xc, rfl, hmr⟩ := MR.own HROW.out hLL
   have HMK := Lib.hid (rMake_any (cap := xc) hmr (by omega) hmL)
   have HB1 := Lib.hid hb
   have HS := Lib.hid (And.intro hS (And.intro hX HR4.out))
   clear hb hmr hS hX hmL hLL HROW HMR HFIN HMU HSB HAD HOK HNN HR4
   go_wp2_with fail
   refine HMK.out.mono ?_
   rintro e w2 ⟨_, h2, hb⟩
   obtain ⟨S', v, f1, _, _, rfl, hrow⟩ := h2 HS.out.1.mke
   rw [HS.out.1.col] at f1
   obtain rfl := Option.some.inj f1
   obtain ⟨yo, yc, rfl, hmr⟩ := MR.own hrow (tZ_len _)
   have HE := Lib.hid (And.intro hmr (HB1.out.trans (hb.mono HB1.out.size)))
   clear h2 hrow hb hmr HMK HB1
   go_wp2_with fail
   go_ret2
   exact ⟨r, _, _, yc, yo, HS.out.2.2, by rw [HSU.out, HLEN.out]; rfl, HE.out.1, HS.out.2.1, HE.out.2⟩
end Go.Proofs.YtkponlbpgmnpgaaGreatDoor
