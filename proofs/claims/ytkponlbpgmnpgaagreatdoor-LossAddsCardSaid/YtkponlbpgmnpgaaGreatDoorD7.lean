/-
  The reference of layer 8: Product.
-/
import Derived.Test.YtkponlbpgmnpgaaGreatDoorDB
import Derived.Laws.Concat
namespace Go.Proofs.YtkponlbpgmnpgaaGreatDoor
open Go.RowKit NV Go.Maps Go.Sort Go.Shelf
open Go.Lib (decDigits)
def scl (R : List MI) (F : Rat) : List MI := R.map fun x => (x.1, qstr (ratS x.2 * F))
theorem scl_len (R : List MI) (F : Rat) : (scl R F).length = R.length := by unfold scl; rw [List.length_map]
theorem scl_run {R : List MI} {F : Rat} (h : ∀ i, i < R.length → QOk (qZ R i * F)) : ∀ k, k ≤ R.length → runO (scF R F) [] k = some (scl (R.take k) F)
 | 0, _ => rfl
 | k + 1, hk => by
  rw [runO_step (scl_run h k (by omega))]
  unfold scF
  rw [okQ_yes (h k (by omega))]
  have hx : R[k]? = some R[k] := List.getElem?_eq_getElem (by omega)
  have e : R.take (k + 1) = R.take k ++ [R[k]] := by rw [List.take_add_one, hx]; rfl
  rw [e]
  unfold scl qZ
  rw [List.map_append, getZ_of hx]
  rfl
theorem scO_yes {R : List MI} {F : Rat} (h : ∀ i, i < R.length → QOk (qZ R i * F)) : scO R F = some (scl R F) := by
 unfold scO
 rw [scl_run h _ (Nat.le_refl _), List.take_length]
def pipeK (a b : ByteArray) : ByteArray := a ++ (⟨#[124]⟩ : ByteArray) ++ b
def pipeJ (u v : List UInt8) : List UInt8 := u ++ [124] ++ v
theorem pipe_j (a b : ByteArray) : (pipeK a b).data.toList = pipeJ a.data.toList b.data.toList := by
 unfold pipeK pipeJ
 simp
def rowP (a : ByteArray) (s : List MI) : List MI := s.map fun x => (pipeK a x.1, x.2)
theorem rowP_len (a : ByteArray) (s : List MI) : (rowP a s).length = s.length := by unfold rowP; rw [List.length_map]
def prodL (P R : List MI) : Nat → List MI
 | 0 => []
 | k + 1 => prodL P R k ++ rowP (getZ P k).1 (scl R (qZ P k))
theorem prodL_len {P R : List MI} : ∀ k, (prodL P R k).length = k * R.length
 | 0 => by rw [Nat.zero_mul]; rfl
 | k + 1 => by
  show (prodL P R k ++ _).length = _
  rw [List.length_append, prodL_len k, rowP_len, scl_len, Nat.succ_mul]
theorem row_get {a : ByteArray} {R : List MI} {F : Rat} {j : Nat} (hj : j < R.length) : getZ (rowP a (scl R F)) j = (pipeK a (getZ R j).1, qstr (qZ R j * F)) := by
 have hx : R[j]? = some R[j] := List.getElem?_eq_getElem hj
 have h : (rowP a (scl R F))[j]? = some (pipeK a R[j].1, qstr (ratS R[j].2 * F)) := by
  unfold rowP scl
  rw [List.getElem?_map, List.getElem?_map, hx]
  rfl
 rw [getZ_of h]
 unfold qZ
 rw [getZ_of hx]
theorem row_kv {a : ByteArray} {R : List MI} {F : Rat} {k : List UInt8} : kv (rowP a (scl R F)) k (rowP a (scl R F)).length = sm (fun j => if k = pipeJ a.data.toList (kZ (getZ R j)) then F * qZ R j else 0) R.length := by
 rw [rowP_len, scl_len]
 unfold kv
 refine sm_eq fun j hj => ?_
 have e1 : kZ (getZ (rowP a (scl R F)) j) = pipeJ a.data.toList (kZ (getZ R j)) := by rw [row_get hj]; exact pipe_j _ _
 have e2 : qZ (rowP a (scl R F)) j = F * qZ R j := by
  show ratS (getZ (rowP a (scl R F)) j).2 = _
  rw [row_get hj, ratS_q, Rat.mul_comm]
 rw [e1, e2]
 by_cases h : k = pipeJ a.data.toList (kZ (getZ R j))
 ·rw [if_pos h, if_pos h.symm]
 ·rw [if_neg h, if_neg (fun e => h e.symm)]
theorem row_sum {a : ByteArray} {R : List MI} {F : Rat} : sm (qZ (rowP a (scl R F))) (rowP a (scl R F)).length = F * sm (qZ R) R.length := by
 rw [rowP_len, scl_len, ← sm_mul]
 refine sm_eq fun j hj => ?_
 show ratS (getZ (rowP a (scl R F)) j).2 = _
 rw [row_get hj, ratS_q, Rat.mul_comm]
theorem prod_kv {P R : List MI} {k : List UInt8} : ∀ n, kv (prodL P R n) k (prodL P R n).length = sm (fun i => sm (fun j => if k = pipeJ (kZ (getZ P i)) (kZ (getZ R j)) then qZ P i * qZ R j else 0) R.length) n
 | 0 => by show (0 : Rat) = 0; rfl
 | n + 1 => by
  show kv (prodL P R n ++ _) k (prodL P R n ++ _).length = _
  rw [kv_app, prod_kv n, row_kv]
  rfl
theorem prod_sum {P R : List MI} (hr : sm (qZ R) R.length = 1) : ∀ n, sm (qZ (prodL P R n)) (prodL P R n).length = sm (qZ P) n
 | 0 => by show (0 : Rat) = 0; rfl
 | n + 1 => by
  show sm (qZ (prodL P R n ++ _)) (prodL P R n ++ _).length = sm (qZ P) n + qZ P n
  rw [sum_app, prod_sum hr n, row_sum, hr, Rat.mul_one]
theorem prod_ks {P R : List MI} {k : List UInt8} (hp : DiL P) (hr : DiL R) : kv (prodL P R P.length) k (prodL P R P.length).length = ks2 P R (fun u v => if k = pipeJ u v then vQ P u * vQ R v else 0) := by
 rw [prod_kv]
 unfold ks2 ks
 exact sm_eq fun i hi => sm_eq fun j hj => by
  show _ = (if k = pipeJ (kZ (getZ P i)) (kZ (getZ R j)) then vQ P (kZ (getZ P i)) * vQ R (kZ (getZ R j)) else 0)
  rw [vQ_get hp.srt hi, vQ_get hr.srt hj]
theorem prod_fine {P R : List MI} (hp : DiL P) (hr : DiL R) (sp : ∀ i, i < P.length → Sz 24 (qZ P i)) (sr : ∀ i, i < R.length → Sz 24 (qZ R i)) : ∀ {k : Nat}, k ≤ P.length → FineL (pd P P.length * pd R R.length) (prodL P R k)
 | 0, _ => fun x hx => by cases hx
 | k + 1, hk => by
  refine FineL.app (prod_fine hp hr sp sr (by omega)) fun x hx => ?_
  unfold rowP scl at hx
  rw [List.map_map] at hx
  obtain ⟨y, hy, rfl⟩ := List.mem_map.1 hx
  obtain ⟨j, hj, rfl⟩ := List.mem_iff_getElem.1 hy
  have e : ratS R[j].2 = qZ R j := by unfold qZ; rw [getZ_of (List.getElem?_eq_getElem hj)]
  refine ⟨qZ R j * qZ P k, by show qstr (ratS R[j].2 * qZ P k) = _; rw [e], (Sz.mul (sr j hj) (sp k (by omega))).qok (by omega) (by omega), Rat.mul_nonneg (Rat.le_of_lt (hr.pos j hj)) (Rat.le_of_lt (hp.pos k (by omega))), ?_⟩
  rw [Rat.mul_comm]
  exact Zd.mul ((Zd.den _).up (pd_dvd (by omega))) ((Zd.den _).up (pd_dvd hj))
set_option exponentiation.threshold 4000 in
theorem prodD_lt {P R : List MI} (hp : P.length ≤ 16) (hr : R.length ≤ 16) (sp : ∀ i, i < P.length → Sz 24 (qZ P i)) (sr : ∀ i, i < R.length → Sz 24 (qZ R i)) : pd P P.length * pd R R.length < 10 ^ 792 := by
 have h1 : pd P P.length ≤ 10 ^ 384 := Nat.le_trans (pd_lt sp _ (Nat.le_refl _)) (Nat.pow_le_pow_right (by omega) (by omega))
 have h2 : pd R R.length ≤ 10 ^ 384 := Nat.le_trans (pd_lt sr _ (Nat.le_refl _)) (Nat.pow_le_pow_right (by omega) (by omega))
 have h3 : (10 : Nat) ^ 792 = 10 ^ 384 * 10 ^ 384 * 10 ^ 24 := by rw [← Nat.pow_add, ← Nat.pow_add]
 rw [h3]
 exact Nat.lt_of_le_of_lt (Nat.mul_le_mul h1 h2) ((Nat.lt_mul_iff_one_lt_right (Nat.mul_pos (Nat.pow_pos (by omega)) (Nat.pow_pos (by omega)))).2 (Nat.one_lt_pow (by omega) (by omega)))
theorem cellsZ_setk : ∀ (S : List MI) (p : Nat) (x : MI) (t : ByteArray), S[p]? = some x → cellsZ (S.set p (t, x.2)) = (cellsZ S).set (p * 2) (.string t)
 | [], p, x, t, h => by simp at h
 | y :: S, 0, x, t, h => by
  obtain rfl : y = x := by simpa using h
  rfl
 | y :: S, p + 1, x, t, h => by
  have ih := cellsZ_setk S p x t (by simpa using h)
  rw [show (p + 1) * 2 = p * 2 + 1 + 1 by omega]
  show _ :: _ :: cellsZ (S.set p (t, x.2)) = _
  rw [ih]
  rfl
def mixR (a : ByteArray) (s : List MI) (j : Nat) : List MI := (rowP a s).take j ++ s.drop j
theorem mixR_get {a : ByteArray} {s : List MI} {j : Nat} {x : MI} (hx : s[j]? = some x) : (mixR a s j)[j]? = some x := by
 have hj := (List.getElem?_eq_some_iff.1 hx).1
 unfold mixR
 rw [List.getElem?_append_right (by rw [List.length_take, rowP_len]; omega), List.length_take, rowP_len, List.getElem?_drop]
 rw [show j + (j - min j s.length) = j by omega]
 exact hx
theorem mixR_set {a : ByteArray} {s : List MI} {j : Nat} {x : MI} (hx : s[j]? = some x) : (mixR a s j).set j (pipeK a x.1, x.2) = mixR a s (j + 1) := by
 have hj := (List.getElem?_eq_some_iff.1 hx).1
 have hr : (rowP a s)[j]? = some (pipeK a x.1, x.2) := by unfold rowP; rw [List.getElem?_map, hx]; rfl
 have hd : s.drop j = x :: s.drop (j + 1) := by
  rw [List.drop_eq_getElem_cons hj]
  congr 1
  exact Option.some.inj ((List.getElem?_eq_getElem hj).symm.trans hx)
 unfold mixR
 rw [hd, List.take_add_one, hr]
 have hl : ((rowP a s).take j).length = j := by rw [List.length_take, rowP_len]; omega
 rw [List.set_append_right _ _ (by omega), hl, Nat.sub_self]
 simp
structure ProdX (P R X : List MI) (NX : Nat) : Prop where
 len : X.length = NX
 le : NX ≤ 256
 chk : chkZ X = 0
 ml : ML2 X
 val : ∀ k, vQ X k = ks2 P R (fun u v => if k = pipeJ u v then vQ P u * vQ R v else 0)
 zd : ∀ k, Zd (pd P P.length * pd R R.length) (vQ X k)
theorem prod_coll {P R : List MI} (hp : DiL P) (hr : DiL R) (lp : P.length ≤ 16) (lr : R.length ≤ 16) (sp : ∀ i, i < P.length → Sz 24 (qZ P i)) (sr : ∀ i, i < R.length → Sz 24 (qZ R i)) (kp : ∀ x, x ∈ P → x.1.size ≤ 400000) (kr : ∀ x, x ∈ R → x.1.size ≤ 400000) :
  ∃ S, CollR (prodL P R P.length) (pd P P.length * pd R R.length) S ∧ ProdX P R (tZ (outQ S)) (outQ S).length ∧ ML2 (prodL P R P.length) := by
 have hf := prod_fine hp hr sp sr (Nat.le_refl _)
 have hone : sm (qZ (prodL P R P.length)) (prodL P R P.length).length = 1 := by rw [prod_sum hr.one, hp.one]
 obtain ⟨S, hS⟩ := coll_ok (K := 792) hf hone (Nat.mul_pos (pd_pos _) (pd_pos _)) (prodD_lt lp lr sp sr) (by omega) (by omega)
 have hmL : ∀ k, k ≤ P.length → ML2 (prodL P R k) := fun k => by
  induction k with
  | zero => exact fun _ x hx => by cases hx
  | succ k ih =>
   intro hk x hx
   rcases List.mem_append.1 hx with hx | hx
   ·exact ih (by omega) x hx
   ·unfold rowP scl at hx
    rw [List.map_map] at hx
    obtain ⟨y, hy, rfl⟩ := List.mem_map.1 hx
    obtain ⟨j, hj, rfl⟩ := List.mem_iff_getElem.1 hy
    have e : ratS R[j].2 = qZ R j := by unfold qZ; rw [getZ_of (List.getElem?_eq_getElem hj)]
    have h1 := kr _ (List.getElem_mem hj)
    have h2 : (getZ P k).1.size ≤ 400000 := by
     rw [getZ_of (List.getElem?_eq_getElem (show k < P.length by omega))]
     exact kp _ (List.getElem_mem _)
    refine ⟨?_, Nat.le_trans (qstr_size (show QOk (ratS R[j].2 * qZ P k) by rw [e]; exact (Sz.mul (sr j hj) (sp k (by omega))).qok (by omega) (by omega))) (by omega)⟩
    show (pipeK (getZ P k).1 R[j].1).size ≤ 1000000
    unfold pipeK
    rw [ByteArray.size_append, ByteArray.size_append]
    show _ + 1 + _ ≤ _
    omega
 have hm := hmL _ (Nat.le_refl _)
 have hlen := hS.len
 rw [prodL_len] at hlen
 have h256 : P.length * R.length ≤ 16 * 16 := Nat.mul_le_mul lp lr
 refine ⟨S, hS, ⟨tZ_len _, by omega, hS.chk, fun x hx => ?_, fun k => ?_, hS.zd⟩, hm⟩
 ·obtain ⟨y, hy, rfl⟩ := List.mem_map.1 hx
  have hyS : y ∈ S := (List.mem_filter.1 hy).1
  have hI := ColI.run (L := prodL P R P.length) (Nat.le_refl _) (show runO (colS (prodL P R P.length)) [] (prodL P R P.length).length = some S from hS.col)
  obtain ⟨z, hz, e⟩ := hI.key y hyS
  refine ⟨?_, Nat.le_trans (qstr_size (hI.ok y hyS)) (by omega)⟩
  show y.1.size ≤ _
  rw [e]
  exact (hm z hz).1
 ·rw [hS.val, prod_ks hp hr]
set_option maxHeartbeats 12800000 in
set_option maxRecDepth 100000 in
theorem rProduct_any {P R : List MI} {N M c1 c2 : Nat} {a1 a2 : Option Addr} {w : World} (hp : MR w a1 N P) (hq : MR w a2 M R) (lp : litB P = true) (lr : litB R = true) (cp : chkZ P = 0) (cr : chkZ R = 0) :
  Calls Tryz.prog 44 #[.slice a1 N c1, .slice a2 M c2] w fun e w' => ∃ (X : List MI) (NX xc : Nat) (xo : Option Addr), e = .returned (.tuple #[.slice xo NX xc, .int .i64 0]) ∧ MR w' xo NX X ∧ ProdX P R X NX ∧ Below w.heap.size w w' := by
 obtain ⟨i0, hi, hz0, hz1, hz2⟩ := info_parts infoZ
 have dP := DiL.of cp
 have dR := DiL.of cr
 have hlP := hp.len
 have hlR := hq.len
 have b1 := (litB_yes lp).1
 have b2 := (litB_yes lr).1
 have kp : ∀ x, x ∈ P → x.1.size ≤ 400000 := fun x hx => by
  have := ((litB_yes lp).2 x hx).1
  omega
 have kr : ∀ x, x ∈ R → x.1.size ≤ 400000 := fun x hx => by
  have := ((litB_yes lr).2 x hx).1
  omega
 have sp := fun i hi => lit_sz lp dP.ok i hi
 have sr := fun i hi => lit_sz lr dR.ok i hi
 have HFIN := Lib.hid (show ∃ S, CollR (prodL P R N) (pd P P.length * pd R R.length) S ∧ ProdX P R (tZ (outQ S)) (outQ S).length ∧ ML2 (prodL P R N) from by rw [← hlP]; exact prod_coll dP dR b1 b2 sp sr kp kr)
 have HBO := Lib.hid (show Calls Tryz.prog 114 #[.slice a1 N c1, .slice a2 M c2] w (fun e w' => e = .returned (.int .i64 0) ∧ Below w.heap.size w w') from by
  have h := rboth_any (c1 := c1) (c2 := c2) hp hq (by omega) (by omega) (litB_ml lp) (litB_ml lr)
  unfold bE at h
  rw [cp, cr] at h
  exact h)
 have HSC := Lib.hid (show ∀ W k, Below w.heap.size w W → k < N → Calls Tryz.prog 115 #[.slice a2 M c2, .string (qstr (qZ P k))] W (fun e w' => (∃ v, e = .returned (.tuple #[v, .int .i64 0]) ∧ w'.ownsRow W.heap.size 78 2 v M (cellsZ (scl R (qZ P k)))) ∧ Below W.heap.size W w') from fun W k hb hk => by
  have h := rScaled_any (cap := c2) (F := qZ P k) (hq.below hb) (by omega) dR.ok ((sp k (by omega)).qok (by omega) (by omega))
  refine h.mono ?_
  rintro e w' ⟨h1, _, h3⟩
  obtain ⟨v, he, hr⟩ := h1 _ (scO_yes fun i hi => (Sz.mul (sr i hi) (sp k (by omega))).qok (by omega) (by omega))
  rw [scl_len, hlR] at hr
  exact ⟨⟨v, he, hr⟩, h3⟩)
 have HKS := Lib.hid (And.intro kp kr)
 have HNM := Lib.hid (show M ≠ 0 from fun h => by
  have h1 := dR.one
  rw [hlR, h] at h1
  exact absurd (show (0 : Rat) = 1 from h1) (by decide))
 have HMP := Lib.hid hp
 have HOK := Lib.hid dP.ok
 have HLR := Lib.hid hlR
 have hmul : N * M ≤ 16 * 16 := Nat.mul_le_mul (by omega) (by omega)
 have hmi : ((N : Int) * (M : Int)) = ((N * M : Nat) : Int) := by rw [Int.natCast_mul]
 have hN16 : N ≤ 16 := by omega
 have hM16 : M ≤ 16 := by omega
 obtain ⟨NM, hNM⟩ : ∃ NM, NM = N * M := ⟨_, rfl⟩
 rw [← hNM] at hmul hmi
 have HNMul := Lib.hid hNM
 have hcap : ¬ (4096 : Int) < (NM : Int) := by omega
 clear hp hq lp lr cp cr dP dR hlP hlR b1 b2 kp kr sp sr hNM
 go_enter Tryz.func44, Tryz.ntmps44
 go_wp2_with fail
 refine HBO.out.mono ?_
 rintro e w1 ⟨rfl, hb⟩
 have HB1 := Lib.hid hb
 clear hb HBO
 go_wp2_with fail
 go_loopw [7, 8] (fun vv iv wr => ∃ k : Nat, k ≤ N ∧ iv = .int .i64 (k : Int) ∧ Hid (wr.ownsRow w.heap.size 78 2 vv (k * M) (cellsZ (prodL P R k))) ∧ Below w.heap.size w wr) (fun _ iv _ => N - (intOf iv).toNat)
 case atStart => exact ⟨0, Nat.zero_le _, rfl, Lib.hid (by rw [Nat.zero_mul]; exact World.ownsRow_nil _ _ _ _), HB1.out⟩
 case round =>
  obtain ⟨k, hk, rfl, HROW, hb⟩ := hrel
  by_cases hlt : k < N
  ·obtain ⟨a, x, rfl, hx, hab, _, _⟩ := (HMP.out.below hb).at hlt
   obtain ⟨hx1, hx2⟩ := HOK.out.at hx
   have hgx := getZ_of hx
   have HPL := Lib.hid (show prodL P R (k + 1) = prodL P R k ++ rowP x.1 (scl R (qZ P k)) from by
    show prodL P R k ++ rowP (getZ P k).1 _ = _
    rw [hgx])
   have HCX := Lib.hid (show ∀ W, Below w.heap.size w W → W.cell? (a.add (k * 2)) = some (.string x.1) ∧ W.cell? ⟨(a.add (k * 2)).block, (a.add (k * 2)).off + 1, none⟩ = some (.string (qstr (qZ P k))) from fun W hw => by
    obtain ⟨ad', x', h1, h2, _, h3, h4⟩ := (HMP.out.below hw).at hlt
    obtain rfl := Option.some.inj h1
    rw [hx] at h2
    obtain rfl := Option.some.inj h2
    rw [hx1] at h4
    exact ⟨h3, h4⟩)
   have hk4 : x.1.size ≤ 400000 := HKS.out.1 _ (List.mem_of_getElem? hx)
   have HB2 := Lib.hid hb
   have HS := Lib.hid (HSC.out wr k hb hlt)
   have c1 := (HCX.out wr hb).2
   obtain ⟨x1, x2⟩ := x
   obtain ⟨vo, vc, rfl, _⟩ := rowM_shape HROW.out
   have HKR := Lib.hid HKS.out.2
   have HSL := Lib.hid (show (scl R (qZ P k)).length = M by rw [scl_len, HLR.out])
   have HSK := Lib.hid (show ∀ j (y : MI), (scl R (qZ P k))[j]? = some y → y.1.size ≤ 400000 from fun j y hy => by
    unfold scl at hy
    rw [List.getElem?_map] at hy
    cases hz : R[j]? with
    | none => rw [hz] at hy; cases hy
    | some z =>
     rw [hz] at hy
     obtain rfl : (z.1, qstr (ratS z.2 * qZ P k)) = y := Option.some.inj hy
     exact HKR.out z (List.mem_of_getElem? hz))
   clear hb hx hx1 hx2 hgx hab HFIN HSC HKS HMP HOK HLR HKR hmul hmi hcap
   go_wp2_with fail
   refine HS.out.mono ?_
   rintro e w2 ⟨⟨v, rfl, hrow⟩, hb⟩
   generalize scl R (qZ P k) = sl at *
   obtain ⟨ao', cl, rfl, hg⟩ := rowM_shape hrow
   obtain ⟨g, rfl, hg1, hg2⟩ := hg HNM.out
   have HGW := Lib.hid (And.intro hg1 (And.intro HB2.out.size hb))
   have HRS := Lib.hid hrow
   have HROWO := Lib.hid HROW.out
   clear hb hrow hg1 hg2 HS c1 HROW
   go_wp2_with fail
   obtain ⟨wo, hwo⟩ : ∃ wo, wo = wr := ⟨_, rfl⟩
   rw [← hwo] at HB2 HGW HRS HROWO
   clear hwo
   go_loopw [11] (fun jv wq => ∃ j : Nat, j ≤ M ∧ jv = .int .i64 (j : Int) ∧ Hid (wq.ownsRow wo.heap.size 78 2 (.slice (some ⟨g, 0, none⟩) M cl) M (cellsZ (mixR x1 sl j))) ∧ Below wo.heap.size wo wq) (fun jv _ => M - (intOf jv).toNat)
   case atStart => exact ⟨0, Nat.zero_le _, rfl, Lib.hid (by
    have h : mixR x1 sl 0 = sl := by unfold mixR; rw [List.take_zero, List.drop_zero, List.nil_append]
    rw [h]
    exact HRS.out), HGW.out.2.2⟩
   case round =>
    obtain ⟨j, hj, rfl, HRQ, hbq⟩ := hrel
    by_cases hjl : j < M
    ·obtain ⟨y, hy⟩ : ∃ y, sl[j]? = some y := ⟨_, List.getElem?_eq_getElem (by rw [HSL.out]; exact hjl)⟩
     have hyk := HSK.out j y hy
     obtain ⟨y1, y2⟩ := y
     have HSET := Lib.hid (show (cellsZ (mixR x1 sl j)).set (j * 2) (.string (x1 ++ (⟨#[124]⟩ : ByteArray) ++ y1)) = cellsZ (mixR x1 sl (j + 1)) from by
      rw [← mixR_set hy, cellsZ_setk _ _ _ _ (mixR_get hy)]
      rfl)
     have HGY := Lib.hid (mixR_get (a := x1) hy)
     have HBQ := Lib.hid hbq
     have HBQ2 := Lib.hid (HB2.out.trans (hbq.mono HB2.out.size))
     clear hy hbq
     go_wp2_with fail
     refine wp_world (Below.refl wr.heap.size wr) (fun wx hbx => ?_)
     have HBX := Lib.hid hbx
     have HRX := Lib.hid (rowM_below HRQ.out hbx)
     have HLD := Lib.hid (show ∀ W, Ch (fun j => j = g) wx W → W.cell? (a.add (k * 2)) = some (.string x1) from fun W hW => (HCX.out W (HBQ2.out.trans ((HBX.out.mono HBQ2.out.size).trans (hW.to_below (Nat.le_trans HBQ2.out.size HBX.out.size) (fun j e => by have h1 := HGW.out.1; have h2 := HGW.out.2.1; omega))))).1)
     have HLY := Lib.hid (show ∀ W, Below wx.heap.size wx W → W.cell? ⟨g, j * 2, none⟩ = some (.string y1) from fun W hW => by
      have h1 := (rowM_below HRX.out hW).cells (g := g) rfl (j * 2) _ (cellsZ_get _ j _ HGY.out).1
      rw [Addr.add_lit, Nat.zero_add] at h1
      exact h1)
     have hq1 : ∀ W : World, (Op.stringOp .add x1 ⟨#[124]⟩).run Tryz.prog W = .ok (.string (x1 ++ (⟨#[124]⟩ : ByteArray))) W := fun W => run_string_add_sum W x1 _ (by show x1.size + 1 ≤ _; omega)
     have hq2 : ∀ W : World, (Op.stringOp .add (x1 ++ (⟨#[124]⟩ : ByteArray)) y1).run Tryz.prog W = .ok (.string (x1 ++ (⟨#[124]⟩ : ByteArray) ++ y1)) W := fun W => run_string_add_sum W _ _ (by rw [ByteArray.size_append]; show x1.size + 1 + y1.size ≤ _; omega)
     clear hbx
     refine wp_region_held (S := fun W => Ch (fun j => j = g) wx W) (by kernel_rfl) ?_
     change wpAnyH _ _ _ _ _ 17 _ _ wx.drew
     have hB0 := (Below.refl wx.heap.size wx).drew
     have hD0 : Ch (fun j => j = g) wx wx.drew := Ch.below hB0
     generalize wx.drew = W at *
     refine wpHz_take (i := 0) (d := 49) (v := .slice (some ⟨g, 0, none⟩) M cl) rfl rfl (by kernel_rfl) (by kernel_rfl) (by kernel_rfl) (fun _ _ _ h => h) rfl (fun W _ => by go_simp) hD0 ?_
     simp only [Act.put, sA, sB, sC]
     refine wpHz_take (i := 1) (d := 50) (v := .int .i64 (j : Int)) rfl rfl (by kernel_rfl) (by kernel_rfl) (by kernel_rfl) (fun _ _ _ h => h) rfl (fun W _ => by go_simp) hD0 ?_
     simp only [Act.put, sA, sB, sC]
     refine wpHz_take (i := 2) (d := 51) (v := .slice (some a) N c1) rfl rfl (by kernel_rfl) (by kernel_rfl) (by kernel_rfl) (fun _ _ _ h => h) rfl (fun W _ => by go_simp) hD0 ?_
     simp only [Act.put, sA, sB, sC]
     refine wpHz_take (i := 3) (d := 52) (v := .int .i64 (k : Int)) rfl rfl (by kernel_rfl) (by kernel_rfl) (by kernel_rfl) (fun _ _ _ h => h) rfl (fun W _ => by go_simp) hD0 ?_
     simp only [Act.put, sA, sB, sC]
     refine wpHz_take (i := 4) (d := 53) (v := .pointer (some (a.add (k * 2)))) rfl rfl (by kernel_rfl) (by kernel_rfl) (by kernel_rfl) (fun _ _ _ h => h) rfl (fun W _ => by go_simp) hD0 ?_
     simp only [Act.put, sA, sB, sC]
     refine wpHz_take (i := 5) (d := 54) (v := .pointer (some (a.add (k * 2)))) rfl rfl (by kernel_rfl) (by kernel_rfl) (by kernel_rfl) (fun _ _ _ h => h) rfl (fun W _ => by go_simp) hD0 ?_
     simp only [Act.put, sA, sB, sC]
     refine wpHz_take (i := 6) (d := 55) (v := .string x1) rfl rfl (by kernel_rfl) (by kernel_rfl) (by kernel_rfl) (fun _ _ _ h => h) rfl (fun W hW => by have e0 := HLD.out W hW; go_simp) hD0 ?_
     simp only [Act.put, sA, sB, sC]
     refine wpHz_take (i := 7) (d := 56) (v := .string (x1 ++ (⟨#[124]⟩ : ByteArray))) rfl rfl (by kernel_rfl) (by kernel_rfl) (by kernel_rfl) (fun _ _ _ h => h) rfl (fun W _ => by go_simp) hD0 ?_
     simp only [Act.put, sA, sB, sC]
     refine wpHz_take (i := 8) (d := 57) (v := .slice (some ⟨g, 0, none⟩) M cl) rfl rfl (by kernel_rfl) (by kernel_rfl) (by kernel_rfl) (fun _ _ _ h => h) rfl (fun W _ => by go_simp) hD0 ?_
     simp only [Act.put, sA, sB, sC]
     refine wpHz_take (i := 9) (d := 58) (v := .int .i64 (j : Int)) rfl rfl (by kernel_rfl) (by kernel_rfl) (by kernel_rfl) (fun _ _ _ h => h) rfl (fun W _ => by go_simp) hD0 ?_
     simp only [Act.put, sA, sB, sC]
     refine wpHz_take (i := 10) (d := 59) (v := .pointer (some ⟨g, j * 2, none⟩)) rfl rfl (by kernel_rfl) (by kernel_rfl) (by kernel_rfl) (fun _ _ _ h => h) rfl (fun W _ => by go_simp) hD0 ?_
     simp only [Act.put, sA, sB, sC]
     refine wpHz_take (i := 11) (d := 60) (v := .pointer (some ⟨g, j * 2, none⟩)) rfl rfl (by kernel_rfl) (by kernel_rfl) (by kernel_rfl) (fun _ _ _ h => h) rfl (fun W _ => by go_simp) hD0 ?_
     simp only [Act.put, sA, sB, sC]
     have e1 := HLY.out W hB0
     refine wpHz_one (i := 12) (by kernel_rfl) ?_
     refine wpOz_run rfl rfl (wpz_value (v := .string y1) (w' := W) (d := 61) rfl (by skip; go_simp) ⟨hD0, ?_⟩)
     simp only [Act.put, sA, sB, sC]
     refine wpHz_take (i := 13) (d := 62) (v := .string (x1 ++ (⟨#[124]⟩ : ByteArray) ++ y1)) rfl rfl (by kernel_rfl) (by kernel_rfl) (by kernel_rfl) (fun _ _ _ h => h) rfl (fun W _ => by go_simp) hD0 ?_
     simp only [Act.put, sA, sB, sC]
     refine wpHz_take (i := 14) (d := 63) (v := .pointer (some ⟨g, j * 2, none⟩)) rfl rfl (by kernel_rfl) (by kernel_rfl) (by kernel_rfl) (fun _ _ _ h => h) rfl (fun W _ => by go_simp) hD0 ?_
     simp only [Act.put, sA, sB, sC]
     refine wpHz_take (i := 15) (d := 64) (v := .pointer (some ⟨g, j * 2, none⟩)) rfl rfl (by kernel_rfl) (by kernel_rfl) (by kernel_rfl) (fun _ _ _ h => h) rfl (fun W _ => by go_simp) hD0 ?_
     simp only [Act.put, sA, sB, sC]
     refine wpHz_one (i := 16) (by kernel_rfl) ?_
     have hru := rowM_below HRX.out hB0
     have f1 := hru.frozenAt (j * 2)
     have HRU := Lib.hid (hru.stored (j * 2) (.string (x1 ++ (⟨#[124]⟩ : ByteArray) ++ y1)))
     have HD1 := Lib.hid (HBX.out.trans (hB0.mono HBX.out.size))
     refine wpOz_run rfl rfl (wpz_skip (w' := W.setCell ⟨g, j * 2, none⟩ (.string (x1 ++ (⟨#[124]⟩ : ByteArray) ++ y1))) rfl (by go_simp) ⟨hD0.trans (Ch.setCell _ _ _ rfl), ?_⟩)
     refine wpAnyH_done (by kernel_rfl) ?_ _
     have hbd : Below wo.heap.size wo W := HBQ.out.trans (HD1.out.mono HBQ.out.size)
     have HBF := Lib.hid (hbd.grown HRU.out.2 hbd.size (fun b hb => by cases hb; exact HGW.out.1))
     clear hbd
     clear hru f1 e1 hD0 hB0 hq1 hq2 HLD HLY HBX HRX HD1 HBQ2
     go_wp2_with fail
     go_roundw
     case rel => exact ⟨j + 1, by omega, by go_num, Lib.hid (by rw [← HSET.out]; exact HRU.out.1), HBF.out⟩
     case measure => simp [intOf]; omega
    ·obtain rfl : j = M := by omega
     have hfull : mixR x1 sl j = rowP x1 sl := by
      have hz := HSL.out
      unfold mixR
      rw [List.take_of_length_le (by rw [rowP_len]; omega), List.drop_of_length_le (by omega), List.append_nil]
     rw [hfull] at HRQ
     have HUC := Lib.hid (show ∀ i u, (cellsZ (rowP x1 sl))[i]? = some u → wr.cell? (Addr.add ⟨g, 0, none⟩ i) = some u from fun i u hu => HRQ.out.cells (g := g) rfl i u hu)
     have hb3 := hbq
     have HROW3 := Lib.hid (rowM_below HROWO.out hbq)
     have HB4 := Lib.hid (HB2.out.trans (hbq.mono HB2.out.size))
     have HLN := Lib.hid (show (cellsZ (rowP x1 sl)).length = j * 2 from by rw [cellsZ_len, rowP_len, HSL.out])
     have hkj : k * j ≤ 16 * 16 := Nat.mul_le_mul (by omega) (by omega)
     clear hfull hbq hb3 HRQ
     go_wp2_with (at_builtin; refine wpList_append_own _ rfl _ _ 37 rfl w.heap.size 78 i0 (.agg #[.string ⟨#[]⟩, .string ⟨#[]⟩]) 2 32 Tryz.underlying37 hi hz0 hz1 hz2 rfl (by decide) _ _ _ rfl HROW3.out ⟨g, 0, none⟩ j cl (cellsZ (rowP x1 sl)) rfl HLN.out HUC.out (cellsZ_one _) ?c3 ?c4 ?c5 ?_)
     case c3 => unfold maxLen; omega
     case c4 => omega
     case c5 => have := HB4.out.size; omega
     intro v' w7 hown' hgrow _
     have hlt5 := HROW3.out.lt
     have HF2 := Lib.hid (And.intro hown' (HB4.out.grown hgrow HB4.out.size (fun q hq => (hlt5 q hq).1)))
     clear hown' hgrow hlt5 HUC
     go_wp2_with fail
     go_roundw
     case rel => exact ⟨k + 1, by omega, by go_num, Lib.hid (by rw [HPL.out, cellsZ_app, Nat.succ_mul]; exact HF2.out.1), HF2.out.2⟩
     case measure => simp [intOf]; omega
  ·obtain rfl : k = N := by omega
   obtain ⟨S, hS, hX, hmL⟩ := HFIN.out
   have hLL : (prodL P R k).length = k * M := by rw [prodL_len, HLR.out]
   obtain ⟨xo, xc, rfl, hmr⟩ := MR.own HROW.out hLL
   have hkm : k * M ≤ 16 * 16 := Nat.mul_le_mul (by omega) (by omega)
   have HMK := Lib.hid (rMake_any (cap := xc) hmr (by omega) hmL)
   have HB2 := Lib.hid hb
   have HS := Lib.hid (And.intro hS hX)
   clear hb hmr hS hX hmL hLL HROW HMP HFIN HSC HKS HOK hkm hmul hmi hcap
   go_wp2_with fail
   refine HMK.out.mono ?_
   rintro e w2 ⟨_, h2, hb⟩
   obtain ⟨S', v, f1, _, _, rfl, hrow⟩ := h2 HS.out.1.mke
   rw [HS.out.1.col] at f1
   obtain rfl := Option.some.inj f1
   obtain ⟨yo, yc, rfl, hmr⟩ := MR.own hrow (tZ_len _)
   have HE := Lib.hid (And.intro hmr (HB2.out.trans (hb.mono HB2.out.size)))
   clear h2 hrow hb hmr HMK HB2
   go_wp2_with fail
   go_ret2
   exact ⟨_, _, yc, yo, rfl, HE.out.1, HS.out.2, HE.out.2⟩
end Go.Proofs.YtkponlbpgmnpgaaGreatDoor
