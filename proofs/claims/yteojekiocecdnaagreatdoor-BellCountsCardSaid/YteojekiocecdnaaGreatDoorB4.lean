/-
  The number of a bit string: Check, checkShort, smallNumber, power, number.
-/
import Derived.Test.YteojekiocecdnaaGreatDoorB3
import Derived.Test.YteojekiocecdnaaGreatDoorGO
namespace Go.Proofs.YteojekiocecdnaaGreatDoor
open Go.RowKit NV
open Go.Lib (decDigits)

/-- The number whose binary digits a text is. -/
def bvF (a : Nat) (l : List UInt8) : Nat := l.foldl (fun a c => 2 * a + (c.toNat - 48)) a
def bv (l : List UInt8) : Nat := bvF 0 l
def IsBits (l : List UInt8) : Prop := ∀ c ∈ l, c = 48 ∨ c = 49

theorem bvF_eq : ∀ (l : List UInt8) (a : Nat), bvF a l = a * 2 ^ l.length + bv l
  | [], a => by simp [bvF, bv]
  | c :: l, a => by
    have h1 : bvF a (c :: l) = bvF (2 * a + (c.toNat - 48)) l := rfl
    have h2 : bv (c :: l) = bvF (2 * 0 + (c.toNat - 48)) l := rfl
    rw [h1, h2, bvF_eq l (2 * a + (c.toNat - 48)), bvF_eq l (2 * 0 + (c.toNat - 48)), List.length_cons, Nat.pow_succ, Nat.add_mul, Nat.add_mul, Nat.mul_zero, Nat.zero_mul, Nat.mul_comm 2 a, Nat.mul_assoc, Nat.mul_comm (2 ^ l.length) 2]
    omega
theorem bv_append (l m : List UInt8) : bv (l ++ m) = bv l * 2 ^ m.length + bv m := by
  have : bv (l ++ m) = bvF (bv l) m := by unfold bv bvF; rw [List.foldl_append]
  rw [this, bvF_eq]
theorem bv_lt : ∀ (l : List UInt8), IsBits l → bv l < 2 ^ l.length
  | [], _ => by simp [bv, bvF]
  | c :: l, h => by
    have h2 : bv (c :: l) = bvF (2 * 0 + (c.toNat - 48)) l := rfl
    have h3 := bv_lt l (fun x hx => h x (List.mem_cons_of_mem _ hx))
    rw [h2, bvF_eq, List.length_cons, Nat.pow_succ]
    rcases h c (List.mem_cons_self ..) with rfl | rfl
    · simp; omega
    · simp; omega
theorem IsBits.take {l : List UInt8} (h : IsBits l) (k : Nat) : IsBits (l.take k) := fun c hc => h c (List.mem_of_mem_take hc)
theorem IsBits.drop {l : List UInt8} (h : IsBits l) (k : Nat) : IsBits (l.drop k) := fun c hc => h c (List.mem_of_mem_drop hc)

theorem restB_list (s : ByteArray) (c k : Nat) : (restB s c k).data.toList = s.data.toList.drop (k * c) := by
  unfold restB
  rw [ByteArray.data_extract, Array.toList_extract, List.extract_eq_take_drop]
  apply List.take_of_length_le
  rw [List.length_drop, Go.Lib.size_eq]
  omega
theorem piece_list (s : ByteArray) (c k : Nat) : (piece s c k).data.toList = (s.data.toList.drop (k * c)).take c := by
  have hr := restB_list s c k
  have hl : (restB s c k).size = (s.data.toList.drop (k * c)).length := by rw [Go.Lib.size_eq, hr]
  unfold piece
  split
  · rw [ByteArray.data_extract, Array.toList_extract, List.extract_eq_take_drop, hr]; simp
  · rw [hr, List.take_of_length_le (by omega)]
theorem pieces_take (s : ByteArray) (c k : Nat) : s.data.toList.take ((k + 1) * c) = s.data.toList.take (k * c) ++ (piece s c k).data.toList := by
  rw [piece_list, Nat.succ_mul, List.take_add]
theorem np_all {s : ByteArray} {c : Nat} (hc : 0 < c) : s.data.toList.take (np c s.size * c) = s.data.toList := by
  apply List.take_of_length_le
  rw [← Go.Lib.size_eq]
  have : ¬ np c s.size < np c s.size := Nat.lt_irrefl _
  rw [np_lt hc] at this
  omega
theorem piece_size (s : ByteArray) {c k : Nat} : (piece s c k).size ≤ c := by
  rw [Go.Lib.size_eq, piece_list, List.length_take]; omega
theorem piece_bits {s : ByteArray} (h : IsBits s.data.toList) (c k : Nat) : IsBits (piece s c k).data.toList := by
  rw [piece_list]; exact (h.drop _).take _

set_option maxHeartbeats 800000 in
theorem small_step0 (a : Nat) (ha : a < 2305843009213693952) (w : World) :
    Calls Tryz.prog 226 #[.int .i64 (a : Int), .string ⟨#[48]⟩] w fun e w' => e = .returned (.int .i64 ((2 * a : Nat) : Int)) ∧ w = w' := by
  go_enter Tryz.func226, Tryz.ntmps226
  go_wp2_with fail
  go_ret
  exact ⟨by go_num, rfl⟩
set_option maxHeartbeats 800000 in
theorem small_step1 (a : Nat) (ha : a < 2305843009213693952) (w : World) :
    Calls Tryz.prog 226 #[.int .i64 (a : Int), .string ⟨#[49]⟩] w fun e w' => e = .returned (.int .i64 ((2 * a + 1 : Nat) : Int)) ∧ w = w' := by
  go_enter Tryz.func226, Tryz.ntmps226
  go_wp2_with fail
  go_ret
  exact ⟨by go_num, rfl⟩

theorem small_step {a : Nat} (ha : a < 2305843009213693952) {p : ByteArray} (hp : IsBits p.data.toList) (h1 : p.data.toList.length = 1) (w : World) :
    Calls Tryz.prog 226 #[.int .i64 (a : Int), .string p] w fun e w' => e = .returned (.int .i64 ((bvF a p.data.toList : Nat) : Int)) ∧ Below w.heap.size w w' := by
  obtain ⟨c, hc⟩ := List.length_eq_one_iff.1 h1
  have hpp : p = ⟨#[c]⟩ := by apply ByteArray.ext; apply Array.ext'; rw [hc]
  rw [hc]
  rcases hp c (by rw [hc]; simp) with rfl | rfl
  · rw [hpp]
    refine (small_step0 a ha w).mono ?_
    rintro e w' ⟨rfl, rfl⟩
    exact ⟨by simp [bvF], Below.refl _ _⟩
  · rw [hpp]
    refine (small_step1 a ha w).mono ?_
    rintro e w' ⟨rfl, rfl⟩
    exact ⟨by simp [bvF], Below.refl _ _⟩

set_option maxHeartbeats 1600000 in
theorem smallNumber_any {s : ByteArray} (hb : IsBits s.data.toList) (hs : s.size ≤ 60) (w : World) :
    Calls Tryz.prog 183 #[.string s] w fun e w' => e = .returned (.int .i64 ((bv s.data.toList : Nat) : Int)) ∧ Below w.heap.size w w' := by
  have HP := Lib.hid (pieces_any s 1 w)
  have hlen : s.data.toList.length = s.size := (Go.Lib.size_eq s).symm
  have HF := Lib.hid (fun (W : World) (hp : PSt w.heap.size (w.heap.size + 1) s 1 0 W) =>
    fold_int (bB := w.heap.size) (bN := w.heap.size + 1) (g := 226) (B := w.heap.size) (by omega) (by omega) (by omega) (by omega) (Nat.le_refl _) hp
      (fun k => ((bv (s.data.toList.take (k * 1)) : Nat) : Int)) (enters_of Tryz.func226 (by kernel_rfl) rfl)
      (fun k W' hk _ => by
        have hk2 : k * 1 < s.size := (np_lt (by omega)).1 hk
        have hlt : bv (s.data.toList.take (k * 1)) < 2305843009213693952 := by
          have h1 := bv_lt _ (hb.take (k * 1))
          have h2 : 2 ^ (s.data.toList.take (k * 1)).length ≤ 2 ^ 60 := Nat.pow_le_pow_right (by omega) (by rw [List.length_take]; omega)
          omega
        have h3 : bv (s.data.toList.take ((k + 1) * 1)) = bvF (bv (s.data.toList.take (k * 1))) (piece s 1 k).data.toList := by
          rw [pieces_take]; unfold bv bvF; rw [List.foldl_append]
        show Calls _ _ _ _ fun e w' => e = .returned (.int .i64 ((bv (s.data.toList.take ((k + 1) * 1)) : Nat) : Int)) ∧ _
        rw [h3]
        exact small_step hlt (piece_bits hb 1 k) (by rw [piece_list, List.length_take, List.length_drop, hlen]; omega) W'))
  rw [np_all (by omega)] at HF
  clear hs hb hlen
  go_enter Tryz.func183, Tryz.ntmps183
  go_wp2_with fail
  refine HP.out.mono ?_
  rintro e w1 ⟨rfl, hp, hb1⟩
  have HB := Lib.hid hb1
  have HG := Lib.hid (HF.out _ hp)
  clear hp hb1 HF HP
  go_wp2_with fail
  refine HG.out.mono ?_
  rintro e w2 ⟨rfl, hc⟩
  replace HB := Lib.hid (HB.out.trans (hc.to_below HB.out.size (fun j hj => by omega)))
  clear hc HG
  go_wp2_with fail
  go_ret
  exact ⟨rfl, HB.out⟩

theorem two_str : (⟨#[50]⟩ : ByteArray) = dstr 2 := by rw [dstr, dec_small (by omega)]; rfl
theorem zero_str : (⟨#[48]⟩ : ByteArray) = dstr 0 := by rw [dstr, dec_small (by omega)]; rfl
theorem one_str : (⟨#[49]⟩ : ByteArray) = dstr 1 := by rw [dstr, dec_small (by omega)]; rfl

/-- A number with at most 320 binary digits is short. -/
theorem ok_two {n a : Nat} (hn : n ≤ 320) (h : a ≤ 2 ^ n) : Ok a := by
  obtain ⟨N, hN⟩ : ∃ N, N = 320 := ⟨_, rfl⟩
  rw [← hN] at hn
  have h1 : 2 ^ n ≤ 2 ^ N := Nat.pow_le_pow_right (by omega) hn
  have h3 : 2 ^ N < 10 ^ N := Nat.pow_lt_pow_left (by omega) (by omega)
  have h2 : (decDigits a).length ≤ N := (dec_len_le (by omega)).2 (Nat.lt_of_le_of_lt (Nat.le_trans h h1) h3)
  exact Nat.le_trans h2 (by omega)

set_option maxHeartbeats 800000 in
theorem power_n (n : Nat) (hn : n ≤ 256) (w : World) (htab : Tab w) :
    Calls Tryz.prog 182 #[.int .i64 (n : Int)] w fun e w' => e = .returned (.string (dstr (2 ^ n))) ∧ Below w.heap.size w w' := by
  have h := Pow_ok 2 n (ok_two (n := 1) (by omega) (by omega)) (by omega) (ok_two (n := n) (by omega) (Nat.le_refl _)) w htab
  rw [← two_str] at h
  have HP := Lib.hid h
  generalize dstr (2 ^ n) = t at HP ⊢
  clear h htab
  go_enter Tryz.func182, Tryz.ntmps182
  go_wp2_with fail
  refine HP.out.mono ?_
  rintro e w1 ⟨rfl, hb⟩
  have HB := Lib.hid hb
  clear hb HP
  go_wp2_with fail
  go_ret
  exact ⟨rfl, HB.out⟩

set_option maxHeartbeats 1600000 in
theorem num_step {a : Nat} {p : ByteArray} (hp : IsBits p.data.toList) (h1 : p.size ≤ 60) {E : Nat} (hE : E ≤ 240) (ha : a < 2 ^ E) (w : World) (htab : Tab w) :
    Calls Tryz.prog 181 #[.string (dstr a), .string p] w fun e w' => e = .returned (.string (dstr (bvF a p.data.toList))) ∧ Below w.heap.size w w' := by
  have hlen : p.data.toList.length = p.size := (Go.Lib.size_eq p).symm
  have hbl := bv_lt _ hp
  rw [hlen] at hbl
  have h2 : 2 ^ p.size ≤ 2 ^ 60 := Nat.pow_le_pow_right (by omega) h1
  have oa : Ok a := ok_two (n := E) (by omega) (Nat.le_of_lt ha)
  have op : Ok (2 ^ p.size) := ok_two (n := p.size) (by omega) (Nat.le_refl _)
  have hm : a * 2 ^ p.size ≤ 2 ^ (E + p.size) := by rw [Nat.pow_add]; exact Nat.mul_le_mul (Nat.le_of_lt ha) (Nat.le_refl _)
  have om : Ok (a * 2 ^ p.size) := ok_two (n := E + p.size) (by omega) hm
  have ob : Ok (bv p.data.toList) := ok_two (n := p.size) (by omega) (Nat.le_of_lt hbl)
  have os : Ok (a * 2 ^ p.size + bv p.data.toList) := ok_two (n := E + p.size) (by omega) (by
    have h3 : (a + 1) * 2 ^ p.size ≤ 2 ^ (E + p.size) := by rw [Nat.pow_add]; exact Nat.mul_le_mul ha (Nat.le_refl _)
    rw [Nat.succ_mul] at h3
    omega)
  have hsm : bv p.data.toList ≤ 9223372036854775807 := by omega
  have HPW := Lib.hid (power_n p.size (by omega) w htab)
  have HML := Lib.hid (fun W (h : Below w.heap.size w W) => Mul_ok a (2 ^ p.size) oa op om W (htab.below h))
  have HSN := Lib.hid (fun W => smallNumber_any hp h1 W)
  have HFI := Lib.hid (fun W (h : Below w.heap.size w W) => FromInt_ok (bv p.data.toList) hsm W (htab.below h))
  have HAD := Lib.hid (fun W (h : Below w.heap.size w W) => Add_ok (a * 2 ^ p.size) (bv p.data.toList) om ob os W (htab.below h))
  rw [bvF_eq, hlen]
  generalize bv p.data.toList = b at *
  generalize dstr (a * 2 ^ p.size + b) = t at *
  generalize dstr (a * 2 ^ p.size) = t2 at *
  generalize dstr (2 ^ p.size) = t3 at *
  generalize dstr a = t4 at *
  clear hlen hbl h2 oa op hm om ob os hsm hp ha hE htab
  go_enter Tryz.func181, Tryz.ntmps181
  go_wp2_with fail
  refine HPW.out.mono ?_
  rintro e w1 ⟨rfl, hb⟩
  have HB := Lib.hid hb
  clear hb HPW
  go_wp2_with fail
  refine (HML.out _ HB.out).mono ?_
  rintro e w2 ⟨rfl, hb⟩
  replace HB := Lib.hid (HB.out.trans (hb.mono HB.out.size))
  clear hb HML
  go_wp2_with fail
  refine (HSN.out _).mono ?_
  rintro e w3 ⟨rfl, hb⟩
  replace HB := Lib.hid (HB.out.trans (hb.mono HB.out.size))
  clear hb HSN
  go_wp2_with fail
  refine (HFI.out _ HB.out).mono ?_
  rintro e w4 ⟨rfl, hb⟩
  replace HB := Lib.hid (HB.out.trans (hb.mono HB.out.size))
  clear hb HFI
  go_wp2_with fail
  refine (HAD.out _ HB.out).mono ?_
  rintro e w5 ⟨rfl, hb⟩
  replace HB := Lib.hid (HB.out.trans (hb.mono HB.out.size))
  clear hb HAD
  go_wp2_with fail
  go_ret
  exact ⟨rfl, HB.out⟩

set_option maxHeartbeats 1600000 in
theorem number_any {s : ByteArray} (hb : IsBits s.data.toList) (hs : s.size ≤ 256) (w : World) (htab : Tab w) :
    Calls Tryz.prog 118 #[.string s] w fun e w' => e = .returned (.string (dstr (bv s.data.toList))) ∧ Below w.heap.size w w' := by
  have HP := Lib.hid (pieces_any s 60 w)
  have hlen : s.data.toList.length = s.size := (Go.Lib.size_eq s).symm
  have HF := Lib.hid (fun (W : World) (hp : PSt w.heap.size (w.heap.size + 1) s 60 0 W) (hbw : Below w.heap.size w W) =>
    fold_num (bB := w.heap.size) (bN := w.heap.size + 1) (g := 181) (B := w.heap.size) (by omega) (by omega) (by omega) (by omega) (Nat.le_refl _) hp
      (fun k => dstr (bv (s.data.toList.take (k * 60)))) (enters_of Tryz.func181 (by kernel_rfl) rfl)
      (fun k W' hk hW => by
        have hk2 : k * 60 < s.size := (np_lt (by omega)).1 hk
        have hlt : bv (s.data.toList.take (k * 60)) < 2 ^ (k * 60) := by
          have h1 := bv_lt _ (hb.take (k * 60))
          rw [List.length_take, Nat.min_eq_left (by omega)] at h1
          exact h1
        have h3 : bv (s.data.toList.take ((k + 1) * 60)) = bvF (bv (s.data.toList.take (k * 60))) (piece s 60 k).data.toList := by
          rw [pieces_take]; unfold bv bvF; rw [List.foldl_append]
        show Calls _ _ _ _ fun e w' => e = .returned (.string (dstr (bv (s.data.toList.take ((k + 1) * 60))))) ∧ _
        rw [h3]
        exact num_step (piece_bits hb 60 k) (piece_size s) (E := k * 60) (by omega) hlt W' (htab.below (hbw.trans hW))))
  rw [np_all (by omega)] at HF
  simp only [Nat.zero_mul, List.take_zero] at HF
  rw [show dstr (bv []) = (⟨#[48]⟩ : ByteArray) from zero_str.symm] at HF
  generalize dstr (bv s.data.toList) = t at HF ⊢
  clear hs hb hlen htab
  go_enter Tryz.func118, Tryz.ntmps118
  go_wp2_with fail
  refine HP.out.mono ?_
  rintro e w1 ⟨rfl, hp, hb1⟩
  have HB := Lib.hid hb1
  have HG := Lib.hid (HF.out _ hp hb1)
  clear hp hb1 HF HP
  go_wp2_with fail
  refine HG.out.mono ?_
  rintro e w2 ⟨rfl, hc⟩
  replace HB := Lib.hid (HB.out.trans (hc.to_below HB.out.size (fun j hj => by omega)))
  clear hc HG
  go_wp2_with fail
  go_ret
  exact ⟨rfl, HB.out⟩

end Go.Proofs.YteojekiocecdnaaGreatDoor
