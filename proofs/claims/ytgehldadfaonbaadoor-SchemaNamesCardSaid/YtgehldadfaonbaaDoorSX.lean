/-
  SchemaNames.
-/
import Derived.Test.YtgehldadfaonbaaDoorSW
namespace Go.Proofs.YtgehldadfaonbaaDoor
open Go.RowKit Go.Shelf Go.ChangeMaps Go.Maps

set_option maxHeartbeats 1600000 in
theorem names_any (s : ByteArray) (w : World) (hR : Res w) : Calls Tryd.prog 5 #[.string s] w fun e w' => e = .returned (.bool true) ∧ Below w.heap.size w w' := by
  by_cases hs : 100 < s.size
  · have q : decide (100 < (s.size : Int)) = true := decide_eq_true (by omega)
    go_enter Tryd.func5, Tryd.ntmps5
    go_wp2
    go_ret
    exact ⟨rfl, Below.refl _ _⟩
  · have q : decide (100 < (s.size : Int)) = false := decide_eq_false (by omega)
    have HR := Lib.hid hR
    have HN := Lib.hid (name_any s w hR)
    obtain ⟨v, hv⟩ : ∃ v, v = nmB s := ⟨_, rfl⟩
    rw [← hv] at HN
    have HRN := Lib.hid (fun W => rname_any s W)
    rw [← hv] at HRN
    have hvv : (v == v) = true := by cases v <;> rfl
    clear hR hv
    go_enter Tryd.func5, Tryd.ntmps5
    go_wp2_with fail
    refine HN.out.mono ?_
    rintro e w1 ⟨rfl, h1⟩
    have H1 := Lib.hid h1
    clear h1 HN
    go_wp2_with fail
    refine (HRN.out w1).mono ?_
    rintro e w2 ⟨rfl, h2⟩
    have H2 := Lib.hid (H1.out.trans (h2.mono H1.out.size))
    clear h2 HRN H1
    go_wp2_with fail
    refine (reserved_any w2 (HR.out.of H2.out)).mono ?_
    rintro e w3 ⟨rfl, h3⟩
    have HB3 := Lib.hid (show Below w2.heap.size w2 w3 by rw [← h3]; exact (Below.refl _ _).alloc (Nat.le_refl _) _)
    have HT3 := Lib.hid (show TL w3 (some ⟨w2.heap.size, 0, none⟩) resT from TL.row (t := 72) (fr := (0, 0)) (by rw [← h3, resT_val]; exact heap_alloc_new w2 _))
    clear h3
    go_wp2_with fail
    refine (refReserved_any w3).mono ?_
    rintro e w4 ⟨rfl, h4⟩
    have HB4 := Lib.hid (show Below w3.heap.size w3 w4 by rw [← h4]; exact (Below.refl _ _).alloc (Nat.le_refl _) _)
    have HT4 := Lib.hid (show TL w4 (some ⟨w3.heap.size, 0, none⟩) resT from TL.row (t := 9) (fr := (0, 0)) (by rw [← h4, resT_val]; exact heap_alloc_new w3 _))
    clear h4
    go_wp2_with fail
    refine (same_any (l := resT) (m := resT) (c1 := 35) (c2 := 35) (HT3.out.below HB4.out) HT4.out (by rw [resT_len]; omega) (by rw [resT_len]; omega)).mono ?_
    rintro e w5 ⟨rfl, n, rfl⟩
    have H5 := Lib.hid (H2.out.trans ((HB3.out.trans ((below_drewN HB4.out n).mono HB3.out.size)).mono H2.out.size))
    rw [show decide (resT = resT) = true from decide_eq_true rfl]
    clear HB3 HB4 HT3 HT4 H2
    go_wp2_with fail
    refine (awake_any _ (HR.out.of H5.out)).mono ?_
    rintro e w6 ⟨rfl, h6⟩
    have H6 := Lib.hid (H5.out.trans (h6.mono H5.out.size))
    clear h6 H5
    go_wp2
    go_ret
    exact ⟨rfl, H6.out⟩

end Go.Proofs.YtgehldadfaonbaaDoor
