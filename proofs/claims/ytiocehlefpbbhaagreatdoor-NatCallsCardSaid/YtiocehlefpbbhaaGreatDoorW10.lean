/-
  strconv.AppendUint at base 10 into the array of ten bytes that text keeps.
-/
import Derived.Test.YtiocehlefpbbhaaGreatDoorW9
import Derived.Lib.AppendStr
import Derived.Lib.AppendIntMem
import Derived.Lib.ItoaMem
import Derived.Lib.BufferKept
namespace Go.Proofs.YtiocehlefpbbhaaGreatDoor
open Go.RowKit NV
open Go.Lib (decDigits)

section
variable {P : Program} (w : World)

/-- append within the capacity, where the row lies in an array of another type than the slice's element. -/
theorem run_room (t ty e T : TypeId) (i : TypeInfo) (ht : P.underlying t = some (.slice e)) (hi : P.info? e = some i) (hs1 : i.size = 1)
    (g sLen sCap : Nat) (cur : Array Value) (hg : w.heap[g]? = some (.cells cur T (0, 0)))
    (a : Addr) (m c : Nat) (news : List Value) (hl : news.length = m) (hnews : ∀ j u, news[j]? = some u → w.cell? (a.add j) = some u) (h1 : ∀ u ∈ news, u.oneCell' = true)
    (hroom : sLen + m ≤ sCap) (hfit : sLen + news.length ≤ cur.size) :
    (Builtin.append_ #[t, t] ty #[.slice (some ⟨g, 0, none⟩) sLen sCap, .slice (some a) m c]).run P w =
      .ok (.slice (some ⟨g, 0, none⟩) (sLen + m) sCap) (w.setRow g (cur.toList.take sLen ++ news ++ cur.toList.drop (sLen + news.length)).toArray) := by
  have hf := run_firstCells_some (P := P) w 1 m a m c news (by rw [Nat.mul_one]; exact hl) hnews
  have hst := run_storeCells_at P g sLen T news 0 cur w hg (by simpa using hfit) h1
  simp only [Nat.add_zero] at hst
  simp [Builtin.append_, run_underlying ht, sizeOf, typeInfo, hi, Builtin.lenOf, hroom, hf, hs1, Addr.add_lit, hst]

theorem run_room_string (t u ty e T : TypeId) (i : TypeInfo) (ht : P.underlying t = some (.slice e)) (hu : P.underlying u = some .string) (hi : P.info? e = some i) (hs1 : i.size = 1)
    (g sLen sCap : Nat) (cur : Array Value) (hg : w.heap[g]? = some (.cells cur T (0, 0))) (s : ByteArray)
    (hroom : sLen + s.size ≤ sCap) (hfit : sLen + s.size ≤ cur.size) :
    (Builtin.append_ #[t, u] ty #[.slice (some ⟨g, 0, none⟩) sLen sCap, .string s]).run P w =
      .ok (.slice (some ⟨g, 0, none⟩) (sLen + s.size) sCap) (w.setRow g (cur.toList.take sLen ++ Lib.strCells s ++ cur.toList.drop (sLen + s.size)).toArray) := by
  have hf := Lib.run_firstCells_string (P := P) w 1 s
  have hst := run_storeCells_at P g sLen T (Lib.strCells s) 0 cur w hg (by simpa [Lib.strCells_length] using hfit) (Lib.strCells_oneCell s)
  simp only [Nat.add_zero, Lib.strCells_length] at hst
  simp [Builtin.append_, run_underlying ht, run_underlying hu, sizeOf, typeInfo, hi, hs1, Builtin.lenOf, hroom, hf, Addr.add_lit, hst]

/-- An append whose run is known, for the walk. -/
theorem wpList_append_run {ops : Array Oper} {rest : List Oper} {o : Oper} {a : Act} {Q : Exit → Act → World → Prop} (hgd : o.guard = none) (sl x : Operand) (t u : TypeId)
    (ho : o.op = .call { callee := .builtin .append, args := #[sl, x], argTypes := #[t, u] })
    (v y v' : Value) (w' : World) (hs : a.eval sl = v) (hx : a.eval x = y) (hr : (Builtin.append_ #[t, u] o.type #[v, y]).run P w = .ok v' w')
    (h : wpList P ops Q rest (a.put o.dst v') w') : wpList P ops Q (o :: rest) a w := by
  refine wpList_plain hgd fun K hK => ?_
  unfold Oper.wp execOp
  simp only [ho, resolve, invoke, builtin, Sem.run_bind, Sem.run_pure, Result.andThen_ok, List.map_toArray, List.map_cons, List.map_nil, hs, hx, hr]
  exact hK _ _ h
end

/-- Block g is an array of ten bytes that begins with the text l. -/
def Buf (w : World) (g : Nat) (l : List UInt8) : Prop :=
  ∃ cur, w.heap[g]? = some (.cells cur 82 (0, 0)) ∧ cur.size = 10 ∧ ∀ (j : Nat) (c : UInt8), l[j]? = some c → cur[j]? = some (Value.int .u8 ((c.toNat : Nat) : Int))

theorem Buf.nil {w : World} {g : Nat} {l : List UInt8} (h : Buf w g l) : Buf w g [] := by
  obtain ⟨cur, h1, h2, _⟩ := h
  exact ⟨cur, h1, h2, fun j c h => by simp at h⟩

theorem Buf.cell {w : World} {g : Nat} {l : List UInt8} (h : Buf w g l) {j : Nat} {c : UInt8} (hj : l[j]? = some c) : w.cell? ⟨g, j, none⟩ = some (.int .u8 ((c.toNat : Nat) : Int)) := by
  obtain ⟨cur, h1, h2, h3⟩ := h
  rw [Lib.cell_of_heap h1]; exact h3 j c hj

theorem Buf.same {w w' : World} {g : Nat} {l : List UInt8} (h : Buf w g l) (e : w'.heap[g]? = w.heap[g]?) : Buf w' g l := by
  obtain ⟨cur, h1, h2, h3⟩ := h
  exact ⟨cur, e.trans h1, h2, h3⟩

/-- What a row of bytes laid at the head leaves. -/
theorem buf_row {w : World} {g : Nat} {cur : Array Value} (hg : w.heap[g]? = some (.cells cur 82 (0, 0))) (hc : cur.size = 10) (l : List UInt8) (hl : l.length ≤ 10) :
    Buf (w.setRow g (cur.toList.take 0 ++ Lib.byteCells l ++ cur.toList.drop (0 + (Lib.byteCells l).length)).toArray) g l := by
  refine ⟨_, setRow_heap w g cur _ _ _ hg, ?_, fun j c hj => ?_⟩
  · simp [Lib.byteCells_length, hc]
    try omega
  · have hjl : j < l.length := (List.getElem?_eq_some_iff.1 hj).1
    simp only [List.take_zero, List.nil_append]
    rw [List.getElem?_toArray, List.getElem?_append_left (by rw [Lib.byteCells_length]; exact hjl)]
    simp [Lib.byteCells, hj]

theorem kept_setRow {w : World} {g R : Nat} (cs : Array Value) : Kept g R w (w.setRow g cs) :=
  ⟨rfl, rfl, rfl, by simp, fun k _ hk => setRow_other w g k _ (by omega)⟩

theorem dec_len10 {u : Nat} (h : u < 10000000000) : (decDigits u).length ≤ 10 := (dec_len_le (k := 10) (by omega)).2 (by omega)

set_option maxHeartbeats 6400000 in
set_option maxRecDepth 100000 in
theorem append_small (g u : Nat) (hu : u < 100) (w : World) (hb : Buf w g []) (hg : g < w.heap.size) :
    Calls Tryz.prog 87 #[.slice (some ⟨g, 0, none⟩) 0 10, .int .u64 u, .int .i64 10] w fun e w' => e = .returned (.slice (some ⟨g, 0, none⟩) (decDigits u).length 10) ∧ Buf w' g (decDigits u) ∧ Kept g w.heap.size w w' := by
  obtain ⟨i0, hi, hz0, hz1, hz2⟩ := info_parts info5
  obtain ⟨cur, hc1, hc2, _⟩ := hb
  have hlen := dec_len10 (u := u) (by omega)
  have hsz : (⟨(decDigits u).toArray⟩ : ByteArray).size = (decDigits u).length := by simp [ByteArray.size]
  have hsc : Lib.strCells (⟨(decDigits u).toArray⟩ : ByteArray) = Lib.byteCells (decDigits u) := rfl
  have hr := run_room_string (P := Tryz.prog) w 79 9 79 5 82 i0 Tryz.underlying79 Tryz.underlying9 hi hz1 g 0 10 cur hc1 ⟨(decDigits u).toArray⟩ (by rw [hsz]; omega) (by rw [hsz]; omega)
  rw [hsz, hsc, Nat.zero_add] at hr
  have hbr := buf_row hc1 hc2 (decDigits u) hlen
  rw [Lib.byteCells_length, Nat.zero_add] at hbr
  have HR := Lib.hid hr
  have HB := Lib.hid hbr
  clear hr hbr hc1 hsz hsc
  go_enter Tryz.func87, Tryz.ntmps87
  go_wp2_with fail
  refine (Tryz.internal_strconv_small u hu _).mono ?_
  rintro e w1 ⟨rfl, rfl⟩
  go_wp2_with (at_builtin; refine wpList_append_run _ rfl _ _ 79 9 rfl _ _ _ _ rfl rfl HR.out ?_)
  go_ret
  exact ⟨rfl, HB.out, kept_setRow _⟩

end Go.Proofs.YtiocehlefpbbhaaGreatDoor
