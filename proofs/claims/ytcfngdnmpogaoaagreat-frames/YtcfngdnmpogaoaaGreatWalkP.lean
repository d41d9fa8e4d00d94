import Derived.Test.YtcfngdnmpogaoaaGreatWalkK
import Derived.Lib.BufferWrite
namespace Go.Proofs.YtcfngdnmpogaoaaGreat
open Go.RowKit

theorem wpList_copy {P : Program} {w : World} {ops : Array Oper} {rest : List Oper} {o : Oper} {a : Act} {Q : Exit → Act → World → Prop} (d s : Operand) (t t' : TypeId)
    (ho : o.op = .call { callee := .builtin .copy, args := #[d, s], argTypes := #[t, t'] }) (hgd : o.guard = none) (v u : Value) (hd : a.eval d = v) (hs : a.eval s = u) {v' : Value} {w' : World}
    (hr : (Builtin.copy_ #[t, t'] o.type #[v, u]).run P w = .ok v' w') (h : wpList P ops Q rest (a.put o.dst v') w') : wpList P ops Q (o :: rest) a w :=
  wpList_plain hgd fun _ hK => by
    unfold Oper.wp execOp
    simp only [ho, resolve, invoke, builtin, Sem.run_bind, Sem.run_pure, Result.andThen_ok, List.map_toArray, List.map_cons, List.map_nil, hd, hs, hr]
    exact hK _ _ h

def lentBytes (s : ByteArray) : List UInt8 := s.data.toList ++ List.replicate 8 201

theorem fill_step (l : List Value) (k : Nat) (x z : Value) (h : k < 8) : (l ++ (List.replicate k x ++ List.replicate (8 - k) z)).set (l.length + k) x = l ++ (List.replicate (k + 1) x ++ List.replicate (8 - (k + 1)) z) := by
  rw [List.set_append, if_neg (by omega), List.set_append, if_neg (by simp), List.length_replicate, show l.length + k - l.length - k = 0 from by omega, show 8 - k = (8 - (k + 1)) + 1 from by omega, List.replicate_succ, List.set_cons_zero, List.replicate_succ']
  simp

set_option maxRecDepth 20000 in
set_option maxHeartbeats 1600000 in
theorem lent_any (s : ByteArray) (w : World) (hs : s.size + 8 ≤ 140737488355328) :
    Calls Tryz.prog 56 #[.string s] w fun e w' => ∃ g, e = .returned (.slice (some ⟨g, 0, none⟩) (s.size + 8) (s.size + 8)) ∧ w.heap.size ≤ g ∧ Row w' 5 1 (.slice (some ⟨g, 0, none⟩) (s.size + 8) (s.size + 8)) ((lentBytes s).map byteV) ∧ Below w.heap.size w w' := by
  obtain ⟨i5, hi5, hz50, hz51, hz52⟩ := info_parts info5
  have hmk : (Instr.makeSlice 30 (.int .i64 ((s.size : Int) + 8)) (.int .i64 ((s.size : Int) + 8))).run Tryz.prog w =
      .ok (.slice (some ⟨w.heap.size, 0, none⟩) (s.size + 8) (s.size + 8)) (w.alloc (.cells (madeCells #[.int .u8 0] (s.size + 8)) 5)) := by
    have h := run_make (P := Tryz.prog) w 30 5 i5 (.int .u8 0) Tryz.underlying30 hi5 hz50 .i64 .i64 ((s.size : Int) + 8) ((s.size : Int) + 8) (by omega) (Int.le_refl _) (by rw [hz52]; omega) (by omega)
    have e : ((s.size : Int) + 8).toNat = s.size + 8 := by omega
    rw [e] at h
    simpa [hz51, Value.cells] using h
  have hcur : (w.alloc (.cells (madeCells #[.int .u8 0] (s.size + 8)) 5)).heap[w.heap.size]? = some (.cells (madeCells #[.int .u8 0] (s.size + 8)) 5 (0, 0)) := heap_alloc_new w _
  have hml : (madeCells #[Value.int .u8 0] (s.size + 8)).toList = List.replicate (s.size + 8) (Value.int .u8 0) := toList_madeCells_one _ _
  have hms : (madeCells #[Value.int .u8 0] (s.size + 8)).size = s.size + 8 := by rw [← Array.length_toList, hml, List.length_replicate]
  have hcp := Lib.run_copy_row_string (P := Tryz.prog) (w.alloc (.cells (madeCells #[.int .u8 0] (s.size + 8)) 5)) 30 9 3 5 w.heap.size 0 (s.size + 8) (s.size + 8) s _ 5 Tryz.underlying30 (by rw [hi5]; simp [hz51]) hcur (by omega) (by rw [hms]; omega)
  rw [hml] at hcp
  have hbz : Lib.byteCells s.data.toList = s.data.toList.map byteV := rfl
  have hbl : (s.data.toList.map byteV).length = s.size := by rw [List.length_map, Array.length_toList]; rfl
  have harr : (List.take 0 (List.replicate (s.size + 8) (Value.int .u8 0)) ++ Lib.byteCells s.data.toList ++ List.drop (0 + s.size) (List.replicate (s.size + 8) (Value.int .u8 0))) = s.data.toList.map byteV ++ List.replicate 8 (Value.int .u8 0) := by
    rw [hbz, List.take_zero, List.nil_append, Nat.zero_add, List.drop_replicate, show s.size + 8 - s.size = 8 from by omega]
  rw [harr] at hcp
  have hW2 := setRow_heap _ w.heap.size _ (s.data.toList.map byteV ++ List.replicate 8 (Value.int .u8 0)).toArray 5 (0, 0) hcur
  have hb2 : Below w.heap.size w ((w.alloc (.cells (madeCells #[.int .u8 0] (s.size + 8)) 5)).setRow w.heap.size (s.data.toList.map byteV ++ List.replicate 8 (Value.int .u8 0)).toArray) := by
    refine ((Below.refl _ w).alloc (Nat.le_refl _) _).trans ⟨rfl, rfl, rfl, by simp, fun k hk => setRow_other _ _ _ _ (by omega)⟩
  generalize (w.alloc (.cells (madeCells #[.int .u8 0] (s.size + 8)) 5)).setRow w.heap.size (s.data.toList.map byteV ++ List.replicate 8 (Value.int .u8 0)).toArray = W2 at *
  have hrow : Row W2 5 1 (.slice (some ⟨w.heap.size, 0, none⟩) (s.size + 8) (s.size + 8)) (s.data.toList.map byteV ++ (List.replicate 0 (.int .u8 201) ++ List.replicate (8 - 0) (.int .u8 0))) := by
    refine .inr ⟨w.heap.size, 0, s.size + 8, s.size + 8, _, rfl, hW2, Nat.le_refl _, by simp only [maxLen]; omega, by simp [hbl], by simp [hbl], fun j hj => by simp⟩
  have Hcp : Hid ((Builtin.copy_ #[30, 9] 3 #[.slice (some ⟨w.heap.size, 0, none⟩) (s.size + 8) (s.size + 8), .string s]).run Tryz.prog (w.alloc (.cells (madeCells #[.int .u8 0] (s.size + 8)) 5)) = .ok (goInt s.size) W2) := hcp
  clear hcp hcur hml hms hW2 harr hbz
  have Hbl : Hid ((s.data.toList.map byteV).length = s.size) := hbl
  clear hbl
  obtain ⟨L, HL⟩ : ∃ L, Hid (s.data.toList.map byteV = L) := ⟨_, rfl⟩
  rw [HL.out] at hrow
  have HLl : Hid (L.length = s.size) := by show _ = _; rw [← HL.out]; exact Hbl.out
  go_enter Tryz.func56, Tryz.ntmps56
  go_wp2_with (first | (refine wpList_copy _ _ _ _ rfl rfl _ _ rfl rfl Hcp.out ?_))
  go_loopw [4] (fun i wr => ∃ k : Nat, k ≤ 8 ∧ i = .int .i64 ((s.size : Int) + (k : Int)) ∧ Row wr 5 1 (.slice (some ⟨w.heap.size, 0, none⟩) (s.size + 8) (s.size + 8)) (L ++ (List.replicate k (.int .u8 201) ++ List.replicate (8 - k) (.int .u8 0))) ∧ Below w.heap.size w wr) (fun i _ => s.size + 8 - (intOf i).toNat)
  case atStart => exact ⟨0, by omega, by simp, hrow, hb2⟩
  case round =>
    obtain ⟨k, hk, rfl, hr, hb⟩ := hrel
    have Hr : Hid (Row wr 5 1 (.slice (some ⟨w.heap.size, 0, none⟩) (s.size + 8) (s.size + 8)) (L ++ (List.replicate k (.int .u8 201) ++ List.replicate (8 - k) (.int .u8 0)))) := hr
    have Hb : Hid (Below w.heap.size w wr) := hb
    by_cases hk8 : k < 8
    · have hxl : (L ++ (List.replicate k (Value.int .u8 201) ++ List.replicate (8 - k) (Value.int .u8 0))).length = s.size + 8 := by rw [List.length_append, HLl.out]; simp; omega
      have hcell := hr.cell (s.size + k) (by omega)
      obtain ⟨old, ho⟩ : ∃ old, (L ++ (List.replicate k (Value.int .u8 201) ++ List.replicate (8 - k) (Value.int .u8 0)))[s.size + k]? = some old := ⟨_, List.getElem?_eq_getElem (by omega)⟩
      rw [ho, Nat.zero_add] at hcell
      have hfz := hr.frozen (s.size + k)
      clear hr hb hrow hb2 ho
      go_wp2
      go_roundw
      case rel =>
        refine ⟨k + 1, by omega, by rw [show (s.size : Int) + (k : Int) + 1 = (s.size : Int) + ((k + 1 : Nat) : Int) from by omega], ?_, Hb.out.setCell (Nat.le_refl _) _⟩
        have := Hr.out.put (L.length + k) (by rw [HLl.out]; omega) (.int .u8 201)
        rw [fill_step L k _ _ hk8, HLl.out, Nat.zero_add] at this
        exact this
      case measure => simp [intOf]; omega
    · have hk' : k = 8 := by omega
      subst hk'
      clear hr hb hrow hb2
      go_wp2
      go_ret
      refine ⟨w.heap.size, rfl, Nat.le_refl _, ?_, Hb.out⟩
      have := Hr.out
      rw [← HL.out] at this
      rw [lentBytes, List.map_append]
      exact this

end Go.Proofs.YtcfngdnmpogaoaaGreat
