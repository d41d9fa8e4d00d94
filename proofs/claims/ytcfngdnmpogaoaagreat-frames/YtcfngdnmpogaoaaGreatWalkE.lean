import Derived.Test.YtcfngdnmpogaoaaGreatWalkU
import Derived.StillTailTactics
namespace Go.Proofs.YtcfngdnmpogaoaaGreat
open Go.RowKit

set_option maxHeartbeats 1600000 in
theorem upTo_empty (a : Option Addr) (cap : Nat) (w : World) :
    Calls Tryz.prog 13 #[.slice a 0 cap, .int .i64 1, .int .i64 2] w fun e w' => e = .returned (.int .i64 (-1)) ∧ Below w.heap.size w w' := by
  go_enter Tryz.func13, Tryz.ntmps13
  go_wp2
  refine wp_loop_rounds 1 ?_
  rw [rounds_succ]
  go_wp2
  go_ret
  exact ⟨rfl, (Below.refl _ w).alloc (Nat.le_refl _) _⟩

def keyA : ByteArray := ⟨#[97]⟩
def exS : List UInt8 := frameBytes 1 keyA 3 7 1
def exT : List UInt8 := frameBytes 1 keyA 12 (-2) 1
def exM : List UInt8 := frameBytes 2 ⟨#[]⟩ 22 0 0

theorem item_mark : isItemB 2 ⟨#[]⟩ 0 ((0 : Nat) : Int) = true := by
  have h : (⟨#[]⟩ : ByteArray).toList = [] := by rw [ByteArray.toList_eq]
  simp [isItemB, h]

theorem exS_any (w : World) : Calls Tryz.prog 31 #[.agg #[.int .i64 1, .string ⟨#[97]⟩, .int .i64 3, .int .i64 7, .int .u32 1]] w fun e w' => e = .returned (.tuple #[.string (str exS), .int .i64 0]) ∧ Below w.heap.size w w' :=
  rframe_yes 1 keyA 3 7 1 w (by decide) (by decide) (by decide)
theorem exT_any (w : World) : Calls Tryz.prog 31 #[.agg #[.int .i64 1, .string ⟨#[97]⟩, .int .i64 12, .int .i64 (-2), .int .u32 1]] w fun e w' => e = .returned (.tuple #[.string (str exT), .int .i64 0]) ∧ Below w.heap.size w w' :=
  rframe_yes 1 keyA 12 (-2) 1 w (by decide) (by decide) (by decide)
theorem exM_any (w : World) : Calls Tryz.prog 31 #[.agg #[.int .i64 2, .string ⟨#[]⟩, .int .i64 22, .int .i64 0, .int .u32 0]] w fun e w' => e = .returned (.tuple #[.string (str exM), .int .i64 0]) ∧ Below w.heap.size w w' :=
  rframe_yes 2 ⟨#[]⟩ 22 0 0 w (by decide) item_mark (by decide)
theorem exS_len : (str exS).size = 26 := by rw [str_size]; decide
theorem exT_len : (str exT).size = 26 := by rw [str_size]; decide
theorem exM_len : (str exM).size = 12 := by rw [str_size]; decide

theorem wpList_build {P : Program} {w : World} {ops : Array Oper} {rest : List Oper} {o : Oper} {a : Act} {Q : Exit → Act → World → Prop} (t : TypeId) (len : Nat) (parts : Array (Nat × Operand))
    (ho : o.op = .buildSlice t len parts) (hgd : o.guard = none) {v' : Value} {w' : World}
    (hr : (Instr.buildSlice t len (parts.map fun (i, x) => (i, a.eval x))).run P w = .ok v' w') (h : wpList P ops Q rest (a.put o.dst v') w') : wpList P ops Q (o :: rest) a w :=
  wpList_plain hgd fun _ hK => by
    unfold Oper.wp execOp
    simp only [ho, Sem.run_bind, Sem.run_pure, hr, Result.andThen_ok]
    exact hK _ _ h

def opsCells : List OpD → List Value
  | [] => []
  | o :: l => o.cells.toList ++ opsCells l
theorem cells_len (o : OpD) : o.cells.toList.length = 13 := rfl
theorem opsCells_get (l : List OpD) (i j : Nat) (hi : i < l.length) (hj : j < 13) : (opsCells l)[i * 13 + j]? = (l[i]).cells[j]? := by
  induction l generalizing i with
  | nil => simp at hi
  | cons o l ih =>
    have hl := cells_len o
    cases i with
    | zero => rw [opsCells, List.getElem?_append_left (by omega)]; simp
    | succ i =>
      rw [opsCells, List.getElem?_append_right (by omega), hl, show (i + 1) * 13 + j - 13 = i * 13 + j from by omega]
      simpa using ih i (by simpa using hi)

def opZ (kind : Int) : OpD := ⟨kind, 0, 0, ⟨#[]⟩, 0, ⟨#[]⟩, 0, 0, 0, 0, 0, 0, 0⟩
def exOps (S M1 M2 : ByteArray) : List OpD :=
  [⟨1, 0, 0, ⟨#[]⟩, 1, ⟨#[97]⟩, 3, 7, 1, 0, 0, 0, 0⟩, ⟨1, 0, 0, ⟨#[]⟩, 1, ⟨#[]⟩, 0, 0, 0, 0, 0, 0, 0⟩, ⟨2, 0, 0, S, 0, ⟨#[]⟩, 0, 0, 0, 0, 0, 0, 0⟩, ⟨3, 0, 0, ⟨#[]⟩, 0, ⟨#[]⟩, 0, 0, 0, 10, 5, 2, 2⟩, opZ 4, ⟨4, 0, 9, ⟨#[]⟩, 0, ⟨#[]⟩, 0, 0, 0, 0, 0, 0, 0⟩,
   ⟨5, 0, 0, S, 0, ⟨#[]⟩, 0, 0, 0, 0, 0, 0, 0⟩, opZ 7, opZ 9, ⟨5, 0, 0, M1, 0, ⟨#[]⟩, 0, 0, 0, 0, 0, 0, 0⟩, ⟨5, 0, 0, M2, 0, ⟨#[]⟩, 0, 0, 0, 0, 0, 0, 0⟩, opZ 7, opZ 8, opZ 9]

theorem ex_build (W : World) (S M1 M2 : ByteArray) : (Instr.buildSlice 22 14 (((exOps S M1 M2).zipIdx.map fun (o, i) => (i, Value.agg o.cells)).toArray)).run Tryz.prog W =
    .ok (.slice (some ⟨W.heap.size, 0, none⟩) 14 14) (W.alloc (.cells (opsCells (exOps S M1 M2)).toArray 79)) := by kernel_rfl

set_option maxRecDepth 20000 in
set_option maxHeartbeats 1600000 in
theorem example_frames (w : World) :
    Calls Tryz.prog 12 #[.int .i64 1, .int .i64 2] w fun e w' => e = .returned (.bool true) ∧ Below w.heap.size w w' := by
  go_enter Tryz.func12, Tryz.ntmps12
  go_wp2_with fail
  refine (exS_any _).mono ?_
  rintro e W1 ⟨rfl, hb1⟩
  simp only [World.size_alloc] at hb1
  have HC : Hid (∀ W, Below (w.heap.size + 1 + 1) ((w.alloc (.cells #[.int .i64 1, .string ⟨#[97]⟩, .int .i64 3, .int .i64 7, .int .u32 1] 28)).alloc (.cells #[.int .i64 1, .string ⟨#[97]⟩, .int .i64 12, .int .i64 (-2), .int .u32 1] 28)) W →
      (W.heap[w.heap.size]? = some (.cells #[.int .i64 1, .string ⟨#[97]⟩, .int .i64 3, .int .i64 7, .int .u32 1] 28 (0, 0)) ∧ W.heap[w.heap.size + 1]? = some (.cells #[.int .i64 1, .string ⟨#[97]⟩, .int .i64 12, .int .i64 (-2), .int .u32 1] 28 (0, 0))) ∧ w.heap.size + 2 ≤ W.heap.size) := by
    intro W hW
    have hs := hW.size
    simp only [World.size_alloc] at hs
    exact ⟨⟨(hW.block _ (by omega)).trans (heap_alloc2_old w _ _), (hW.block _ (by omega)).trans (heap_alloc2_new w _ _)⟩, by omega⟩
  have Hb1 : Hid (Below (w.heap.size + 1 + 1) ((w.alloc (.cells #[.int .i64 1, .string ⟨#[97]⟩, .int .i64 3, .int .i64 7, .int .u32 1] 28)).alloc (.cells #[.int .i64 1, .string ⟨#[97]⟩, .int .i64 12, .int .i64 (-2), .int .u32 1] 28)) W1) := hb1
  obtain ⟨⟨hA, hB⟩, hs1⟩ := HC.out _ hb1
  clear hb1
  obtain ⟨b0, b1, b2, b3, b4⟩ := item_cells hB
  clear hA hB
  go_wp2_with fail
  refine (exT_any _).mono ?_
  rintro e W2 ⟨rfl, hb2⟩
  have Hb2 : Hid (Below (w.heap.size + 1 + 1) ((w.alloc (.cells #[.int .i64 1, .string ⟨#[97]⟩, .int .i64 3, .int .i64 7, .int .u32 1] 28)).alloc (.cells #[.int .i64 1, .string ⟨#[97]⟩, .int .i64 12, .int .i64 (-2), .int .u32 1] 28)) W2) := Hb1.out.trans (hb2.mono (by omega))
  have hs2 := hb2.size
  clear b0 b1 b2 b3 b4 hb2 Hb1
  go_wp2_with fail
  refine (exM_any _).mono ?_
  rintro e W3 ⟨rfl, hb3⟩
  have Hb3 : Hid (Below (w.heap.size + 1 + 1) ((w.alloc (.cells #[.int .i64 1, .string ⟨#[97]⟩, .int .i64 3, .int .i64 7, .int .u32 1] 28)).alloc (.cells #[.int .i64 1, .string ⟨#[97]⟩, .int .i64 12, .int .i64 (-2), .int .u32 1] 28)) W3) := Hb2.out.trans (hb3.mono (by omega))
  have hs3 := hb3.size
  obtain ⟨⟨hA, hB⟩, -⟩ := HC.out _ Hb3.out
  obtain ⟨a0, a1, a2, a3, a4⟩ := item_cells hA
  have HbW : Hid (Below w.heap.size w W3) := (((Below.refl _ w).alloc (Nat.le_refl _) _).alloc (by simp) _).trans (Hb3.out.mono (by omega))
  clear hb3 Hb2 hA hB HC Hb3
  have l1 := exS_len
  have l2 := exT_len
  have l3 := exM_len
  have hcat : str exS ++ str exT = str (exS ++ exT) := str_app _ _
  have hm1 : (str exM).extract 0 4 = str (exM.take 4) := by rw [extract_str, str_data]; rfl
  have hm2 : (str exM).extract 4 12 = str (exM.drop 4) := by rw [extract_str, str_data]; rfl
  have lst : (exS ++ exT).length = 52 := by rw [List.length_append, ← str_size, ← str_size, l1, l2]
  have lm : exM.length = 12 := by rw [← str_size, l3]
  have L1 : Hid ((exS ++ exT).length = 52) := lst
  have L3 : Hid (exM.length = 12) := lm
  clear lst lm
  have hM1 : (exM.take 4).length ≤ 12 := by rw [List.length_take]; omega
  generalize exS ++ exT = ST at *
  generalize exM.take 4 = M1 at *
  go_wp2_with fail
  refine wp_region_still_tail 27 (by kernel_rfl) (by kernel_rfl) ?_
  simp only [List.take_succ_cons, List.take_zero, List.drop_succ_cons, List.drop_zero]
  change wpStill Tryz.prog _ W3.drew (fun a' => wpList Tryz.prog _ _ _ a' W3.drew) _ _
  have a0 : W3.drew.cell? ⟨w.heap.size, 0, none⟩ = some (.int .i64 1) := a0
  have a1 : W3.drew.cell? ⟨w.heap.size, 1, none⟩ = some (.string ⟨#[97]⟩) := a1
  have a2 : W3.drew.cell? ⟨w.heap.size, 2, none⟩ = some (.int .i64 3) := a2
  have a3 : W3.drew.cell? ⟨w.heap.size, 3, none⟩ = some (.int .i64 7) := a3
  have a4 : W3.drew.cell? ⟨w.heap.size, 4, none⟩ = some (.int .u32 1) := a4
  have HbW : Hid (Below w.heap.size w W3.drew) := HbW.out.drew
  generalize W3.drew = W4 at *
  repeat still_step
  refine wpStill_nil ?_
  have hM2 : (exM.drop 4).length = 8 := by rw [List.length_drop, L3.out]
  generalize exM.drop 4 = M2 at *
  refine wpList_build (v' := .slice (some ⟨W4.heap.size, 0, none⟩) 14 14) (w' := W4.alloc (.cells (opsCells (exOps (str ST) (str M1) (str M2))).toArray 79)) _ _ _ rfl rfl (by kernel_rfl) ?_
  have hSc : Script (W4.alloc (.cells (opsCells (exOps (str ST) (str M1) (str M2))).toArray 79)) W4.heap.size 0 (exOps (str ST) (str M1) (str M2)) := fun i hi j hj => by
    rw [cell_of_row _ _ _ _ _ _ (heap_alloc_new W4 _), Nat.zero_add]
    rw [← opsCells_get _ i j hi hj]; simp
  have hFit : ∀ o ∈ exOps (str ST) (str M1) (str M2), o.Fits := by
    intro o ho
    have e0 : (⟨#[]⟩ : ByteArray).size = 0 := rfl
    have e1 : (⟨#[97]⟩ : ByteArray).size = 1 := rfl
    have e2 : (str ST).size = 52 := by rw [str_size]; exact L1.out
    have e3 : (str M1).size ≤ 12 := by rw [str_size]; exact hM1
    have e4 : (str M2).size = 8 := by rw [str_size]; exact hM2
    simp only [exOps, opZ, List.mem_cons, List.not_mem_nil, or_false] at ho
    rcases ho with rfl | rfl | rfl | rfl | rfl | rfl | rfl | rfl | rfl | rfl | rfl | rfl | rfl | rfl <;> exact ⟨by simp only; omega, by simp only; omega, by simp only; omega⟩
  have HU : Hid (Calls Tryz.prog 13 #[.slice (some ⟨W4.heap.size, 0, none⟩) 14 14, .int .i64 1, .int .i64 2] (W4.alloc (.cells (opsCells (exOps (str ST) (str M1) (str M2))).toArray 79)) fun e w' => e = .returned (.int .i64 (-1)) ∧ Below (W4.alloc (.cells (opsCells (exOps (str ST) (str M1) (str M2))).toArray 79)).heap.size (W4.alloc (.cells (opsCells (exOps (str ST) (str M1) (str M2))).toArray 79)) w') :=
    upTo_frames W4.heap.size 0 14 (exOps (str ST) (str M1) (str M2)) _ hSc (by simp) hFit (by simp [exOps])
  have HB5 : Hid (Below w.heap.size w (W4.alloc (.cells (opsCells (exOps (str ST) (str M1) (str M2))).toArray 79))) := HbW.out.alloc (HbW.out.size) _
  clear hSc hFit
  have hsW := HB5.out.size
  generalize W4.alloc (.cells (opsCells (exOps (str ST) (str M1) (str M2))).toArray 79) = W5 at *
  go_wp2_with fail
  refine HU.out.mono ?_
  rintro e W6 ⟨rfl, hb6⟩
  go_wp2
  go_ret
  exact ⟨rfl, HB5.out.trans (hb6.mono hsW)⟩

end Go.Proofs.YtcfngdnmpogaoaaGreat
