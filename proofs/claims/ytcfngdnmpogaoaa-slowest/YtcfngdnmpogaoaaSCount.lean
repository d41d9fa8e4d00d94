/-
  Counts.
-/
import Derived.Test.YtcfngdnmpogaoaaSMeth
namespace Go.Proofs.Ytcfngdnmpogaoaa
open Go.RowKit Go.MuLone

def countsV (c : RCounts) : Value := .agg #[.int .i64 c.taken, .int .i64 c.late, .int .i64 c.range, .int .i64 c.full, .int .i64 c.marks, .int .i64 c.broken]

theorem cells6Put {w : World} {g : Nat} {x0 x1 x2 x3 x4 x5 y0 y1 y2 y3 y4 y5 : Value} {t : TypeId} (h : w.heap[g]? = some (.cells #[x0, x1, x2, x3, x4, x5] t (0, 0))) :
    ((((((w.setCell ⟨g, 0, none⟩ y0).setCell ⟨g, 1, none⟩ y1).setCell ⟨g, 2, none⟩ y2).setCell ⟨g, 3, none⟩ y3).setCell ⟨g, 4, none⟩ y4).setCell ⟨g, 5, none⟩ y5).heap[g]? = some (.cells #[y0, y1, y2, y3, y4, y5] t (0, 0)) := by
  simp [World.setCell, Array.getElem?_modify, h]

theorem cells6At {w : World} {g : Nat} {x0 x1 x2 x3 x4 x5 : Value} {t : TypeId} (h : w.heap[g]? = some (.cells #[x0, x1, x2, x3, x4, x5] t (0, 0))) :
    w.cell? ⟨g, 0, none⟩ = some x0 ∧ w.cell? ⟨g, 1, none⟩ = some x1 ∧ w.cell? ⟨g, 2, none⟩ = some x2 ∧ w.cell? ⟨g, 3, none⟩ = some x3 ∧ w.cell? ⟨g, 4, none⟩ = some x4 ∧ w.cell? ⟨g, 5, none⟩ = some x5 ∧ (∀ j, w.frozen? ⟨g, j, none⟩ = false) := by
  refine ⟨by simp [World.cell?, h], by simp [World.cell?, h], by simp [World.cell?, h], by simp [World.cell?, h], by simp [World.cell?, h], by simp [World.cell?, h], fun j => by simp [World.frozen?, h]⟩

set_option maxRecDepth 20000 in
set_option maxHeartbeats 3200000 in
theorem told_any (g : Nat) (r : SCells) (w : World) (h : SF w g r) :
    Calls Try.prog 20 #[.pointer (some ⟨g, 50, none⟩)] w fun e w' => e = .returned (countsV r.n) ∧ Below w.heap.size w w' := by
  have hglt := h.lt
  have H : Hid (SF w g r) := h
  clear h
  go_enter Try.func20, Try.ntmps20
  go_wp2_with fail
  refine wp_region_still_tail 24 (by kernel_rfl) (by kernel_rfl) ?_
  simp only [List.take_succ_cons, List.take_zero, List.drop_succ_cons, List.drop_zero]
  have hbox := heap_alloc_new w (.cells #[.int .i64 0, .int .i64 0, .int .i64 0, .int .i64 0, .int .i64 0, .int .i64 0] 35)
  have H1 : Hid (SF (w.alloc (.cells #[.int .i64 0, .int .i64 0, .int .i64 0, .int .i64 0, .int .i64 0, .int .i64 0] 35)) g r) := H.out.congr (Below.heap_alloc _ _ _ hglt)
  have HB : Hid (Below w.heap.size w (w.alloc (.cells #[.int .i64 0, .int .i64 0, .int .i64 0, .int .i64 0, .int .i64 0, .int .i64 0] 35))) := (Below.refl _ w).alloc (Nat.le_refl _) _
  generalize w.alloc (.cells #[.int .i64 0, .int .i64 0, .int .i64 0, .int .i64 0, .int .i64 0, .int .i64 0] 35) = W1 at *
  change wpStill Try.prog _ W1.drew (fun a' => wpList Try.prog _ _ _ a' W1.drew) _ _
  have hbox : W1.drew.heap[w.heap.size]? = some (.cells #[.int .i64 0, .int .i64 0, .int .i64 0, .int .i64 0, .int .i64 0, .int .i64 0] 35 (0, 0)) := hbox
  have H2 : Hid (SF W1.drew g r) := H1.out.congr rfl
  have HB2 : Hid (Below w.heap.size w W1.drew) := HB.out.drew
  generalize W1.drew = W2 at *
  obtain ⟨b0, b1, b2, b3, b4, b5, bf⟩ := cells6At hbox
  have q0 := load_any g 50 r.n.taken W2 (H2.out.tailAt 4 rfl)
  have q1 := load_any g 51 r.n.late W2 (H2.out.tailAt 5 rfl)
  have q2 := load_any g 52 r.n.range W2 (H2.out.tailAt 6 rfl)
  have q3 := load_any g 53 r.n.full W2 (H2.out.tailAt 7 rfl)
  have q4 := load_any g 54 r.n.marks W2 (H2.out.tailAt 8 rfl)
  have q5 := load_any g 55 r.n.broken W2 (H2.out.tailAt 9 rfl)
  repeat still_step
  still_call q0
  repeat still_step
  still_call q1
  repeat still_step
  still_call q2
  repeat still_step
  still_call q3
  repeat still_step
  still_call q4
  repeat still_step
  still_call q5
  repeat still_step
  refine wpStill_nil ?_
  clear q0 q1 q2 q3 q4 q5
  go_wp2
  have hW := cells6Put (y0 := .int .i64 r.n.taken) (y1 := .int .i64 r.n.late) (y2 := .int .i64 r.n.range) (y3 := .int .i64 r.n.full) (y4 := .int .i64 r.n.marks) (y5 := .int .i64 r.n.broken) hbox
  have hB := (((((HB2.out.setCell (p := ⟨w.heap.size, 0, none⟩) (Nat.le_refl _) (.int .i64 r.n.taken)).setCell (p := ⟨w.heap.size, 1, none⟩) (Nat.le_refl _) (.int .i64 r.n.late)).setCell (p := ⟨w.heap.size, 2, none⟩) (Nat.le_refl _) (.int .i64 r.n.range)).setCell (p := ⟨w.heap.size, 3, none⟩) (Nat.le_refl _) (.int .i64 r.n.full)).setCell (p := ⟨w.heap.size, 4, none⟩) (Nat.le_refl _) (.int .i64 r.n.marks)).setCell (p := ⟨w.heap.size, 5, none⟩) (Nat.le_refl _) (.int .i64 r.n.broken)
  clear b0 b1 b2 b3 b4 b5 bf
  generalize (((((W2.setCell ⟨w.heap.size, 0, none⟩ (.int .i64 r.n.taken)).setCell ⟨w.heap.size, 1, none⟩ (.int .i64 r.n.late)).setCell ⟨w.heap.size, 2, none⟩ (.int .i64 r.n.range)).setCell ⟨w.heap.size, 3, none⟩ (.int .i64 r.n.full)).setCell ⟨w.heap.size, 4, none⟩ (.int .i64 r.n.marks)).setCell ⟨w.heap.size, 5, none⟩ (.int .i64 r.n.broken) = W at *
  obtain ⟨b0, b1, b2, b3, b4, b5, bf⟩ := cells6At hW
  exact bodyPost_ret (v := countsV r.n) (by simp [results, Try.results20, go_sem, b0, b1, b2, b3, b4, b5, countsV]) rfl ⟨rfl, hB⟩

set_option maxRecDepth 20000 in
set_option maxHeartbeats 3200000 in
theorem counts_any (g : Nat) (r : SCells) (w : World) (h : SF w g r) (hlk : r.lk = 0) :
    Calls Try.prog 11 #[.pointer (some ⟨g, 0, none⟩)] w fun e w' => e = .returned (countsV r.n) ∧ SF w' g r ∧ Kept (fun k => k = g) w w' := by
  have hglt := h.lt
  have hbox := heap_alloc_new w (.cells #[.int .i64 0, .int .i64 0, .int .i64 0, .int .i64 0, .int .i64 0, .int .i64 0] 35)
  have H0 : Hid (SF (w.alloc (.cells #[.int .i64 0, .int .i64 0, .int .i64 0, .int .i64 0, .int .i64 0, .int .i64 0] 35)) g r) := h.congr (Below.heap_alloc _ _ _ hglt)
  have K0 : Hid (Kept (fun k => k = g) w (w.alloc (.cells #[.int .i64 0, .int .i64 0, .int .i64 0, .int .i64 0, .int .i64 0, .int .i64 0] 35))) := (Kept.refl _ w).alloc _
  clear h
  go_enter_defers Try.func11, Try.ntmps11
  go_wp2_with fail
  have hsz : w.heap.size < (w.alloc (.cells #[.int .i64 0, .int .i64 0, .int .i64 0, .int .i64 0, .int .i64 0, .int .i64 0] 35)).heap.size := by simp
  generalize w.alloc (.cells #[.int .i64 0, .int .i64 0, .int .i64 0, .int .i64 0, .int .i64 0, .int .i64 0] 35) = W0 at *
  refine (lock_free muLib ⟨g, 0, none⟩ _ (H0.out.lockAt hlk) (H0.out.frozen _)).mono ?_
  rintro e w' ⟨rfl, rfl⟩
  have H1 : Hid (SF (W0.setCell ⟨g, 0, none⟩ (.int .i32 1)) g (r.lock 1)) := H0.out.putLock 1
  have K1 : Hid (Kept (fun k => k = g) w (W0.setCell ⟨g, 0, none⟩ (.int .i32 1))) := K0.out.setCell ⟨g, 0, none⟩ _ (fun _ => rfl)
  have hbox1 : (W0.setCell ⟨g, 0, none⟩ (.int .i32 1)).heap[w.heap.size]? = some (.cells #[.int .i64 0, .int .i64 0, .int .i64 0, .int .i64 0, .int .i64 0, .int .i64 0] 35 (0, 0)) := by
    rw [heap_setCell_other _ _ _ _ (by simp; omega)]; exact hbox
  have hsz1 : w.heap.size < (W0.setCell ⟨g, 0, none⟩ (.int .i32 1)).heap.size := by simpa [World.setCell] using hsz
  generalize W0.setCell ⟨g, 0, none⟩ (.int .i32 1) = W1 at *
  go_wp2_with fail
  refine (told_any g (r.lock 1) W1 H1.out).mono ?_
  rintro e W2 ⟨rfl, hb⟩
  have H2 : Hid (SF W2 g (r.lock 1)) := H1.out.below hb H1.out.lt
  have K2 : Hid (Kept (fun k => k = g) w W2) := K1.out.trans (Kept.ofBelow hb _)
  have hbox2 : W2.heap[w.heap.size]? = some (.cells #[.int .i64 0, .int .i64 0, .int .i64 0, .int .i64 0, .int .i64 0, .int .i64 0] 35 (0, 0)) := by rw [hb.block _ hsz1]; exact hbox1
  obtain ⟨b0, b1, b2, b3, b4, b5, bf⟩ := cells6At hbox2
  clear hb
  have HV : Hid (countsV r.n = .agg #[.int .i64 r.n.taken, .int .i64 r.n.late, .int .i64 r.n.range, .int .i64 r.n.full, .int .i64 r.n.marks, .int .i64 r.n.broken]) := rfl
  have e0 : (r.lock 1).n = r.n := rfl
  rw [e0]
  clear e0
  rw [HV.out]
  go_wp2_with fail
  have hW := cells6Put (y0 := .int .i64 r.n.taken) (y1 := .int .i64 r.n.late) (y2 := .int .i64 r.n.range) (y3 := .int .i64 r.n.full) (y4 := .int .i64 r.n.marks) (y5 := .int .i64 r.n.broken) hbox2
  have hgB : g ≠ w.heap.size := by omega
  have H3 : Hid (SF ((((((W2.setCell ⟨w.heap.size, 0, none⟩ (.int .i64 r.n.taken)).setCell ⟨w.heap.size, 1, none⟩ (.int .i64 r.n.late)).setCell ⟨w.heap.size, 2, none⟩ (.int .i64 r.n.range)).setCell ⟨w.heap.size, 3, none⟩ (.int .i64 r.n.full)).setCell ⟨w.heap.size, 4, none⟩ (.int .i64 r.n.marks)).setCell ⟨w.heap.size, 5, none⟩ (.int .i64 r.n.broken)) g (r.lock 1)) := by
    refine H2.out.congr ?_
    rw [heap_setCell_other _ _ _ _ hgB, heap_setCell_other _ _ _ _ hgB, heap_setCell_other _ _ _ _ hgB, heap_setCell_other _ _ _ _ hgB, heap_setCell_other _ _ _ _ hgB, heap_setCell_other _ _ _ _ hgB]
  have K3 : Hid (Kept (fun k => k = g) w ((((((W2.setCell ⟨w.heap.size, 0, none⟩ (.int .i64 r.n.taken)).setCell ⟨w.heap.size, 1, none⟩ (.int .i64 r.n.late)).setCell ⟨w.heap.size, 2, none⟩ (.int .i64 r.n.range)).setCell ⟨w.heap.size, 3, none⟩ (.int .i64 r.n.full)).setCell ⟨w.heap.size, 4, none⟩ (.int .i64 r.n.marks)).setCell ⟨w.heap.size, 5, none⟩ (.int .i64 r.n.broken))) := by
    refine Kept.setCell ?_ ⟨w.heap.size, _, none⟩ _ (fun h => absurd h (Nat.lt_irrefl _))
    refine Kept.setCell ?_ ⟨w.heap.size, _, none⟩ _ (fun h => absurd h (Nat.lt_irrefl _))
    refine Kept.setCell ?_ ⟨w.heap.size, _, none⟩ _ (fun h => absurd h (Nat.lt_irrefl _))
    refine Kept.setCell ?_ ⟨w.heap.size, _, none⟩ _ (fun h => absurd h (Nat.lt_irrefl _))
    refine Kept.setCell ?_ ⟨w.heap.size, _, none⟩ _ (fun h => absurd h (Nat.lt_irrefl _))
    refine Kept.setCell ?_ ⟨w.heap.size, _, none⟩ _ (fun h => absurd h (Nat.lt_irrefl _))
    exact K2.out
  clear b0 b1 b2 b3 b4 b5 bf
  generalize (((((W2.setCell ⟨w.heap.size, 0, none⟩ (.int .i64 r.n.taken)).setCell ⟨w.heap.size, 1, none⟩ (.int .i64 r.n.late)).setCell ⟨w.heap.size, 2, none⟩ (.int .i64 r.n.range)).setCell ⟨w.heap.size, 3, none⟩ (.int .i64 r.n.full)).setCell ⟨w.heap.size, 4, none⟩ (.int .i64 r.n.marks)).setCell ⟨w.heap.size, 5, none⟩ (.int .i64 r.n.broken) = W at *
  refine leaves_cons (f := 14) (args := #[.pointer (some ⟨g, 0, none⟩)]) (by simp) (by simp [go_sem]) ?_
  refine (unlock_deferred muLib ⟨g, 0, none⟩ .returning _ (H3.out.lockAt rfl) (H3.out.frozen _)).mono ?_
  rintro e u' w'' ⟨rfl, rfl, rfl⟩
  have hW' : (W.setCell ⟨g, 0, none⟩ (.int .i32 0)).heap[w.heap.size]? = some (.cells #[.int .i64 r.n.taken, .int .i64 r.n.late, .int .i64 r.n.range, .int .i64 r.n.full, .int .i64 r.n.marks, .int .i64 r.n.broken] 35 (0, 0)) := by
    rw [heap_setCell_other _ _ _ _ (fun e => hgB e.symm)]; exact hW
  have H4 := H3.out.putLock 0
  have K4 := K3.out.setCell ⟨g, 0, none⟩ (.int .i32 0) (fun _ => rfl)
  have e : (SCells.lock (r.lock 1) 0) = r := by cases r; simp only at hlk; subst hlk; rfl
  rw [e] at H4
  generalize W.setCell ⟨g, 0, none⟩ (.int .i32 0) = W' at *
  obtain ⟨b0, b1, b2, b3, b4, b5, bf⟩ := cells6At hW'
  exact ⟨countsV r.n, by simp [results, Try.results11, go_sem, b0, b1, b2, b3, b4, b5, countsV], rfl, H4, K4⟩
end Go.Proofs.Ytcfngdnmpogaoaa
