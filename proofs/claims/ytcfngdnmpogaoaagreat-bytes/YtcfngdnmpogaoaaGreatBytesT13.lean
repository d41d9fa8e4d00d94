import Derived.Test.YtcfngdnmpogaoaaGreatBytesT12

/-
  The parts: a stack's first push.
-/
namespace Go.Proofs.YtcfngdnmpogaoaaGreat
open Go.RowKit Go.MuLone

set_option maxRecDepth 20000 in
set_option maxHeartbeats 12800000 in
theorem push_nil (S so : Nat) (cs : Array Value) (T : TypeId) (a b : Int) (w : World) (hS : w.heap[S]? = some (.cells cs T (0, 0))) (hs : cs[so]? = some (.slice none 0 0)) :
    Calls Tryz.prog 211 #[.pointer (some ⟨S, so, none⟩), .agg #[.int .i64 a, .int .i64 b]] w fun e w' => e = .returned (.tuple #[]) ∧ ∃ g o c, w'.heap[S]? = some (.cells (cs.setIfInBounds so (.slice (some ⟨g, o, none⟩) 1 c)) T (0, 0)) ∧ w.heap.size ≤ g ∧ Row w' 261 4 (.slice (some ⟨g, o, none⟩) 1 c) [.int .i64 a, .int .i64 b, .int .i64 (minV 9223372036854775807 a), .int .i64 (maxV (-9223372036854775808) b)] ∧ Kept (fun k => k = S) w w' := by
  obtain ⟨i, hi, hz0, hz1, hz2⟩ := info_parts infoLv
  obtain ⟨X, HX⟩ : ∃ X, Hid (minV 9223372036854775807 a = X) := ⟨_, rfl⟩
  obtain ⟨Y, HY⟩ : ∃ Y, Hid (maxV (-9223372036854775808) b = Y) := ⟨_, rfl⟩
  rw [HX.out, HY.out]
  have jn : ∀ W : World, Calls Tryz.prog 151 #[.agg #[.int .i64 9223372036854775807, .int .i64 (-9223372036854775808)], .agg #[.int .i64 a, .int .i64 b]] W fun e w' => e = .returned (.agg #[.int .i64 X, .int .i64 Y]) ∧ Below W.heap.size W w' := by
    intro W
    have := joined_any 9223372036854775807 (-9223372036854775808) a b W
    rw [HX.out, HY.out] at this
    exact this
  have hSs := blkLt hS
  have hx1 := heap_alloc_new w (.cells #[.int .i64 a, .int .i64 b] 204)
  have hS1 := blkAlloc hS (.cells #[.int .i64 a, .int .i64 b] 204)
  have B1 : Hid (Below w.heap.size w (w.alloc (.cells #[.int .i64 a, .int .i64 b] 204)).drew) := ((Below.refl _ w).alloc (Nat.le_refl _) _).drew
  go_enter Tryz.func211, Tryz.ntmps211
  go_upto_region 1 with fail
  obtain ⟨B, HB⟩ : ∃ B, Hid (w.heap.size = B) := ⟨_, rfl⟩
  have hBS : B ≠ S := by rw [← HB.out]; omega
  have hSB : S ≠ B := Ne.symm hBS
  have hb1 := blkLt hx1
  generalize w.alloc (.cells #[.int .i64 a, .int .i64 b] 204) = W1 at *
  rw [HB.out] at hx1 hb1 B1 ⊢
  obtain ⟨x0, x1, -, -⟩ := cells2At hx1
  have q0 : W1.cell? ⟨S, so, none⟩ = some (.slice none 0 0) := blkCell hS1 hs
  have hSs1 := blkLt hS1
  have HS1 : Hid (W1.heap[S]? = some (.cells cs T (0, 0))) := hS1
  clear hx1 hS1 hS
  go_region_law (first
    | (refine step_call1 rfl 150 _ _ rfl enterWhole (.slice none 0 0) rfl _ (whole_nil none 0 _) ?_; rintro e w2 ⟨rfl, hb2⟩; refine ⟨_, rfl, ?_⟩; have u2 : w2.cell? ⟨B, 0, none⟩ = some (.int .i64 a) := (hb2.cell (p := ⟨B, 0, none⟩) hb1).trans x0; have v2 : w2.cell? ⟨B, 1, none⟩ = some (.int .i64 b) := (hb2.cell (p := ⟨B, 1, none⟩) hb1).trans x1; have q2 : w2.cell? ⟨S, so, none⟩ = some (.slice none 0 0) := (hb2.cell (p := ⟨S, so, none⟩) hSs1).trans q0)
    | (refine step_call2 rfl 151 _ _ _ rfl enterJoined (.agg #[.int .i64 9223372036854775807, .int .i64 (-9223372036854775808)]) (.agg #[.int .i64 a, .int .i64 b]) rfl rfl _ (jn _) ?_; rintro e w3 ⟨rfl, hb3⟩; refine ⟨_, rfl, ?_⟩; have z2 : W1.heap.size ≤ w2.heap.size := hb2.size; have u3 : w3.cell? ⟨B, 0, none⟩ = some (.int .i64 a) := (hb3.cell (p := ⟨B, 0, none⟩) (Nat.lt_of_lt_of_le hb1 z2)).trans u2; have v3 : w3.cell? ⟨B, 1, none⟩ = some (.int .i64 b) := (hb3.cell (p := ⟨B, 1, none⟩) (Nat.lt_of_lt_of_le hb1 z2)).trans v2; have q3 : w3.cell? ⟨S, so, none⟩ = some (.slice none 0 0) := (hb3.cell (p := ⟨S, so, none⟩) (Nat.lt_of_lt_of_le hSs1 z2)).trans q2; have z3 : W1.heap.size ≤ w3.heap.size := Nat.le_trans z2 hb3.size; have q3A : ∀ o, (w3.alloc o).cell? ⟨S, so, none⟩ = some (.slice none 0 0) := (fun o => (((Below.refl w3.heap.size w3).alloc (Nat.le_refl _) o).cell (p := ⟨S, so, none⟩) (Nat.lt_of_lt_of_le hSs1 z3)).trans q3))
    | (refine step_append rfl _ _ _ _ rfl 261 i (.agg #[.int .i64 0, .int .i64 0, .int .i64 0, .int .i64 0]) 4 32 Tryz.underlying238 hi hz0 hz1 hz2 rfl (by decide) (.slice none 0 0) [] rfl (Row.nil _ _ _) (.slice (some ⟨w3.heap.size, 0, none⟩) 1 1) 1 [.int .i64 a, .int .i64 b, .int .i64 X, .int .i64 Y] rfl ?_ Nat.one_pos ?_ ?_ ?_; exact Src.ofSlice _ Tryz.underlying238 ⟨w3.heap.size, 0, none⟩ 1 1 _ rfl (row_new w3 _ _) (by simp [Value.oneCell']); (simp only [maxLen, List.length_nil]; omega); (simp only [List.length_nil]; omega); intro sv w4 ha; have hsh := ha.row.shape (by simp); obtain ⟨vg, vo, vn, vc, rfl, hvn, -⟩ := hsh; have hvn1 : vn = 1 := (by simp at hvn; omega); subst hvn1; have z2 : W1.heap.size ≤ w2.heap.size := hb2.size; have v4 : w4.heap[S]? = some (.cells cs T (0, 0)) := (((((Below.refl w3.heap.size w3).alloc (Nat.le_refl _) _).trans (ha.below (B := w3.heap.size) (by intro g hg; simp [Value.ownBlock] at hg) (by simp))).block S (Nat.lt_of_lt_of_le hSs1 z3)).trans ((hb3.block S (Nat.lt_of_lt_of_le hSs1 z2)).trans ((hb2.block S hSs1).trans HS1.out))); have q4 : w4.cell? ⟨S, so, none⟩ = some (.slice none 0 0) := blkCell v4 hs; have f4 : w4.frozen? ⟨S, so, none⟩ = false := blkFrozen v4 so))
  all_goals
    have hr4 : Row w4 261 4 (.slice (some ⟨vg, vo, none⟩) 1 vc) [.int .i64 a, .int .i64 b, .int .i64 X, .int .i64 Y] := ha.row
    have hg4 : w3.heap.size ≤ vg := ha.blk (B := w3.heap.size) (by intro g hg; simp [Value.ownBlock] at hg) (by simp) vg rfl
    have b4 : Below w3.heap.size w3 w4 := ((Below.refl w3.heap.size w3).alloc (Nat.le_refl _) _).trans (ha.below (B := w3.heap.size) (by intro g hg; simp [Value.ownBlock] at hg) (by simp))
    have k4 : Kept (fun k => k = S) w w4 := Kept.ofBelow (by rw [HB.out]; exact B1.out.trans ((hb2.mono (Nat.le_of_lt hb1)).trans ((hb3.mono (by omega)).trans (b4.mono (by omega))))) _
    have hvS : vg ≠ S := fun e => by
      have h1 : S < w3.heap.size := Nat.lt_of_lt_of_le hSs1 z3
      omega
    go_end0
    refine ⟨rfl, vg, vo, vc, blkPut v4 so _, ?_, ?_, k4.setCell ⟨S, so, none⟩ _ (fun _ => rfl)⟩
    · rw [HB.out]; omega
    · exact hr4.congr (fun k hk => by simp only [Value.ownBlock, Option.some.injEq] at hk; subst hk; exact heap_setCell_other _ _ _ _ hvS)
end Go.Proofs.YtcfngdnmpogaoaaGreat
