import Derived.Test.YtcfngdnmpogaoaaGreatLinesUptoT09
import Derived.Maps.Own
import Derived.Maps.OwnOps
import Derived.Maps.OwnSet
import Derived.Deep.CutRange
import Derived.BigRegion

/-
  What is kept of a key's events: windows of a time, spans, a new pane, an event added to it, new parts.
-/
namespace Go.Proofs.YtcfngdnmpogaoaaGreat
open Go.RowKit Go.MuLone

theorem cells2New {w : World} {x y : Value} {t : TypeId} : (w.alloc (.cells #[x, y] t)).heap[w.heap.size]? = some (.cells #[x, y] t (0, 0)) := heap_alloc_new w _

/-- The first and the last window of a time. -/
def winFirst (size slide t : Int) : Int := down (t - size) slide + slide
def winLast (slide t : Int) : Int := down t slide

theorem noValues_any (w : World) :
    Calls Tryz.prog 170 #[] w fun e w' => e = .returned (.agg #[.int .i64 9223372036854775807, .int .i64 (-9223372036854775808)]) ∧ Below w.heap.size w w' := by
  go_enter Tryz.func170, Tryz.ntmps170
  go_wp2
  exact bodyPost_ret (v := .agg #[.int .i64 9223372036854775807, .int .i64 (-9223372036854775808)]) (by simp [results, Tryz.results170, go_sem]) rfl ⟨rfl, (Below.refl _ w).alloc (Nat.le_refl _) _⟩

def minV (a b : Int) : Int := if b < a then b else a
def maxV (a b : Int) : Int := if a < b then b else a

set_option maxHeartbeats 1600000 in
theorem joined_any (a b c d : Int) (w : World) :
    Calls Tryz.prog 151 #[.agg #[.int .i64 a, .int .i64 b], .agg #[.int .i64 c, .int .i64 d]] w fun e w' => e = .returned (.agg #[.int .i64 (minV a c), .int .i64 (maxV b d)]) ∧ Below w.heap.size w w' := by
  have key : ∀ x y : Int, (c < a ∧ x = c ∨ ¬ c < a ∧ x = a) → (b < d ∧ y = d ∨ ¬ b < d ∧ y = b) → Calls Tryz.prog 151 #[.agg #[.int .i64 a, .int .i64 b], .agg #[.int .i64 c, .int .i64 d]] w fun e w' => e = .returned (.agg #[.int .i64 x, .int .i64 y]) ∧ Below w.heap.size w w' := by
    rintro x y (⟨h1, rfl⟩ | ⟨h1, rfl⟩) (⟨h2, rfl⟩ | ⟨h2, rfl⟩)
    all_goals
      go_enter Tryz.func151, Tryz.ntmps151
      go_wp2
      exact bodyPost_ret (v := .agg #[.int .i64 _, .int .i64 _]) (by simp [results, Tryz.results151, go_sem]) rfl ⟨rfl, (((Below.refl _ w).alloc (Nat.le_refl _) _).alloc (by simp) _).alloc (by simp; omega) _⟩
  refine key _ _ ?_ ?_
  · unfold minV; split <;> simp_all
  · unfold maxV; split <;> simp_all

set_option maxRecDepth 20000 in
set_option maxHeartbeats 1600000 in
theorem windowsOf_any (size slide late keys t : Int) (w : World) (h1 : 1 ≤ slide) (h2 : slide ≤ size) (h3 : size ≤ 1099511627776) (t1 : -2305843009213693952 ≤ t - size) (t2 : t ≤ 2305843009213693952) :
    Calls Tryz.prog 148 #[confV size slide late keys, .int .i64 t] w fun e w' => e = .returned (.agg #[.int .i64 (winFirst size slide t), .int .i64 (winLast slide t)]) ∧ Below w.heap.size w w' := by
  have q1 := fun W => downTo_any (t - size) slide W h1 (by omega) (by omega) (by omega)
  have q2 := fun W => downTo_any t slide W h1 (by omega) (by omega) (by omega)
  have e1 : wrap64 (t - size) = t - size := by unfold wrap64; omega
  have e1' : IntKind.i64.wrap (t - size) = t - size := by rw [IntKind.wrap_i64]; omega
  have b1 : down (t - size) slide ≤ t - size ∧ t - size - slide < down (t - size) slide := by
    unfold down
    have := Int.emod_nonneg (t - size) (show slide ≠ 0 by omega)
    have := Int.emod_lt_of_pos (t - size) (show 0 < slide by omega)
    omega
  have e2 : IntKind.i64.wrap (down (t - size) slide + slide) = winFirst size slide t := by rw [IntKind.wrap_i64, winFirst]; omega
  have HW : Hid (winLast slide t = down t slide) := rfl
  rw [HW.out]
  generalize winFirst size slide t = F at *
  generalize down (t - size) slide = D1 at *
  generalize down t slide = D2 at *
  go_enter Tryz.func148, Tryz.ntmps148
  go_wp2_with fail
  refine wp_region_still_tail 14 (by kernel_rfl) (by kernel_rfl) ?_
  simp only [List.take_succ_cons, List.take_zero, List.drop_succ_cons, List.drop_zero]
  have hB : Hid (Below w.heap.size w ((w.alloc (.cells #[.int .i64 size, .int .i64 slide, .int .i64 late, .int .i64 keys] 42)).alloc (.cells #[.int .i64 0, .int .i64 0] 202))) := ((Below.refl _ w).alloc (Nat.le_refl _) _).alloc (by simp) _
  have c0 : ((w.alloc (.cells #[.int .i64 size, .int .i64 slide, .int .i64 late, .int .i64 keys] 42)).alloc (.cells #[.int .i64 0, .int .i64 0] 202)).cell? ⟨w.heap.size, 0, none⟩ = some (.int .i64 size) := by simp
  have c1 : ((w.alloc (.cells #[.int .i64 size, .int .i64 slide, .int .i64 late, .int .i64 keys] 42)).alloc (.cells #[.int .i64 0, .int .i64 0] 202)).cell? ⟨w.heap.size, 1, none⟩ = some (.int .i64 slide) := by simp
  have hx := (two_new w (.cells #[.int .i64 size, .int .i64 slide, .int .i64 late, .int .i64 keys] 42) (.cells #[.int .i64 0, .int .i64 0] 202)).2
  generalize (w.alloc (.cells #[.int .i64 size, .int .i64 slide, .int .i64 late, .int .i64 keys] 42)).alloc (.cells #[.int .i64 0, .int .i64 0] 202) = W1 at *
  change wpStill Tryz.prog _ W1.drew (fun a' => wpList Tryz.prog _ _ _ a' W1.drew) _ _
  have c0 : W1.drew.cell? ⟨w.heap.size, 0, none⟩ = some (.int .i64 size) := c0
  have c1 : W1.drew.cell? ⟨w.heap.size, 1, none⟩ = some (.int .i64 slide) := c1
  have hx : W1.drew.heap[w.heap.size + 1]? = some (.cells #[.int .i64 0, .int .i64 0] 202 (0, 0)) := hx
  have hB : Hid (Below w.heap.size w W1.drew) := hB.out.drew
  generalize W1.drew = W2 at *
  obtain ⟨x0, x1, xf, -⟩ := cells2At hx
  repeat still_step
  still_call (q1 _)
  repeat still_step
  still_call (q2 _)
  repeat still_step
  refine wpStill_nil ?_
  clear q1 q2
  go_wp2
  have hW := cells2Put (u := .int .i64 F) (v := .int .i64 D2) hx
  have hB2 := (hB.out.setCell (p := ⟨w.heap.size + 1, 0, none⟩) (by simp) (.int .i64 F)).setCell (p := ⟨w.heap.size + 1, 1, none⟩) (by simp) (.int .i64 D2)
  clear x0 x1 xf
  generalize (W2.setCell ⟨w.heap.size + 1, 0, none⟩ (.int .i64 F)).setCell ⟨w.heap.size + 1, 1, none⟩ (.int .i64 D2) = W at *
  obtain ⟨x0, x1, xf, -⟩ := cells2At hW
  exact bodyPost_ret (v := .agg #[.int .i64 F, .int .i64 D2]) (by simp [results, Tryz.results148, go_sem, x0, x1]) rfl ⟨rfl, hB2⟩

set_option maxRecDepth 20000 in
set_option maxHeartbeats 1600000 in
theorem newPane_any (first last : Int) (w : World) :
    Calls Tryz.prog 168 #[.agg #[.int .i64 first, .int .i64 last]] w fun e w' => ∃ P M, e = .returned (.pointer (some ⟨P, 0, none⟩)) ∧ w.heap.size ≤ P ∧ w.heap.size ≤ M ∧ P ≠ M ∧
      w'.heap[P]? = some (.cells #[.int .i64 first, .int .i64 last, .int .i64 0, .int .i64 0, .int .i64 9223372036854775807, .int .i64 (-9223372036854775808), .map (some M)] 207 (0, 0)) ∧ w'.heap[M]? = some (.map #[] 0) ∧ Below w.heap.size w w' := by
  have hmm := @run_makeMap Tryz.prog
  go_enter Tryz.func168, Tryz.ntmps168
  go_wp2_with fail
  have c0 : (w.alloc (.cells #[.int .i64 first, .int .i64 last] 202)).cell? ⟨w.heap.size, 0, none⟩ = some (.int .i64 first) := by simp
  have c1 : (w.alloc (.cells #[.int .i64 first, .int .i64 last] 202)).cell? ⟨w.heap.size, 1, none⟩ = some (.int .i64 last) := by simp
  have hB1 : Below w.heap.size w (w.alloc (.cells #[.int .i64 first, .int .i64 last] 202)) := (Below.refl _ w).alloc (Nat.le_refl _) _
  have hs1 : w.heap.size < (w.alloc (.cells #[.int .i64 first, .int .i64 last] 202)).heap.size := by simp
  generalize w.alloc (.cells #[.int .i64 first, .int .i64 last] 202) = W1 at *
  have hn0 := World.new_ne W1 ⟨w.heap.size, 0, none⟩ c0
  have hn1 := World.new_ne W1 ⟨w.heap.size, 1, none⟩ c1
  go_region_held3 (fun W => W.cell? ⟨w.heap.size, 0, none⟩ = some (.int .i64 first) ∧ W.cell? ⟨w.heap.size, 1, none⟩ = some (.int .i64 last)) (go_keep) (first | (go_at_call 170; refine (noValues_any _).mono ?_; rintro e w' ⟨rfl, hb⟩; have k0 : w'.cell? ⟨w.heap.size, 0, none⟩ = some (.int .i64 first) := (hb.cell (by simp; omega)).trans (by simp [*]); have k1 : w'.cell? ⟨w.heap.size, 1, none⟩ = some (.int .i64 last) := (hb.cell (by simp; omega)).trans (by simp [*])))
  · go_wp2
    go_ret
    have h1 : W1.heap.size ≤ w'.heap.size := hb.size
    have hbb : Below w.heap.size w w' := hB1.drew.trans (hb.mono (by show w.heap.size ≤ W1.heap.size; omega))
    exact ⟨w'.heap.size + 1, w'.heap.size, rfl, by omega, by omega, by omega, (two_new w' _ _).2, (two_new w' _ _).1, (hbb.alloc hbb.size _).alloc (by simp; omega) _⟩
  · go_wp2
    go_ret
    have h1 : W1.heap.size + 1 ≤ w'.heap.size := by have := hb.size; simpa using this
    have hbb : Below w.heap.size w w' := ((hB1.alloc hB1.size _).drew).trans (hb.mono (by simp; omega))
    refine ⟨w'.heap.size, W1.heap.size, rfl, by omega, by omega, by omega, heap_alloc_new w' _, ?_, hbb.alloc hbb.size _⟩
    rw [Below.heap_alloc _ _ _ (by omega), hb.block _ (by simp)]
    exact heap_alloc_new W1 _

theorem blkCell {w : World} {g : Nat} {cs : Array Value} {t : TypeId} (h : w.heap[g]? = some (.cells cs t (0, 0))) {i : Nat} {v : Value} (hv : cs[i]? = some v) : w.cell? ⟨g, i, none⟩ = some v := by simp [World.cell?, h, hv]
theorem blkFrozen {w : World} {g : Nat} {cs : Array Value} {t : TypeId} (h : w.heap[g]? = some (.cells cs t (0, 0))) (i : Nat) : w.frozen? ⟨g, i, none⟩ = false := by simp [World.frozen?, h]
theorem blkLt {w : World} {g : Nat} {o : Obj} (h : w.heap[g]? = some o) : g < w.heap.size := (Array.getElem?_eq_some_iff.1 h).1
theorem blkAlloc {w : World} {g : Nat} {o : Obj} (h : w.heap[g]? = some o) (o' : Obj) : (w.alloc o').heap[g]? = some o := by rw [Below.heap_alloc _ _ _ (blkLt h)]; exact h
theorem blkBelow {w w' : World} {g : Nat} {o : Obj} (h : w.heap[g]? = some o) (hb : Below w.heap.size w w') : w'.heap[g]? = some o := by rw [hb.block _ (blkLt h)]; exact h
theorem blkPut {w : World} {g : Nat} {cs : Array Value} {t : TypeId} (h : w.heap[g]? = some (.cells cs t (0, 0))) (i : Nat) (v : Value) : (w.setCell ⟨g, i, none⟩ v).heap[g]? = some (.cells (cs.setIfInBounds i v) t (0, 0)) := heap_setCell_same w g i cs t v h
theorem blkOther {w : World} {g : Nat} {o : Obj} (h : w.heap[g]? = some o) (k i : Nat) (v : Value) (hk : g ≠ k) : (w.setCell ⟨k, i, none⟩ v).heap[g]? = some o := by rw [heap_setCell_other _ _ _ _ hk]; exact h
theorem mapBlock {w w' : World} {P : Program} {k : TypeId} {H : Type} {R : Value → Option (DataW H × List MemPlace)} {b n : Nat} {D : DataW H} (h : w.ownsMap P k R b n D) (hb : w'.heap[b]? = w.heap[b]?) : w'.ownsMap P k R b n D := by
  obtain ⟨es, c, h1, h2⟩ := h
  exact ⟨es, c, by rw [hb]; exact h1, h2⟩
theorem mapLt {w : World} {P : Program} {k : TypeId} {H : Type} {R : Value → Option (DataW H × List MemPlace)} {b n : Nat} {D : DataW H} (h : w.ownsMap P k R b n D) : b < w.heap.size := by
  obtain ⟨es, c, h1, h2⟩ := h
  exact blkLt h1

/-- A pane in memory. -/
def paneCells (first last count sum least greatest : Int) (M : Nat) : Array Value := #[.int .i64 first, .int .i64 last, .int .i64 count, .int .i64 sum, .int .i64 least, .int .i64 greatest, .map (some M)]

theorem paneAt {w : World} {P M : Nat} {first last count sum least greatest : Int} (h : w.heap[P]? = some (.cells (paneCells first last count sum least greatest M) 207 (0, 0))) :
    w.cell? ⟨P, 0, none⟩ = some (.int .i64 first) ∧ w.cell? ⟨P, 1, none⟩ = some (.int .i64 last) ∧ w.cell? ⟨P, 2, none⟩ = some (.int .i64 count) ∧ w.cell? ⟨P, 3, none⟩ = some (.int .i64 sum) ∧ w.cell? ⟨P, 4, none⟩ = some (.int .i64 least) ∧ w.cell? ⟨P, 5, none⟩ = some (.int .i64 greatest) ∧ w.cell? ⟨P, 6, none⟩ = some (.map (some M)) ∧ (∀ j, w.frozen? ⟨P, j, none⟩ = false) :=
  ⟨blkCell h rfl, blkCell h rfl, blkCell h rfl, blkCell h rfl, blkCell h rfl, blkCell h rfl, blkCell h rfl, blkFrozen h⟩
theorem itemAt {w : World} {B : Nat} {k : Int} {key : ByteArray} {t v tag : Int} (h : w.heap[B]? = some (.cells #[.int .i64 k, .string key, .int .i64 t, .int .i64 v, .int .u32 tag] 28 (0, 0))) :
    w.cell? ⟨B, 0, none⟩ = some (.int .i64 k) ∧ w.cell? ⟨B, 1, none⟩ = some (.string key) ∧ w.cell? ⟨B, 2, none⟩ = some (.int .i64 t) ∧ w.cell? ⟨B, 3, none⟩ = some (.int .i64 v) ∧ w.cell? ⟨B, 4, none⟩ = some (.int .u32 tag) :=
  ⟨blkCell h rfl, blkCell h rfl, blkCell h rfl, blkCell h rfl, blkCell h rfl⟩

theorem keyedU : Maps.Keyed Tryz.prog 26 := Maps.int_keyed Tryz.underlying26

end Go.Proofs.YtcfngdnmpogaoaaGreat

/-
  An event added to a pane.
-/
namespace Go.Proofs.YtcfngdnmpogaoaaGreat
open Go.RowKit Go.MuLone

set_option maxRecDepth 20000 in
set_option maxHeartbeats 3200000 in
theorem add_pane (P M : Nat) (first last count sum least greatest : Int) (key : ByteArray) (t v : Int) (tag : Nat) (n : Nat) (D : DataW Unit) (w : World) (ht : tag < 4294967296)
    (hp : w.heap[P]? = some (.cells (paneCells first last count sum least greatest M) 207 (0, 0))) (hm : w.ownsMap Tryz.prog 26 (unitElem (H := Unit)) M n D) (hn : n < 1000000000) (hPM : P ≠ M) :
    Calls Tryz.prog 149 #[.pointer (some ⟨P, 0, none⟩), itemV 1 key t v tag] w fun e w' => e = .returned (.tuple #[]) ∧
      w'.heap[P]? = some (.cells (paneCells first last (wrap64 (count + 1)) (wrap64 (sum + v)) (minV least v) (maxV greatest v) M) 207 (0, 0)) ∧ w'.ownsMap Tryz.prog 26 (unitElem (H := Unit)) M (n + 1) (D.put (.int .u32 tag) (.agg [])) ∧ Kept (fun k => k = P ∨ k = M) w w' := by
  unfold itemV
  have hPs := blkLt hp
  have hMs := mapLt hm
  have hp1 := blkAlloc hp (.cells #[.int .i64 1, .string key, .int .i64 t, .int .i64 v, .int .u32 (tag : Int)] 28)
  have hm1 := mapBlock hm (Below.heap_alloc w (.cells #[.int .i64 1, .string key, .int .i64 t, .int .i64 v, .int .u32 (tag : Int)] 28) M hMs)
  have hi1 := heap_alloc_new w (.cells #[.int .i64 1, .string key, .int .i64 t, .int .i64 v, .int .u32 (tag : Int)] 28)
  have K1 : Hid (Kept (fun k => k = P ∨ k = M) w (w.alloc (.cells #[.int .i64 1, .string key, .int .i64 t, .int .i64 v, .int .u32 (tag : Int)] 28))) := (Kept.refl _ w).alloc _
  go_enter Tryz.func149, Tryz.ntmps149
  go_upto_region 1 with fail
  have hPB : ¬ P = w.heap.size := by omega
  have hMB : ¬ M = w.heap.size := by omega
  generalize w.heap.size = B at *
  generalize w.alloc (.cells #[.int .i64 1, .string key, .int .i64 t, .int .i64 v, .int .u32 (tag : Int)] 28) = W1 at *
  obtain ⟨-, -, c2, -, -, -, -, fz⟩ := paneAt hp1
  go_upto_region 2 with fail
  have hp2 : (W1.setCell ⟨P, 2, none⟩ (.int .i64 (wrap64 (count + 1)))).heap[P]? = some (.cells (paneCells first last (wrap64 (count + 1)) sum least greatest M) 207 (0, 0)) := blkPut hp1 2 _
  have hm2 := mapBlock hm1 (heap_setCell_other W1 ⟨P, 2, none⟩ M (.int .i64 (wrap64 (count + 1))) (fun e => hPM e.symm))
  have hi2 := blkOther hi1 P 2 (.int .i64 (wrap64 (count + 1))) (fun e => hPB e.symm)
  have K2 : Hid (Kept (fun k => k = P ∨ k = M) w (W1.setCell ⟨P, 2, none⟩ (.int .i64 (wrap64 (count + 1))))) := K1.out.setCell ⟨P, 2, none⟩ _ (fun _ => .inl rfl)
  clear c2 fz hp1 hm1 hi1
  generalize W1.setCell ⟨P, 2, none⟩ (.int .i64 (wrap64 (count + 1))) = W2 at *
  obtain ⟨C, HC⟩ : ∃ C, Hid (wrap64 (count + 1) = C) := ⟨_, rfl⟩
  rw [HC.out] at hp2 ⊢
  refine wp_region_still_tail 9 (by kernel_rfl) (by kernel_rfl) ?_
  simp only [List.take_succ_cons, List.take_zero, List.drop_succ_cons, List.drop_zero]
  change wpStill Tryz.prog _ W2.drew (fun a' => wpList Tryz.prog _ _ _ a' W2.drew) _ _
  have hp3 : W2.drew.heap[P]? = some (.cells (paneCells first last C sum least greatest M) 207 (0, 0)) := hp2
  have hm3 : W2.drew.ownsMap Tryz.prog 26 (unitElem (H := Unit)) M n D := hm2
  have hi3 : W2.drew.heap[B]? = some (.cells #[.int .i64 1, .string key, .int .i64 t, .int .i64 v, .int .u32 (tag : Int)] 28 (0, 0)) := hi2
  have K3 : Hid (Kept (fun k => k = P ∨ k = M) w W2.drew) := K2.out.drew
  clear hp2 hm2 hi2
  generalize W2.drew = W3 at *
  obtain ⟨-, -, -, c3, -, -, -, fz⟩ := paneAt hp3
  obtain ⟨-, -, -, d3, -⟩ := itemAt hi3
  have hsv : IntKind.i64.wrap (sum + v) = wrap64 (sum + v) := IntWalk.i64_left _
  repeat still_step
  refine wpStill_nil ?_
  go_wp2
  obtain ⟨S, HS⟩ : ∃ S, Hid (wrap64 (sum + v) = S) := ⟨_, rfl⟩
  rw [HS.out]
  have hp4 : (W3.setCell ⟨P, 3, none⟩ (.int .i64 S)).heap[P]? = some (.cells (paneCells first last C S least greatest M) 207 (0, 0)) := blkPut hp3 3 _
  have hm4 := mapBlock hm3 (heap_setCell_other W3 ⟨P, 3, none⟩ M (.int .i64 S) (fun e => hPM e.symm))
  have hi4 := blkOther hi3 P 3 (.int .i64 S) (fun e => hPB e.symm)
  have K4 : Hid (Kept (fun k => k = P ∨ k = M) w (W3.setCell ⟨P, 3, none⟩ (.int .i64 S))) := K3.out.setCell ⟨P, 3, none⟩ _ (fun _ => .inl rfl)
  clear c3 d3 fz hp3 hm3 hi3
  generalize W3.setCell ⟨P, 3, none⟩ (.int .i64 S) = W4 at *
  go_upto_region 3 with fail
  go_cut [31] from 20 to 32 (fun _ wx => wx.heap[P]? = some (.cells (paneCells first last C S (minV least v) (maxV greatest v) M) 207 (0, 0)) ∧ wx.ownsMap Tryz.prog 26 (unitElem (H := Unit)) M n D ∧ wx.heap[B]? = some (.cells #[.int .i64 1, .string key, .int .i64 t, .int .i64 v, .int .u32 (tag : Int)] 28 (0, 0)) ∧ Kept (fun k => k = P ∨ k = M) w wx)
  case first =>
    obtain ⟨-, -, -, -, c4, c5, -, fz⟩ := paneAt hp4
    obtain ⟨-, -, -, d3, -⟩ := itemAt hi4
    have hPs4 := blkLt hp4
    have hMs4 := mapLt hm4
    have hBs4 := blkLt hi4
    have HP : Hid (W4.heap[P]? = some (.cells (paneCells first last C S least greatest M) 207 (0, 0))) := hp4
    have HM : Hid (W4.ownsMap Tryz.prog 26 (unitElem (H := Unit)) M n D) := hm4
    have HI : Hid (W4.heap[B]? = some (.cells #[.int .i64 1, .string key, .int .i64 t, .int .i64 v, .int .u32 (tag : Int)] 28 (0, 0))) := hi4
    clear hp4 hm4 hi4
    go_region_with (go_at_call 151; refine (joined_any _ _ _ _ _).mono ?_; rintro e w' ⟨rfl, hb⟩; have k4 : w'.cell? ⟨P, 4, none⟩ = some (.int .i64 least) := (hb.cell (by simpa using hPs4)).trans (by simp [*]); have k5 : w'.cell? ⟨P, 5, none⟩ = some (.int .i64 greatest) := (hb.cell (by simpa using hPs4)).trans (by simp [*]); have kf : ∀ j, w'.frozen? ⟨P, j, none⟩ = false := fun j => ((bcell hb).2 P j (by simpa using hPs4)).trans (by simp [*]))
    all_goals
      go_wp2
      go_meet
      have hp5 : w'.heap[P]? = some (.cells (paneCells first last C S least greatest M) 207 (0, 0)) := by rw [hb.block P (by simpa using hPs4)]; exact HP.out
      have hp6 : ((w'.setCell ⟨P, 4, none⟩ (.int .i64 (minV least v))).setCell ⟨P, 5, none⟩ (.int .i64 (maxV greatest v))).heap[P]? = some (.cells (paneCells first last C S (minV least v) (maxV greatest v) M) 207 (0, 0)) := blkPut (blkPut hp5 4 _) 5 _
      refine ⟨hp6, ?_, ?_, ?_⟩
      · refine mapBlock HM.out ?_
        rw [heap_setCell_other _ _ _ _ (fun e => hPM e.symm), heap_setCell_other _ _ _ _ (fun e => hPM e.symm), hb.block M (by simpa using hMs4)]; rfl
      · rw [heap_setCell_other _ _ _ _ (fun e => hPB e.symm), heap_setCell_other _ _ _ _ (fun e => hPB e.symm), hb.block B (by simpa using hBs4)]; exact HI.out
      · refine Kept.setCell ?_ ⟨P, _, none⟩ _ (fun _ => .inl rfl)
        refine Kept.setCell ?_ ⟨P, _, none⟩ _ (fun _ => .inl rfl)
        exact K4.out.trans (Kept.step (Kept.drew (Kept.refl _ W4)) (Kept.ofBelow hb (fun _ => False)) (fun _ _ h => h.elim))
  case rest =>
    obtain ⟨hp5, hm5, hi5, k5⟩ := hcut
    have K5 : Hid (Kept (fun k => k = P ∨ k = M) w wc) := k5
    clear k5 hp4 hm4 hi4
    obtain ⟨L, HL⟩ : ∃ L, Hid (minV least v = L) := ⟨_, rfl⟩
    obtain ⟨G, HG⟩ : ∃ G, Hid (maxV greatest v = G) := ⟨_, rfl⟩
    rw [HL.out, HG.out] at hp5
    go_upto_region 4 with fail
    refine wp_region_still_tail 7 (by kernel_rfl) (by kernel_rfl) ?_
    simp only [List.take_succ_cons, List.take_zero, List.drop_succ_cons, List.drop_zero]
    change wpStill Tryz.prog _ wc.drew (fun a' => wpList Tryz.prog _ _ _ a' wc.drew) _ _
    have hp6 : wc.drew.heap[P]? = some (.cells (paneCells first last C S L G M) 207 (0, 0)) := hp5
    have hm6 : wc.drew.ownsMap Tryz.prog 26 (unitElem (H := Unit)) M n D := hm5
    have hi6 : wc.drew.heap[B]? = some (.cells #[.int .i64 1, .string key, .int .i64 t, .int .i64 v, .int .u32 (tag : Int)] 28 (0, 0)) := hi5
    have K6 : Hid (Kept (fun k => k = P ∨ k = M) w wc.drew) := K5.out.drew
    clear hp5 hm5 hi5
    generalize wc.drew = W6 at *
    obtain ⟨-, -, -, -, -, -, c6, fz⟩ := paneAt hp6
    obtain ⟨-, -, -, -, d4⟩ := itemAt hi6
    repeat still_step
    refine wpStill_nil ?_
    have hkey : keyOf Tryz.prog 26 (.int .u32 (tag : Int)) = some (.int .u32 (tag : Int)) := Maps.keyOf_int_mk Tryz.underlying26 (WalkArith.wf_u32 (by omega))
    go_wp2_with (at_mapUpdate; refine wpList_mapUpdate_own _ rfl _ _ _ 205 rfl 26 97 keyedU Tryz.underlying205 _ M n D rfl hm6 (by unfold maxLen; omega) _ _ _ rfl rfl hkey (.agg []) [] unitElem_mk ?_; intro w7 hown hgrow)
    go_end0
    rw [HC.out, HS.out, HL.out, HG.out]
    have hPs6 := blkLt hp6
    refine ⟨rfl, ?_, hown, ?_⟩
    · rw [hgrow.block P hPs6 (by simpa using hPM)]; exact hp6
    · exact K6.out.step (Kept.ofGrown hgrow) (fun i _ h => .inr (by simpa using h.symm))
end Go.Proofs.YtcfngdnmpogaoaaGreat

/-
  Lists of events, and what is kept of them. Nothing here speaks of memory.
-/
namespace Go.Proofs.YtcfngdnmpogaoaaGreat
open Go.RowKit Go.MuLone

/-- An event. -/
structure Ev where
  key : ByteArray
  t : Int
  v : Int
  tag : Nat

/-- An event's numbers are of their kinds. -/
def Ev.fits (e : Ev) : Prop := -9223372036854775808 ≤ e.v ∧ e.v ≤ 9223372036854775807 ∧ e.tag < 4294967296

def cntV (es : List Ev) : Int := wrap64 (es.length : Int)
def sumV (es : List Ev) : Int := wrap64 (es.map Ev.v).sum
def loV (es : List Ev) : Int := es.foldl (fun a e => minV a e.v) 9223372036854775807
def hiV (es : List Ev) : Int := es.foldl (fun a e => maxV a e.v) (-9223372036854775808)

theorem wrap64_add (a b : Int) : wrap64 (wrap64 a + b) = wrap64 (a + b) := by unfold wrap64; omega
theorem wrap64_add2 (a b : Int) : wrap64 (wrap64 a + wrap64 b) = wrap64 (a + b) := by unfold wrap64; omega
theorem wrap64_sub2 (a b : Int) : wrap64 (wrap64 a - wrap64 b) = wrap64 (a - b) := by unfold wrap64; omega

theorem cntV_nil : cntV [] = 0 := by unfold cntV wrap64; simp
theorem sumV_nil : sumV [] = 0 := by unfold sumV wrap64; simp
theorem cntV_snoc (es : List Ev) (e : Ev) : wrap64 (cntV es + 1) = cntV (es ++ [e]) := by
  unfold cntV; rw [wrap64_add, List.length_append]; simp
theorem sumV_snoc (es : List Ev) (e : Ev) : wrap64 (sumV es + e.v) = sumV (es ++ [e]) := by
  unfold sumV; rw [wrap64_add, List.map_append, List.sum_append]; simp
theorem cntV_append (a b : List Ev) : wrap64 (cntV a + cntV b) = cntV (a ++ b) := by
  unfold cntV; rw [wrap64_add2, List.length_append]; simp
theorem sumV_append (a b : List Ev) : wrap64 (sumV a + sumV b) = sumV (a ++ b) := by
  unfold sumV; rw [wrap64_add2, List.map_append, List.sum_append]
theorem cntV_less (a b : List Ev) : wrap64 (cntV (a ++ b) - cntV a) = cntV b := by
  unfold cntV; rw [wrap64_sub2, List.length_append]; congr 1; omega
theorem sumV_less (a b : List Ev) : wrap64 (sumV (a ++ b) - sumV a) = sumV b := by
  unfold sumV; rw [wrap64_sub2, List.map_append, List.sum_append]; congr 1; omega
theorem loV_snoc (es : List Ev) (e : Ev) : loV (es ++ [e]) = minV (loV es) e.v := by unfold loV; rw [List.foldl_append]; rfl
theorem hiV_snoc (es : List Ev) (e : Ev) : hiV (es ++ [e]) = maxV (hiV es) e.v := by unfold hiV; rw [List.foldl_append]; rfl

theorem minV_le (a b : Int) : minV a b ≤ a ∧ minV a b ≤ b ∧ (minV a b = a ∨ minV a b = b) := by unfold minV; split <;> omega
theorem maxV_le (a b : Int) : a ≤ maxV a b ∧ b ≤ maxV a b ∧ (maxV a b = a ∨ maxV a b = b) := by unfold maxV; split <;> omega

theorem loFold (es : List Ev) (a : Int) : es.foldl (fun a e => minV a e.v) a ≤ a ∧ (∀ e ∈ es, es.foldl (fun a e => minV a e.v) a ≤ e.v) ∧ (es.foldl (fun a e => minV a e.v) a = a ∨ ∃ e ∈ es, es.foldl (fun a e => minV a e.v) a = e.v) := by
  induction es generalizing a with
  | nil => simp
  | cons x es ih =>
    obtain ⟨h1, h2, h3⟩ := ih (minV a x.v)
    obtain ⟨m1, m2, m3⟩ := minV_le a x.v
    simp only [List.foldl_cons]
    refine ⟨by omega, ?_, ?_⟩
    · intro e he
      rcases List.mem_cons.1 he with rfl | he
      · omega
      · exact h2 e he
    · rcases h3 with h3 | ⟨e, he, h3⟩
      · rcases m3 with m3 | m3
        · left; omega
        · right; exact ⟨x, by simp, by omega⟩
      · right; exact ⟨e, by simp [he], h3⟩

theorem hiFold (es : List Ev) (a : Int) : a ≤ es.foldl (fun a e => maxV a e.v) a ∧ (∀ e ∈ es, e.v ≤ es.foldl (fun a e => maxV a e.v) a) ∧ (es.foldl (fun a e => maxV a e.v) a = a ∨ ∃ e ∈ es, es.foldl (fun a e => maxV a e.v) a = e.v) := by
  induction es generalizing a with
  | nil => simp
  | cons x es ih =>
    obtain ⟨h1, h2, h3⟩ := ih (maxV a x.v)
    obtain ⟨m1, m2, m3⟩ := maxV_le a x.v
    simp only [List.foldl_cons]
    refine ⟨by omega, ?_, ?_⟩
    · intro e he
      rcases List.mem_cons.1 he with rfl | he
      · omega
      · exact h2 e he
    · rcases h3 with h3 | ⟨e, he, h3⟩
      · rcases m3 with m3 | m3
        · left; omega
        · right; exact ⟨x, by simp, by omega⟩
      · right; exact ⟨e, by simp [he], h3⟩

def Fits (es : List Ev) : Prop := ∀ e ∈ es, e.fits

/-- The least value of events is one of theirs. -/
theorem loV_spec (es : List Ev) (hf : Fits es) (h0 : es ≠ []) : (∀ e ∈ es, loV es ≤ e.v) ∧ ∃ e ∈ es, loV es = e.v := by
  obtain ⟨h1, h2, h3⟩ := loFold es 9223372036854775807
  refine ⟨h2, ?_⟩
  rcases h3 with h3 | h3
  · match es, h0 with
    | x :: r, _ =>
      have := h2 x (by simp)
      have hx := (hf x (by simp)).2.1
      exact ⟨x, by simp, by show List.foldl _ _ _ = _; omega⟩
  · exact h3
theorem hiV_spec (es : List Ev) (hf : Fits es) (h0 : es ≠ []) : (∀ e ∈ es, e.v ≤ hiV es) ∧ ∃ e ∈ es, hiV es = e.v := by
  obtain ⟨h1, h2, h3⟩ := hiFold es (-9223372036854775808)
  refine ⟨h2, ?_⟩
  rcases h3 with h3 | h3
  · match es, h0 with
    | x :: r, _ =>
      have := h2 x (by simp)
      have hx := (hf x (by simp)).1
      exact ⟨x, by simp, by show List.foldl _ _ _ = _; omega⟩
  · exact h3
theorem loV_range (es : List Ev) (hf : Fits es) : -9223372036854775808 ≤ loV es ∧ loV es ≤ 9223372036854775807 := by
  by_cases h0 : es = []
  · subst h0; decide
  · obtain ⟨-, e, he, h⟩ := loV_spec es hf h0
    have := hf e he
    unfold Ev.fits at this; omega
theorem hiV_range (es : List Ev) (hf : Fits es) : -9223372036854775808 ≤ hiV es ∧ hiV es ≤ 9223372036854775807 := by
  by_cases h0 : es = []
  · subst h0; decide
  · obtain ⟨-, e, he, h⟩ := hiV_spec es hf h0
    have := hf e he
    unfold Ev.fits at this; omega
theorem Fits.append {a b : List Ev} : Fits (a ++ b) ↔ Fits a ∧ Fits b := by
  unfold Fits
  constructor
  · intro h; exact ⟨fun e he => h e (by simp [he]), fun e he => h e (by simp [he])⟩
  · rintro ⟨h1, h2⟩ e he
    rcases List.mem_append.1 he with h | h
    · exact h1 e h
    · exact h2 e h

theorem minV_fold (b : List Ev) : ∀ a : Int, a ≤ 9223372036854775807 → b.foldl (fun a e => minV a e.v) a = minV a (loV b) := by
  intro a ha
  obtain ⟨p1, p2, p3⟩ := loFold b a
  obtain ⟨q1, q2, q3⟩ := loFold b 9223372036854775807
  have e : loV b = b.foldl (fun a e => minV a e.v) 9223372036854775807 := rfl
  rw [← e] at q1 q2 q3
  generalize b.foldl (fun a e => minV a e.v) a = F at *
  generalize loV b = L at *
  obtain ⟨m1, m2, m3⟩ := minV_le a L
  generalize minV a L = M at *
  have h1 : M ≤ F := by
    rcases p3 with p3 | ⟨x, hx, p3⟩
    · omega
    · have := q2 x hx; omega
  have h2 : F ≤ M := by
    rcases m3 with m3 | m3
    · omega
    · rcases q3 with q3 | ⟨y, hy, q3⟩
      · omega
      · have := p2 y hy; omega
  omega
theorem maxV_fold (b : List Ev) : ∀ a : Int, -9223372036854775808 ≤ a → b.foldl (fun a e => maxV a e.v) a = maxV a (hiV b) := by
  intro a ha
  obtain ⟨p1, p2, p3⟩ := hiFold b a
  obtain ⟨q1, q2, q3⟩ := hiFold b (-9223372036854775808)
  have e : hiV b = b.foldl (fun a e => maxV a e.v) (-9223372036854775808) := rfl
  rw [← e] at q1 q2 q3
  generalize b.foldl (fun a e => maxV a e.v) a = F at *
  generalize hiV b = L at *
  obtain ⟨m1, m2, m3⟩ := maxV_le a L
  generalize maxV a L = M at *
  have h1 : F ≤ M := by
    rcases p3 with p3 | ⟨x, hx, p3⟩
    · omega
    · have := q2 x hx; omega
  have h2 : M ≤ F := by
    rcases m3 with m3 | m3
    · omega
    · rcases q3 with q3 | ⟨y, hy, q3⟩
      · omega
      · have := p2 y hy; omega
  omega
theorem loV_append (a b : List Ev) (hf : Fits a) : loV (a ++ b) = minV (loV a) (loV b) := by
  show List.foldl _ _ _ = _
  rw [List.foldl_append]
  exact minV_fold b _ (loV_range a hf).2
theorem hiV_append (a b : List Ev) (hf : Fits a) : hiV (a ++ b) = maxV (hiV a) (hiV b) := by
  show List.foldl _ _ _ = _
  rw [List.foldl_append]
  exact maxV_fold b _ (hiV_range a hf).1

/-- Events in another order have the same values. -/
theorem sum_perm {a b : List Int} (h : a.Perm b) : a.sum = b.sum := by
  induction h with
  | nil => rfl
  | cons x _ ih => simp [ih]
  | swap x y l => simp; omega
  | trans _ _ h1 h2 => exact h1.trans h2
theorem cntV_perm {a b : List Ev} (h : a.Perm b) : cntV a = cntV b := by unfold cntV; rw [h.length_eq]
theorem sumV_perm {a b : List Ev} (h : a.Perm b) : sumV a = sumV b := by unfold sumV; rw [sum_perm (h.map _)]
theorem Fits.perm {a b : List Ev} (h : a.Perm b) (hf : Fits a) : Fits b := fun e he => hf e (h.mem_iff.2 he)
theorem loV_perm {a b : List Ev} (h : a.Perm b) (hf : Fits a) : loV a = loV b := by
  by_cases h0 : a = []
  · subst h0; rw [h.nil_eq]
  · have hb : b ≠ [] := fun e => h0 (by subst e; exact h.eq_nil)
    obtain ⟨p1, x, hx, p2⟩ := loV_spec a hf h0
    obtain ⟨q1, y, hy, q2⟩ := loV_spec b (hf.perm h) hb
    have := p1 y (h.mem_iff.2 hy)
    have := q1 x (h.mem_iff.1 hx)
    omega
theorem hiV_perm {a b : List Ev} (h : a.Perm b) (hf : Fits a) : hiV a = hiV b := by
  by_cases h0 : a = []
  · subst h0; rw [h.nil_eq]
  · have hb : b ≠ [] := fun e => h0 (by subst e; exact h.eq_nil)
    obtain ⟨p1, x, hx, p2⟩ := hiV_spec a hf h0
    obtain ⟨q1, y, hy, q2⟩ := hiV_spec b (hf.perm h) hb
    have := p1 y (h.mem_iff.2 hy)
    have := q1 x (h.mem_iff.1 hx)
    omega

/-- A pane: the windows that its events are in, and the events. -/
structure Pane where
  first : Int
  last : Int
  evs : List Ev

/-- Panes come as their times do. -/
def Pane.lt (p q : Pane) : Prop := p.first < q.first ∨ p.first = q.first ∧ p.last < q.last
def Pane.span (p : Pane) : Int × Int := (loV p.evs, hiV p.evs)

/-- Stacks of running results. -/
def joinS (r x : Int × Int) : Int × Int := (minV r.1 x.1, maxV r.2 x.2)
def noneS : Int × Int := (9223372036854775807, -9223372036854775808)
def runS (xs : List (Int × Int)) : Int × Int := xs.foldl joinS noneS
def levelV (x r : Int × Int) : List Value := [.int .i64 x.1, .int .i64 x.2, .int .i64 r.1, .int .i64 r.2]
def levelsFrom (r : Int × Int) : List (Int × Int) → List Value
  | [] => []
  | x :: xs => levelV x (joinS r x) ++ levelsFrom (joinS r x) xs
def levels (xs : List (Int × Int)) : List Value := levelsFrom noneS xs

theorem levelsFrom_length (r : Int × Int) (xs : List (Int × Int)) : (levelsFrom r xs).length = xs.length * 4 := by
  induction xs generalizing r with
  | nil => rfl
  | cons x xs ih => simp only [levelsFrom, List.length_append, ih, levelV, List.length_cons, List.length_nil]; omega
theorem levels_length (xs : List (Int × Int)) : (levels xs).length = xs.length * 4 := levelsFrom_length _ _
theorem runS_snoc (xs : List (Int × Int)) (x : Int × Int) : runS (xs ++ [x]) = joinS (runS xs) x := by unfold runS; rw [List.foldl_append]; rfl
theorem levelsFrom_snoc (r : Int × Int) (xs : List (Int × Int)) (x : Int × Int) : levelsFrom r (xs ++ [x]) = levelsFrom r xs ++ levelV x (joinS (xs.foldl joinS r) x) := by
  induction xs generalizing r with
  | nil => simp [levelsFrom]
  | cons y xs ih => simp only [List.cons_append, levelsFrom, ih, List.foldl_cons, List.append_assoc]
theorem levels_snoc (xs : List (Int × Int)) (x : Int × Int) : levels (xs ++ [x]) = levels xs ++ levelV x (runS (xs ++ [x])) := by
  rw [runS_snoc]; exact levelsFrom_snoc _ _ _

end Go.Proofs.YtcfngdnmpogaoaaGreat

/-
  Of a flow with no key that is going on: is there room, the first run.
-/
namespace Go.Proofs.YtcfngdnmpogaoaaGreat
open Go.RowKit Go.MuLone

theorem isFinished_any (g : Nat) (r : SCells) (s : Int) (w : World) (h : SF w g r) (hw : IntKind.i64.wrap (s + r.size) = s + r.size) :
    Calls Tryz.prog 101 #[.pointer (some ⟨g, 0, none⟩), .int .i64 s] w fun e w' => e = .returned (.bool (decide (s + r.size ≤ r.lt))) ∧ ∃ m, w' = w.drewN m := by
  have c2 : w.cell? ⟨g, 2, none⟩ = some (.int .i64 r.size) := h.headAt 2 rfl
  have c46 : w.cell? ⟨g, 46, none⟩ = some (.int .i64 r.lt) := h.tailAt 0 rfl
  clear h
  generalize r.size = sz at *
  generalize r.lt = lt at *
  go_enter Tryz.func101, Tryz.ntmps101
  go_wp2
  go_quiet (fail)
  go_wp2
  go_ret
  exact ⟨rfl, nq, rfl⟩

theorem placeOf_nil (g : Nat) (r : SCells) (key : ByteArray) (w : World) (h : SF w g r) (hg : r.going = .slice none 0 0) :
    Calls Tryz.prog 145 #[.pointer (some ⟨g, 0, none⟩), .string key] w fun e w' => e = .returned (.int .i64 (-1)) ∧ Below w.heap.size w w' := by
  have h1 : SF (w.alloc (.cells #[.string key] 9)) g r := h.congr (Below.heap_alloc _ _ _ h.lt)
  have c0 : (w.alloc (.cells #[.string key] 9)).cell? ⟨g, 48, none⟩ = some (.slice none 0 0) := by rw [← hg]; exact h1.tailAt 2 rfl
  clear h h1
  go_enter Tryz.func145, Tryz.ntmps145
  go_wp2_with fail
  refine (indexFunc_nil _ _).mono ?_
  rintro e w' ⟨rfl, rfl⟩
  go_wp2
  go_ret
  exact ⟨rfl, (Below.refl _ w).alloc (Nat.le_refl _) _⟩

theorem isFullFor_nil (g : Nat) (r : SCells) (key : ByteArray) (w : World) (h : SF w g r) (hg : r.going = .slice none 0 0) (hk : 1 ≤ r.keys) :
    Calls Tryz.prog 126 #[.pointer (some ⟨g, 0, none⟩), .string key] w fun e w' => e = .returned (.bool false) ∧ ∃ m, w' = w.drewN m := by
  have c0 : w.cell? ⟨g, 48, none⟩ = some (.slice none 0 0) := by rw [← hg]; exact h.tailAt 2 rfl
  have c5 : w.cell? ⟨g, 5, none⟩ = some (.int .i64 r.keys) := h.headAt 5 rfl
  clear h
  have hd : decide (r.keys ≤ 0) = false := decide_eq_false (by omega)
  generalize r.keys = ks at *
  go_enter Tryz.func126, Tryz.ntmps126
  go_wp2_with fail
  go_quiet (fail)
  go_wp2
  go_ret
  exact ⟨rfl, nq, rfl⟩

/-- The parts of a window without a pane: at b the total, then the bounds, the tags' counts, the list of the three. -/
structure PartsNew (w : World) (b : Nat) : Prop where
  tot : w.heap[b]? = some (.cells #[.int .i64 0, .int .i64 0] 214 (0, 0))
  bnd : w.heap[b + 1]? = some (.cells #[.slice none 0 0, .slice none 0 0] 240 (0, 0))
  tag : w.heap[b + 2]? = some (.map #[] 0)
  all : w.heap[b + 3]? = some (.cells #[.iface 212 (.pointer (some ⟨b, 0, none⟩)), .iface 215 (.pointer (some ⟨b + 1, 0, none⟩)), .iface 218 (.map (some (b + 2)))] 210 (0, 0))

theorem PartsNew.congr {w w' : World} {b : Nat} (h : PartsNew w b) (hb : ∀ k, b ≤ k → k ≤ b + 3 → w'.heap[k]? = w.heap[k]?) : PartsNew w' b :=
  ⟨by rw [hb b (by omega) (by omega)]; exact h.tot, by rw [hb _ (by omega) (by omega)]; exact h.bnd, by rw [hb _ (by omega) (by omega)]; exact h.tag, by rw [hb _ (by omega) (by omega)]; exact h.all⟩

theorem four_new (w : World) (a b c d : Obj) : ((((w.alloc a).alloc b).alloc c).alloc d).heap[w.heap.size]? = some a ∧ ((((w.alloc a).alloc b).alloc c).alloc d).heap[w.heap.size + 1]? = some b ∧ ((((w.alloc a).alloc b).alloc c).alloc d).heap[w.heap.size + 2]? = some c ∧ ((((w.alloc a).alloc b).alloc c).alloc d).heap[w.heap.size + 3]? = some d := by
  have h1 := two_new w a b
  have h2 := two_new ((w.alloc a).alloc b) c d
  have e : ((w.alloc a).alloc b).heap.size = w.heap.size + 2 := by simp
  rw [e] at h2
  exact ⟨blkAlloc (blkAlloc h1.1 _) _, blkAlloc (blkAlloc h1.2 _) _, h2.1, h2.2⟩

set_option maxRecDepth 20000 in
set_option maxHeartbeats 1600000 in
theorem newParts_any (w : World) :
    Calls Tryz.prog 163 #[] w fun e w' => e = .returned (.slice (some ⟨w.heap.size + 3, 0, none⟩) 3 3) ∧ PartsNew w' w.heap.size ∧ Below w.heap.size w w' := by
  have hmm := @run_makeMap Tryz.prog
  go_enter Tryz.func163, Tryz.ntmps163
  go_wp2
  go_ret
  have hf := four_new w (.cells #[.int .i64 0, .int .i64 0] 214) (.cells #[.slice none 0 0, .slice none 0 0] 240) (.map #[] 0) (.cells #[.iface 212 (.pointer (some ⟨w.heap.size, 0, none⟩)), .iface 215 (.pointer (some ⟨w.heap.size + 1, 0, none⟩)), .iface 218 (.map (some (w.heap.size + 1 + 1)))] 210)
  exact ⟨rfl, ⟨hf.1, hf.2.1, hf.2.2.1, hf.2.2.2⟩, ((((Below.refl _ w).alloc (Nat.le_refl _) _).alloc (by simp) _).alloc (by simp; omega) _).alloc (by simp; omega) _⟩
end Go.Proofs.YtcfngdnmpogaoaaGreat
