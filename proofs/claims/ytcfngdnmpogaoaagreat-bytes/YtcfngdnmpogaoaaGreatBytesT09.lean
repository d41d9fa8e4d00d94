import Derived.Test.YtcfngdnmpogaoaaGreatBytesT08
import Derived.Maps.Own
import Derived.Maps.OwnOps
import Derived.Maps.OwnSet
import Derived.Deep.CutRange
import Derived.BigRegion

/-
  What is kept of a key's events: windows of a time, spans, a new pane, an event added to it, new parts.
-/
namespace Go.Proofs.YtcfngdnmpogaoaaGreat
open Go.RowKit Go.MuLone

theorem cells2New {w : World} {x y : Value} {t : TypeId} : (w.alloc (.cells #[x, y] t)).heap[w.heap.size]? = some (.cells #[x, y] t (0, 0)) := heap_alloc_new w _

/-- The first and the last window of a time. -/
def winFirst (size slide t : Int) : Int := down (t - size) slide + slide
def winLast (slide t : Int) : Int := down t slide

theorem noValues_any (w : World) :
    Calls Tryz.prog 170 #[] w fun e w' => e = .returned (.agg #[.int .i64 9223372036854775807, .int .i64 (-9223372036854775808)]) ∧ Below w.heap.size w w' := by
  go_enter Tryz.func170, Tryz.ntmps170
  go_wp2
  exact bodyPost_ret (v := .agg #[.int .i64 9223372036854775807, .int .i64 (-9223372036854775808)]) (by simp [results, Tryz.results170, go_sem]) rfl ⟨rfl, (Below.refl _ w).alloc (Nat.le_refl _) _⟩

def minV (a b : Int) : Int := if b < a then b else a
def maxV (a b : Int) : Int := if a < b then b else a

set_option maxHeartbeats 1600000 in
theorem joined_any (a b c d : Int) (w : World) :
    Calls Tryz.prog 151 #[.agg #[.int .i64 a, .int .i64 b], .agg #[.int .i64 c, .int .i64 d]] w fun e w' => e = .returned (.agg #[.int .i64 (minV a c), .int .i64 (maxV b d)]) ∧ Below w.heap.size w w' := by
  have key : ∀ x y : Int, (c < a ∧ x = c ∨ ¬ c < a ∧ x = a) → (b < d ∧ y = d ∨ ¬ b < d ∧ y = b) → Calls Tryz.prog 151 #[.agg #[.int .i64 a, .int .i64 b], .agg #[.int .i64 c, .int .i64 d]] w fun e w' => e = .returned (.agg #[.int .i64 x, .int .i64 y]) ∧ Below w.heap.size w w' := by
    rintro x y (⟨h1, rfl⟩ | ⟨h1, rfl⟩) (⟨h2, rfl⟩ | ⟨h2, rfl⟩)
    all_goals
      go_enter Tryz.func151, Tryz.ntmps151
      go_wp2
      exact bodyPost_ret (v := .agg #[.int .i64 _, .int .i64 _]) (by simp [results, Tryz.results151, go_sem]) rfl ⟨rfl, (((Below.refl _ w).alloc (Nat.le_refl _) _).alloc (by simp) _).alloc (by simp; omega) _⟩
  refine key _ _ ?_ ?_
  · unfold minV; split <;> simp_all
  · unfold maxV; split <;> simp_all

set_option maxRecDepth 20000 in
set_option maxHeartbeats 1600000 in
theorem windowsOf_any (size slide late keys t : Int) (w : World) (h1 : 1 ≤ slide) (h2 : slide ≤ size) (h3 : size ≤ 1099511627776) (t1 : -2305843009213693952 ≤ t - size) (t2 : t ≤ 2305843009213693952) :
    Calls Tryz.prog 148 #[confV size slide late keys, .int .i64 t] w fun e w' => e = .returned (.agg #[.int .i64 (winFirst size slide t), .int .i64 (winLast slide t)]) ∧ Below w.heap.size w w' := by
  have q1 := fun W => downTo_any (t - size) slide W h1 (by omega) (by omega) (by omega)
  have q2 := fun W => downTo_any t slide W h1 (by omega) (by omega) (by omega)
  have e1 : wrap64 (t - size) = t - size := by unfold wrap64; omega
  have e1' : IntKind.i64.wrap (t - size) = t - size := by rw [IntKind.wrap_i64]; omega
  have b1 : down (t - size) slide ≤ t - size ∧ t - size - slide < down (t - size) slide := by
    unfold down
    have := Int.emod_nonneg (t - size) (show slide ≠ 0 by omega)
    have := Int.emod_lt_of_pos (t - size) (show 0 < slide by omega)
    omega
  have e2 : IntKind.i64.wrap (down (t - size) slide + slide) = winFirst size slide t := by rw [IntKind.wrap_i64, winFirst]; omega
  have HW : Hid (winLast slide t = down t slide) := rfl
  rw [HW.out]
  generalize winFirst size slide t = F at *
  generalize down (t - size) slide = D1 at *
  generalize down t slide = D2 at *
  go_enter Tryz.func148, Tryz.ntmps148
  go_wp2_with fail
  refine wp_region_still_tail 14 (by kernel_rfl) (by kernel_rfl) ?_
  simp only [List.take_succ_cons, List.take_zero, List.drop_succ_cons, List.drop_zero]
  have hB : Hid (Below w.heap.size w ((w.alloc (.cells #[.int .i64 size, .int .i64 slide, .int .i64 late, .int .i64 keys] 42)).alloc (.cells #[.int .i64 0, .int .i64 0] 202))) := ((Below.refl _ w).alloc (Nat.le_refl _) _).alloc (by simp) _
  have c0 : ((w.alloc (.cells #[.int .i64 size, .int .i64 slide, .int .i64 late, .int .i64 keys] 42)).alloc (.cells #[.int .i64 0, .int .i64 0] 202)).cell? ⟨w.heap.size, 0, none⟩ = some (.int .i64 size) := by simp
  have c1 : ((w.alloc (.cells #[.int .i64 size, .int .i64 slide, .int .i64 late, .int .i64 keys] 42)).alloc (.cells #[.int .i64 0, .int .i64 0] 202)).cell? ⟨w.heap.size, 1, none⟩ = some (.int .i64 slide) := by simp
  have hx := (two_new w (.cells #[.int .i64 size, .int .i64 slide, .int .i64 late, .int .i64 keys] 42) (.cells #[.int .i64 0, .int .i64 0] 202)).2
  generalize (w.alloc (.cells #[.int .i64 size, .int .i64 slide, .int .i64 late, .int .i64 keys] 42)).alloc (.cells #[.int .i64 0, .int .i64 0] 202) = W1 at *
  change wpStill Tryz.prog _ W1.drew (fun a' => wpList Tryz.prog _ _ _ a' W1.drew) _ _
  have c0 : W1.drew.cell? ⟨w.heap.size, 0, none⟩ = some (.int .i64 size) := c0
  have c1 : W1.drew.cell? ⟨w.heap.size, 1, none⟩ = some (.int .i64 slide) := c1
  have hx : W1.drew.heap[w.heap.size + 1]? = some (.cells #[.int .i64 0, .int .i64 0] 202 (0, 0)) := hx
  have hB : Hid (Below w.heap.size w W1.drew) := hB.out.drew
  generalize W1.drew = W2 at *
  obtain ⟨x0, x1, xf, -⟩ := cells2At hx
  repeat still_step
  still_call (q1 _)
  repeat still_step
  still_call (q2 _)
  repeat still_step
  refine wpStill_nil ?_
  clear q1 q2
  go_wp2
  have hW := cells2Put (u := .int .i64 F) (v := .int .i64 D2) hx
  have hB2 := (hB.out.setCell (p := ⟨w.heap.size + 1, 0, none⟩) (by simp) (.int .i64 F)).setCell (p := ⟨w.heap.size + 1, 1, none⟩) (by simp) (.int .i64 D2)
  clear x0 x1 xf
  generalize (W2.setCell ⟨w.heap.size + 1, 0, none⟩ (.int .i64 F)).setCell ⟨w.heap.size + 1, 1, none⟩ (.int .i64 D2) = W at *
  obtain ⟨x0, x1, xf, -⟩ := cells2At hW
  exact bodyPost_ret (v := .agg #[.int .i64 F, .int .i64 D2]) (by simp [results, Tryz.results148, go_sem, x0, x1]) rfl ⟨rfl, hB2⟩

set_option maxRecDepth 20000 in
set_option maxHeartbeats 1600000 in
theorem newPane_any (first last : Int) (w : World) :
    Calls Tryz.prog 168 #[.agg #[.int .i64 first, .int .i64 last]] w fun e w' => ∃ P M, e = .returned (.pointer (some ⟨P, 0, none⟩)) ∧ w.heap.size ≤ P ∧ w.heap.size ≤ M ∧ P ≠ M ∧
      w'.heap[P]? = some (.cells #[.int .i64 first, .int .i64 last, .int .i64 0, .int .i64 0, .int .i64 9223372036854775807, .int .i64 (-9223372036854775808), .map (some M)] 207 (0, 0)) ∧ w'.heap[M]? = some (.map #[] 0) ∧ Below w.heap.size w w' := by
  have hmm := @run_makeMap Tryz.prog
  go_enter Tryz.func168, Tryz.ntmps168
  go_wp2_with fail
  have c0 : (w.alloc (.cells #[.int .i64 first, .int .i64 last] 202)).cell? ⟨w.heap.size, 0, none⟩ = some (.int .i64 first) := by simp
  have c1 : (w.alloc (.cells #[.int .i64 first, .int .i64 last] 202)).cell? ⟨w.heap.size, 1, none⟩ = some (.int .i64 last) := by simp
  have hB1 : Below w.heap.size w (w.alloc (.cells #[.int .i64 first, .int .i64 last] 202)) := (Below.refl _ w).alloc (Nat.le_refl _) _
  have hs1 : w.heap.size < (w.alloc (.cells #[.int .i64 first, .int .i64 last] 202)).heap.size := by simp
  generalize w.alloc (.cells #[.int .i64 first, .int .i64 last] 202) = W1 at *
  have hn0 := World.new_ne W1 ⟨w.heap.size, 0, none⟩ c0
  have hn1 := World.new_ne W1 ⟨w.heap.size, 1, none⟩ c1
  go_region_held3 (fun W => W.cell? ⟨w.heap.size, 0, none⟩ = some (.int .i64 first) ∧ W.cell? ⟨w.heap.size, 1, none⟩ = some (.int .i64 last)) (go_keep) (first | (go_at_call 170; refine (noValues_any _).mono ?_; rintro e w' ⟨rfl, hb⟩; have k0 : w'.cell? ⟨w.heap.size, 0, none⟩ = some (.int .i64 first) := (hb.cell (by simp; omega)).trans (by simp [*]); have k1 : w'.cell? ⟨w.heap.size, 1, none⟩ = some (.int .i64 last) := (hb.cell (by simp; omega)).trans (by simp [*])))
  · go_wp2
    go_ret
    have h1 : W1.heap.size ≤ w'.heap.size := hb.size
    have hbb : Below w.heap.size w w' := hB1.drew.trans (hb.mono (by show w.heap.size ≤ W1.heap.size; omega))
    exact ⟨w'.heap.size + 1, w'.heap.size, rfl, by omega, by omega, by omega, (two_new w' _ _).2, (two_new w' _ _).1, (hbb.alloc hbb.size _).alloc (by simp; omega) _⟩
  · go_wp2
    go_ret
    have h1 : W1.heap.size + 1 ≤ w'.heap.size := by have := hb.size; simpa using this
    have hbb : Below w.heap.size w w' := ((hB1.alloc hB1.size _).drew).trans (hb.mono (by simp; omega))
    refine ⟨w'.heap.size, W1.heap.size, rfl, by omega, by omega, by omega, heap_alloc_new w' _, ?_, hbb.alloc hbb.size _⟩
    rw [Below.heap_alloc _ _ _ (by omega), hb.block _ (by simp)]
    exact heap_alloc_new W1 _

theorem blkCell {w : World} {g : Nat} {cs : Array Value} {t : TypeId} (h : w.heap[g]? = some (.cells cs t (0, 0))) {i : Nat} {v : Value} (hv : cs[i]? = some v) : w.cell? ⟨g, i, none⟩ = some v := by simp [World.cell?, h, hv]
theorem blkFrozen {w : World} {g : Nat} {cs : Array Value} {t : TypeId} (h : w.heap[g]? = some (.cells cs t (0, 0))) (i : Nat) : w.frozen? ⟨g, i, none⟩ = false := by simp [World.frozen?, h]
theorem blkLt {w : World} {g : Nat} {o : Obj} (h : w.heap[g]? = some o) : g < w.heap.size := (Array.getElem?_eq_some_iff.1 h).1
theorem blkAlloc {w : World} {g : Nat} {o : Obj} (h : w.heap[g]? = some o) (o' : Obj) : (w.alloc o').heap[g]? = some o := by rw [Below.heap_alloc _ _ _ (blkLt h)]; exact h
theorem blkBelow {w w' : World} {g : Nat} {o : Obj} (h : w.heap[g]? = some o) (hb : Below w.heap.size w w') : w'.heap[g]? = some o := by rw [hb.block _ (blkLt h)]; exact h
theorem blkPut {w : World} {g : Nat} {cs : Array Value} {t : TypeId} (h : w.heap[g]? = some (.cells cs t (0, 0))) (i : Nat) (v : Value) : (w.setCell ⟨g, i, none⟩ v).heap[g]? = some (.cells (cs.setIfInBounds i v) t (0, 0)) := heap_setCell_same w g i cs t v h
theorem blkOther {w : World} {g : Nat} {o : Obj} (h : w.heap[g]? = some o) (k i : Nat) (v : Value) (hk : g ≠ k) : (w.setCell ⟨k, i, none⟩ v).heap[g]? = some o := by rw [heap_setCell_other _ _ _ _ hk]; exact h
theorem mapBlock {w w' : World} {P : Program} {k : TypeId} {H : Type} {R : Value → Option (DataW H × List MemPlace)} {b n : Nat} {D : DataW H} (h : w.ownsMap P k R b n D) (hb : w'.heap[b]? = w.heap[b]?) : w'.ownsMap P k R b n D := by
  obtain ⟨es, c, h1, h2⟩ := h
  exact ⟨es, c, by rw [hb]; exact h1, h2⟩
theorem mapLt {w : World} {P : Program} {k : TypeId} {H : Type} {R : Value → Option (DataW H × List MemPlace)} {b n : Nat} {D : DataW H} (h : w.ownsMap P k R b n D) : b < w.heap.size := by
  obtain ⟨es, c, h1, h2⟩ := h
  exact blkLt h1

/-- A pane in memory. -/
def paneCells (first last count sum least greatest : Int) (M : Nat) : Array Value := #[.int .i64 first, .int .i64 last, .int .i64 count, .int .i64 sum, .int .i64 least, .int .i64 greatest, .map (some M)]

theorem paneAt {w : World} {P M : Nat} {first last count sum least greatest : Int} (h : w.heap[P]? = some (.cells (paneCells first last count sum least greatest M) 207 (0, 0))) :
    w.cell? ⟨P, 0, none⟩ = some (.int .i64 first) ∧ w.cell? ⟨P, 1, none⟩ = some (.int .i64 last) ∧ w.cell? ⟨P, 2, none⟩ = some (.int .i64 count) ∧ w.cell? ⟨P, 3, none⟩ = some (.int .i64 sum) ∧ w.cell? ⟨P, 4, none⟩ = some (.int .i64 least) ∧ w.cell? ⟨P, 5, none⟩ = some (.int .i64 greatest) ∧ w.cell? ⟨P, 6, none⟩ = some (.map (some M)) ∧ (∀ j, w.frozen? ⟨P, j, none⟩ = false) :=
  ⟨blkCell h rfl, blkCell h rfl, blkCell h rfl, blkCell h rfl, blkCell h rfl, blkCell h rfl, blkCell h rfl, blkFrozen h⟩
theorem itemAt {w : World} {B : Nat} {k : Int} {key : ByteArray} {t v tag : Int} (h : w.heap[B]? = some (.cells #[.int .i64 k, .string key, .int .i64 t, .int .i64 v, .int .u32 tag] 28 (0, 0))) :
    w.cell? ⟨B, 0, none⟩ = some (.int .i64 k) ∧ w.cell? ⟨B, 1, none⟩ = some (.string key) ∧ w.cell? ⟨B, 2, none⟩ = some (.int .i64 t) ∧ w.cell? ⟨B, 3, none⟩ = some (.int .i64 v) ∧ w.cell? ⟨B, 4, none⟩ = some (.int .u32 tag) :=
  ⟨blkCell h rfl, blkCell h rfl, blkCell h rfl, blkCell h rfl, blkCell h rfl⟩

theorem keyedU : Maps.Keyed Tryz.prog 26 := Maps.int_keyed Tryz.underlying26

end Go.Proofs.YtcfngdnmpogaoaaGreat

/-
  An event added to a pane.
-/
namespace Go.Proofs.YtcfngdnmpogaoaaGreat
open Go.RowKit Go.MuLone

set_option maxRecDepth 20000 in
set_option maxHeartbeats 3200000 in
theorem add_pane (P M : Nat) (first last count sum least greatest : Int) (key : ByteArray) (t v : Int) (tag : Nat) (n : Nat) (D : DataW Unit) (w : World) (ht : tag < 4294967296)
    (hp : w.heap[P]? = some (.cells (paneCells first last count sum least greatest M) 207 (0, 0))) (hm : w.ownsMap Tryz.prog 26 (unitElem (H := Unit)) M n D) (hn : n < 1000000000) (hPM : P ≠ M) :
    Calls Tryz.prog 149 #[.pointer (some ⟨P, 0, none⟩), itemV 1 key t v tag] w fun e w' => e = .returned (.tuple #[]) ∧
      w'.heap[P]? = some (.cells (paneCells first last (wrap64 (count + 1)) (wrap64 (sum + v)) (minV least v) (maxV greatest v) M) 207 (0, 0)) ∧ w'.ownsMap Tryz.prog 26 (unitElem (H := Unit)) M (n + 1) (D.put (.int .u32 tag) (.agg [])) ∧ Kept (fun k => k = P ∨ k = M) w w' := by
  unfold itemV
  have hPs := blkLt hp
  have hMs := mapLt hm
  have hp1 := blkAlloc hp (.cells #[.int .i64 1, .string key, .int .i64 t, .int .i64 v, .int .u32 (tag : Int)] 28)
  have hm1 := mapBlock hm (Below.heap_alloc w (.cells #[.int .i64 1, .string key, .int .i64 t, .int .i64 v, .int .u32 (tag : Int)] 28) M hMs)
  have hi1 := heap_alloc_new w (.cells #[.int .i64 1, .string key, .int .i64 t, .int .i64 v, .int .u32 (tag : Int)] 28)
  have K1 : Hid (Kept (fun k => k = P ∨ k = M) w (w.alloc (.cells #[.int .i64 1, .string key, .int .i64 t, .int .i64 v, .int .u32 (tag : Int)] 28))) := (Kept.refl _ w).alloc _
  go_enter Tryz.func149, Tryz.ntmps149
  go_upto_region 1 with fail
  have hPB : ¬ P = w.heap.size := by omega
  have hMB : ¬ M = w.heap.size := by omega
  generalize w.heap.size = B at *
  generalize w.alloc (.cells #[.int .i64 1, .string key, .int .i64 t, .int .i64 v, .int .u32 (tag : Int)] 28) = W1 at *
  obtain ⟨-, -, c2, -, -, -, -, fz⟩ := paneAt hp1
  go_upto_region 2 with fail
  have hp2 : (W1.setCell ⟨P, 2, none⟩ (.int .i64 (wrap64 (count + 1)))).heap[P]? = some (.cells (paneCells first last (wrap64 (count + 1)) sum least greatest M) 207 (0, 0)) := blkPut hp1 2 _
  have hm2 := mapBlock hm1 (heap_setCell_other W1 ⟨P, 2, none⟩ M (.int .i64 (wrap64 (count + 1))) (fun e => hPM e.symm))
  have hi2 := blkOther hi1 P 2 (.int .i64 (wrap64 (count + 1))) (fun e => hPB e.symm)
  have K2 : Hid (Kept (fun k => k = P ∨ k = M) w (W1.setCell ⟨P, 2, none⟩ (.int .i64 (wrap64 (count + 1))))) := K1.out.setCell ⟨P, 2, none⟩ _ (fun _ => .inl rfl)
  clear c2 fz hp1 hm1 hi1
  generalize W1.setCell ⟨P, 2, none⟩ (.int .i64 (wrap64 (count + 1))) = W2 at *
  obtain ⟨C, HC⟩ : ∃ C, Hid (wrap64 (count + 1) = C) := ⟨_, rfl⟩
  rw [HC.out] at hp2 ⊢
  refine wp_region_still_tail 9 (by kernel_rfl) (by kernel_rfl) ?_
  simp only [List.take_succ_cons, List.take_zero, List.drop_succ_cons, List.drop_zero]
  change wpStill Tryz.prog _ W2.drew (fun a' => wpList Tryz.prog _ _ _ a' W2.drew) _ _
  have hp3 : W2.drew.heap[P]? = some (.cells (paneCells first last C sum least greatest M) 207 (0, 0)) := hp2
  have hm3 : W2.drew.ownsMap Tryz.prog 26 (unitElem (H := Unit)) M n D := hm2
  have hi3 : W2.drew.heap[B]? = some (.cells #[.int .i64 1, .string key, .int .i64 t, .int .i64 v, .int .u32 (tag : Int)] 28 (0, 0)) := hi2
  have K3 : Hid (Kept (fun k => k = P ∨ k = M) w W2.drew) := K2.out.drew
  clear hp2 hm2 hi2
  generalize W2.drew = W3 at *
  obtain ⟨-, -, -, c3, -, -, -, fz⟩ := paneAt hp3
  obtain ⟨-, -, -, d3, -⟩ := itemAt hi3
  have hsv : IntKind.i64.wrap (sum + v) = wrap64 (sum + v) := IntWalk.i64_left _
  repeat still_step
  refine wpStill_nil ?_
  go_wp2
  obtain ⟨S, HS⟩ : ∃ S, Hid (wrap64 (sum + v) = S) := ⟨_, rfl⟩
  rw [HS.out]
  have hp4 : (W3.setCell ⟨P, 3, none⟩ (.int .i64 S)).heap[P]? = some (.cells (paneCells first last C S least greatest M) 207 (0, 0)) := blkPut hp3 3 _
  have hm4 := mapBlock hm3 (heap_setCell_other W3 ⟨P, 3, none⟩ M (.int .i64 S) (fun e => hPM e.symm))
  have hi4 := blkOther hi3 P 3 (.int .i64 S) (fun e => hPB e.symm)
  have K4 : Hid (Kept (fun k => k = P ∨ k = M) w (W3.setCell ⟨P, 3, none⟩ (.int .i64 S))) := K3.out.setCell ⟨P, 3, none⟩ _ (fun _ => .inl rfl)
  clear c3 d3 fz hp3 hm3 hi3
  generalize W3.setCell ⟨P, 3, none⟩ (.int .i64 S) = W4 at *
  go_upto_region 3 with fail
  go_cut [31] from 20 to 32 (fun _ wx => wx.heap[P]? = some (.cells (paneCells first last C S (minV least v) (maxV greatest v) M) 207 (0, 0)) ∧ wx.ownsMap Tryz.prog 26 (unitElem (H := Unit)) M n D ∧ wx.heap[B]? = some (.cells #[.int .i64 1, .string key, .int .i64 t, .int .i64 v, .int .u32 (tag : Int)] 28 (0, 0)) ∧ Kept (fun k => k = P ∨ k = M) w wx)
  case first =>
    obtain ⟨-, -, -, -, c4, c5, -, fz⟩ := paneAt hp4
    obtain ⟨-, -, -, d3, -⟩ := itemAt hi4
    have hPs4 := blkLt hp4
    have hMs4 := mapLt hm4
    have hBs4 := blkLt hi4
    have HP : Hid (W4.heap[P]? = some (.cells (paneCells first last C S least greatest M) 207 (0, 0))) := hp4
    have HM : Hid (W4.ownsMap Tryz.prog 26 (unitElem (H := Unit)) M n D) := hm4
    have HI : Hid (W4.heap[B]? = some (.cells #[.int .i64 1, .string key, .int .i64 t, .int .i64 v, .int .u32 (tag : Int)] 28 (0, 0))) := hi4
    clear hp4 hm4 hi4
    go_region_with (go_at_call 151; refine (joined_any _ _ _ _ _).mono ?_; rintro e w' ⟨rfl, hb⟩; have k4 : w'.cell? ⟨P, 4, none⟩ = some (.int .i64 least) := (hb.cell (by simpa using hPs4)).trans (by simp [*]); have k5 : w'.cell? ⟨P, 5, none⟩ = some (.int .i64 greatest) := (hb.cell (by simpa using hPs4)).trans (by simp [*]); have kf : ∀ j, w'.frozen? ⟨P, j, none⟩ = false := fun j => ((bcell hb).2 P j (by simpa using hPs4)).trans (by simp [*]))
    all_goals
      go_wp2
      go_meet
      have hp5 : w'.heap[P]? = some (.cells (paneCells first last C S least greatest M) 207 (0, 0)) := by rw [hb.block P (by simpa using hPs4)]; exact HP.out
      have hp6 : ((w'.setCell ⟨P, 4, none⟩ (.int .i64 (minV least v))).setCell ⟨P, 5, none⟩ (.int .i64 (maxV greatest v))).heap[P]? = some (.cells (paneCells first last C S (minV least v) (maxV greatest v) M) 207 (0, 0)) := blkPut (blkPut hp5 4 _) 5 _
      refine ⟨hp6, ?_, ?_, ?_⟩
      · refine mapBlock HM.out ?_
        rw [heap_setCell_other _ _ _ _ (fun e => hPM e.symm), heap_setCell_other _ _ _ _ (fun e => hPM e.symm), hb.block M (by simpa using hMs4)]; rfl
      · rw [heap_setCell_other _ _ _ _ (fun e => hPB e.symm), heap_setCell_other _ _ _ _ (fun e => hPB e.symm), hb.block B (by simpa using hBs4)]; exact HI.out
      · refine Kept.setCell ?_ ⟨P, _, none⟩ _ (fun _ => .inl rfl)
        refine Kept.setCell ?_ ⟨P, _, none⟩ _ (fun _ => .inl rfl)
        exact K4.out.trans (Kept.step (Kept.drew (Kept.refl _ W4)) (Kept.ofBelow hb (fun _ => False)) (fun _ _ h => h.elim))
  case rest =>
    obtain ⟨hp5, hm5, hi5, k5⟩ := hcut
    have K5 : Hid (Kept (fun k => k = P ∨ k = M) w wc) := k5
    clear k5 hp4 hm4 hi4
    obtain ⟨L, HL⟩ : ∃ L, Hid (minV least v = L) := ⟨_, rfl⟩
    obtain ⟨G, HG⟩ : ∃ G, Hid (maxV greatest v = G) := ⟨_, rfl⟩
    rw [HL.out, HG.out] at hp5
    go_upto_region 4 with fail
    refine wp_region_still_tail 7 (by kernel_rfl) (by kernel_rfl) ?_
    simp only [List.take_succ_cons, List.take_zero, List.drop_succ_cons, List.drop_zero]
    change wpStill Tryz.prog _ wc.drew (fun a' => wpList Tryz.prog _ _ _ a' wc.drew) _ _
    have hp6 : wc.drew.heap[P]? = some (.cells (paneCells first last C S L G M) 207 (0, 0)) := hp5
    have hm6 : wc.drew.ownsMap Tryz.prog 26 (unitElem (H := Unit)) M n D := hm5
    have hi6 : wc.drew.heap[B]? = some (.cells #[.int .i64 1, .string key, .int .i64 t, .int .i64 v, .int .u32 (tag : Int)] 28 (0, 0)) := hi5
    have K6 : Hid (Kept (fun k => k = P ∨ k = M) w wc.drew) := K5.out.drew
    clear hp5 hm5 hi5
    generalize wc.drew = W6 at *
    obtain ⟨-, -, -, -, -, -, c6, fz⟩ := paneAt hp6
    obtain ⟨-, -, -, -, d4⟩ := itemAt hi6
    repeat still_step
    refine wpStill_nil ?_
    have hkey : keyOf Tryz.prog 26 (.int .u32 (tag : Int)) = some (.int .u32 (tag : Int)) := Maps.keyOf_int_mk Tryz.underlying26 (WalkArith.wf_u32 (by omega))
    go_wp2_with (at_mapUpdate; refine wpList_mapUpdate_own _ rfl _ _ _ 205 rfl 26 97 keyedU Tryz.underlying205 _ M n D rfl hm6 (by unfold maxLen; omega) _ _ _ rfl rfl hkey (.agg []) [] unitElem_mk ?_; intro w7 hown hgrow)
    go_end0
    rw [HC.out, HS.out, HL.out, HG.out]
    have hPs6 := blkLt hp6
    refine ⟨rfl, ?_, hown, ?_⟩
    · rw [hgrow.block P hPs6 (by simpa using hPM)]; exact hp6
    · exact K6.out.step (Kept.ofGrown hgrow) (fun i _ h => .inr (by simpa using h.symm))
end Go.Proofs.YtcfngdnmpogaoaaGreat

/-
  Of a flow with no key that is going on: is there room, the first run.
-/
namespace Go.Proofs.YtcfngdnmpogaoaaGreat
open Go.RowKit Go.MuLone

theorem isFinished_any (g : Nat) (r : SCells) (s : Int) (w : World) (h : SF w g r) (hw : IntKind.i64.wrap (s + r.size) = s + r.size) :
    Calls Tryz.prog 101 #[.pointer (some ⟨g, 0, none⟩), .int .i64 s] w fun e w' => e = .returned (.bool (decide (s + r.size ≤ r.lt))) ∧ ∃ m, w' = w.drewN m := by
  have c2 : w.cell? ⟨g, 2, none⟩ = some (.int .i64 r.size) := h.headAt 2 rfl
  have c46 : w.cell? ⟨g, 46, none⟩ = some (.int .i64 r.lt) := h.tailAt 0 rfl
  clear h
  generalize r.size = sz at *
  generalize r.lt = lt at *
  go_enter Tryz.func101, Tryz.ntmps101
  go_wp2
  go_quiet (fail)
  go_wp2
  go_ret
  exact ⟨rfl, nq, rfl⟩

theorem placeOf_nil (g : Nat) (r : SCells) (key : ByteArray) (w : World) (h : SF w g r) (hg : r.going = .slice none 0 0) :
    Calls Tryz.prog 145 #[.pointer (some ⟨g, 0, none⟩), .string key] w fun e w' => e = .returned (.int .i64 (-1)) ∧ Below w.heap.size w w' := by
  have h1 : SF (w.alloc (.cells #[.string key] 9)) g r := h.congr (Below.heap_alloc _ _ _ h.lt)
  have c0 : (w.alloc (.cells #[.string key] 9)).cell? ⟨g, 48, none⟩ = some (.slice none 0 0) := by rw [← hg]; exact h1.tailAt 2 rfl
  clear h h1
  go_enter Tryz.func145, Tryz.ntmps145
  go_wp2_with fail
  refine (indexFunc_nil _ _).mono ?_
  rintro e w' ⟨rfl, rfl⟩
  go_wp2
  go_ret
  exact ⟨rfl, (Below.refl _ w).alloc (Nat.le_refl _) _⟩

theorem isFullFor_nil (g : Nat) (r : SCells) (key : ByteArray) (w : World) (h : SF w g r) (hg : r.going = .slice none 0 0) (hk : 1 ≤ r.keys) :
    Calls Tryz.prog 126 #[.pointer (some ⟨g, 0, none⟩), .string key] w fun e w' => e = .returned (.bool false) ∧ ∃ m, w' = w.drewN m := by
  have c0 : w.cell? ⟨g, 48, none⟩ = some (.slice none 0 0) := by rw [← hg]; exact h.tailAt 2 rfl
  have c5 : w.cell? ⟨g, 5, none⟩ = some (.int .i64 r.keys) := h.headAt 5 rfl
  clear h
  have hd : decide (r.keys ≤ 0) = false := decide_eq_false (by omega)
  generalize r.keys = ks at *
  go_enter Tryz.func126, Tryz.ntmps126
  go_wp2_with fail
  go_quiet (fail)
  go_wp2
  go_ret
  exact ⟨rfl, nq, rfl⟩

/-- The parts of a window without a pane: at b the total, then the bounds, the tags' counts, the list of the three. -/
structure PartsNew (w : World) (b : Nat) : Prop where
  tot : w.heap[b]? = some (.cells #[.int .i64 0, .int .i64 0] 214 (0, 0))
  bnd : w.heap[b + 1]? = some (.cells #[.slice none 0 0, .slice none 0 0] 240 (0, 0))
  tag : w.heap[b + 2]? = some (.map #[] 0)
  all : w.heap[b + 3]? = some (.cells #[.iface 212 (.pointer (some ⟨b, 0, none⟩)), .iface 215 (.pointer (some ⟨b + 1, 0, none⟩)), .iface 218 (.map (some (b + 2)))] 210 (0, 0))

theorem PartsNew.congr {w w' : World} {b : Nat} (h : PartsNew w b) (hb : ∀ k, b ≤ k → k ≤ b + 3 → w'.heap[k]? = w.heap[k]?) : PartsNew w' b :=
  ⟨by rw [hb b (by omega) (by omega)]; exact h.tot, by rw [hb _ (by omega) (by omega)]; exact h.bnd, by rw [hb _ (by omega) (by omega)]; exact h.tag, by rw [hb _ (by omega) (by omega)]; exact h.all⟩

theorem four_new (w : World) (a b c d : Obj) : ((((w.alloc a).alloc b).alloc c).alloc d).heap[w.heap.size]? = some a ∧ ((((w.alloc a).alloc b).alloc c).alloc d).heap[w.heap.size + 1]? = some b ∧ ((((w.alloc a).alloc b).alloc c).alloc d).heap[w.heap.size + 2]? = some c ∧ ((((w.alloc a).alloc b).alloc c).alloc d).heap[w.heap.size + 3]? = some d := by
  have h1 := two_new w a b
  have h2 := two_new ((w.alloc a).alloc b) c d
  have e : ((w.alloc a).alloc b).heap.size = w.heap.size + 2 := by simp
  rw [e] at h2
  exact ⟨blkAlloc (blkAlloc h1.1 _) _, blkAlloc (blkAlloc h1.2 _) _, h2.1, h2.2⟩

set_option maxRecDepth 20000 in
set_option maxHeartbeats 1600000 in
theorem newParts_any (w : World) :
    Calls Tryz.prog 163 #[] w fun e w' => e = .returned (.slice (some ⟨w.heap.size + 3, 0, none⟩) 3 3) ∧ PartsNew w' w.heap.size ∧ Below w.heap.size w w' := by
  have hmm := @run_makeMap Tryz.prog
  go_enter Tryz.func163, Tryz.ntmps163
  go_wp2
  go_ret
  have hf := four_new w (.cells #[.int .i64 0, .int .i64 0] 214) (.cells #[.slice none 0 0, .slice none 0 0] 240) (.map #[] 0) (.cells #[.iface 212 (.pointer (some ⟨w.heap.size, 0, none⟩)), .iface 215 (.pointer (some ⟨w.heap.size + 1, 0, none⟩)), .iface 218 (.map (some (w.heap.size + 1 + 1)))] 210)
  exact ⟨rfl, ⟨hf.1, hf.2.1, hf.2.2.1, hf.2.2.2⟩, ((((Below.refl _ w).alloc (Nat.le_refl _) _).alloc (by simp) _).alloc (by simp; omega) _).alloc (by simp; omega) _⟩
end Go.Proofs.YtcfngdnmpogaoaaGreat

/-
  The first pane of a run.
-/
namespace Go.Proofs.YtcfngdnmpogaoaaGreat
open Go.RowKit Go.MuLone

set_option maxHeartbeats 1600000 in
theorem bsearch_nil (first last : Int) (f : Value) (w : World) :
    Calls Tryz.prog 164 #[.slice none 0 0, .agg #[.int .i64 first, .int .i64 last], f] w fun e w' => e = .returned (.tuple #[.int .i64 0, .bool false]) ∧ Below w.heap.size w w' := by
  go_enter Tryz.func164, Tryz.ntmps164
  go_wp2
  refine wp_loop_rounds 1 ?_
  rw [rounds_succ]
  go_wp2_with fail
  have hd : decide ((0 : Int) < 0) = false := by decide
  go_quiet (fail)
  go_wp2
  go_ret2
  exact ⟨rfl, below_drewN ((Below.refl _ w).alloc (Nat.le_refl _) _) nq⟩

theorem infoPP : (Tryz.prog.info? 208).map (fun i => (i.zero, i.size, i.bytes)) = some (some (.pointer none), 1, 8) := by kernel_rfl

set_option maxRecDepth 20000 in
set_option maxHeartbeats 1600000 in
theorem insert_nil (b : Nat) (x : Addr) (w : World) (hb : w.cell? ⟨b, 0, none⟩ = some (.pointer (some x))) :
    Calls Tryz.prog 167 #[.slice none 0 0, .int .i64 0, .slice (some ⟨b, 0, none⟩) 1 1] w fun e w' => ∃ v, e = .returned v ∧ Row w' 208 1 v [.pointer (some x)] ∧ (∀ k, v.ownBlock = some k → w.heap.size ≤ k) ∧ Below w.heap.size w w' := by
  obtain ⟨i, hi, hz0, hz1, hz2⟩ := info_parts infoPP
  go_enter Tryz.func167, Tryz.ntmps167
  go_wp2_with (at_builtin; go_must (refine wpList_append _ rfl _ _ _ _ rfl 208 i (.pointer none) 1 8 Tryz.underlying175 hi hz0 hz1 hz2 rfl Nat.one_pos (.slice none 0 0) [] rfl (Row.nil _ _ _) (.slice (some ⟨b, 0, none⟩) 1 1) 1 [.pointer (some x)] rfl ?hsrc Nat.one_pos ?h63 ?hby ?next))
  case hsrc => exact Src.ofSlice _ Tryz.underlying175 ⟨b, 0, none⟩ 1 1 _ rfl (fun j u hu => by cases j with | zero => (simp at hu; subst hu; exact hb) | succ j => simp at hu) (by simp [Value.oneCell'])
  case h63 => simp [maxLen]
  case hby => simp
  intro v w' ha
  have hb3 := ha.below (B := w.heap.size) (by intro g hg; simp [Value.ownBlock] at hg) (Nat.le_refl _)
  have hg3 := ha.blk (B := w.heap.size) (by intro g hg; simp [Value.ownBlock] at hg) (Nat.le_refl _)
  have hr3 := ha.row
  clear ha
  go_wp2
  go_ret
  exact ⟨v, rfl, hr3, hg3, hb3⟩
theorem insert_one (x : Addr) (w : World) :
    Calls Tryz.prog 167 #[.slice none 0 0, .int .i64 0, .slice (some ⟨w.heap.size, 0, none⟩) 1 1] (w.alloc (.cells #[.pointer (some x)] 208)) fun e w' => ∃ a c, e = .returned (.slice a 1 c) ∧ Row w' 208 1 (.slice a 1 c) [.pointer (some x)] ∧ (∀ k, (Value.slice a 1 c).ownBlock = some k → w.heap.size ≤ k) ∧ Below w.heap.size w w' := by
  refine (insert_nil w.heap.size x (w.alloc (.cells #[.pointer (some x)] 208)) (by simp)).mono ?_
  rintro e w' ⟨v, rfl, hr, hv, hb⟩
  obtain ⟨a, c, rfl, -⟩ := hr.slice
  exact ⟨a, c, rfl, hr, fun k hk => by have := hv k hk; simp at this; omega, ((Below.refl _ w).alloc (Nat.le_refl _) _).trans (hb.mono (by simp))⟩

/-- A run in memory: its cells. -/
def runCells (key : ByteArray) (pv : Value) (inside : Int) (next : Int) (qv : Value) : Array Value := #[.string key, pv, .int .i64 inside, .int .i64 next, qv]
theorem runAt {w : World} {R : Nat} {key : ByteArray} {pv qv : Value} {inside next : Int} (h : w.heap[R]? = some (.cells (runCells key pv inside next qv) 178 (0, 0))) :
    w.cell? ⟨R, 0, none⟩ = some (.string key) ∧ w.cell? ⟨R, 1, none⟩ = some pv ∧ w.cell? ⟨R, 2, none⟩ = some (.int .i64 inside) ∧ w.cell? ⟨R, 3, none⟩ = some (.int .i64 next) ∧ w.cell? ⟨R, 4, none⟩ = some qv ∧ (∀ j, w.frozen? ⟨R, j, none⟩ = false) :=
  ⟨blkCell h rfl, blkCell h rfl, blkCell h rfl, blkCell h rfl, blkCell h rfl, blkFrozen h⟩

set_option maxRecDepth 20000 in
set_option maxHeartbeats 6400000 in
theorem paneOf_new (R : Nat) (key : ByteArray) (qv : Value) (first last : Int) (w : World) (hR : w.heap[R]? = some (.cells (runCells key (.slice none 0 0) 0 0 qv) 178 (0, 0))) :
    Calls Tryz.prog 147 #[.pointer (some ⟨R, 0, none⟩), .agg #[.int .i64 first, .int .i64 last]] w fun e w' => ∃ P M pv, e = .returned (.pointer (some ⟨P, 0, none⟩)) ∧ w.heap.size ≤ P ∧ w.heap.size ≤ M ∧ P ≠ M ∧
      w'.heap[P]? = some (.cells (paneCells first last 0 0 9223372036854775807 (-9223372036854775808) M) 207 (0, 0)) ∧ w'.heap[M]? = some (.map #[] 0) ∧
      w'.heap[R]? = some (.cells (runCells key pv 0 0 qv) 178 (0, 0)) ∧ Row w' 208 1 pv [.pointer (some ⟨P, 0, none⟩)] ∧ (∀ k, pv.ownBlock = some k → w.heap.size ≤ k) ∧ Kept (fun k => k = R) w w' := by
  have hRs := blkLt hR
  have hR1 := blkAlloc hR (.cells #[.int .i64 first, .int .i64 last] 202)
  have hx1 := heap_alloc_new w (.cells #[.int .i64 first, .int .i64 last] 202)
  have K1 : Hid (Kept (fun k => k = R) w (w.alloc (.cells #[.int .i64 first, .int .i64 last] 202))) := (Kept.refl _ w).alloc _
  go_enter Tryz.func147, Tryz.ntmps147
  go_upto_region 1 with fail
  have hRB : ¬ R = w.heap.size := by omega
  have hsz1 : w.heap.size < (w.alloc (.cells #[.int .i64 first, .int .i64 last] 202)).heap.size := by simp
  generalize hBB : w.heap.size = B at *
  generalize w.alloc (.cells #[.int .i64 first, .int .i64 last] 202) = W1 at *
  go_cut [5, 6] from 7 to 15 (fun s5 s6 wx => s5 = .int .i64 0 ∧ s6 = .bool false ∧ wx.heap[R]? = some (.cells (runCells key (.slice none 0 0) 0 0 qv) 178 (0, 0)) ∧ wx.heap[B]? = some (.cells #[.int .i64 first, .int .i64 last] 202 (0, 0)) ∧ Kept (fun k => k = R) w wx)
  case first =>
    obtain ⟨-, r1, -, -, -, fz⟩ := runAt hR1
    obtain ⟨x0, x1, -, -⟩ := cells2At hx1
    have HR1 : Hid (W1.heap[R]? = some (.cells (runCells key (.slice none 0 0) 0 0 qv) 178 (0, 0))) := hR1
    have HX1 : Hid (W1.heap[B]? = some (.cells #[.int .i64 first, .int .i64 last] 202 (0, 0))) := hx1
    have hRs1 := blkLt hR1
    clear hR1 hx1
    go_region_with (go_at_call 164; refine (bsearch_nil _ _ _ _).mono ?_; rintro e w' ⟨rfl, hb⟩)
    all_goals
      go_wp2
      go_meet
      refine ⟨rfl, rfl, ?_, ?_, K1.out.trans (Kept.step (Kept.drew (Kept.refl _ W1)) (Kept.ofBelow hb (fun _ => False)) (fun _ _ h => h.elim))⟩
      · rw [hb.block R (by simpa using hRs1)]; exact HR1.out
      · rw [hb.block B (by simpa using hsz1)]; exact HX1.out
  case rest =>
    obtain ⟨rfl, rfl, hR2, hx2, k2⟩ := hcut
    have K2 : Hid (Kept (fun k => k = R) w wc) := k2
    clear hR1 hx1 k2
    go_upto_region 3 with fail
    go_cut [27] from 18 to 29 (fun _ wx => ∃ P M pv, B ≤ P ∧ B ≤ M ∧ P ≠ M ∧ wx.heap[P]? = some (.cells (paneCells first last 0 0 9223372036854775807 (-9223372036854775808) M) 207 (0, 0)) ∧ wx.heap[M]? = some (.map #[] 0) ∧
      wx.heap[R]? = some (.cells (runCells key pv 0 0 qv) 178 (0, 0)) ∧ Row wx 208 1 pv [.pointer (some ⟨P, 0, none⟩)] ∧ (∀ k, pv.ownBlock = some k → B ≤ k) ∧ Kept (fun k => k = R) w wx)
    case first =>
      obtain ⟨-, r1, -, -, -, fz⟩ := runAt hR2
      obtain ⟨x0, x1, -, -⟩ := cells2At hx2
      have HR2 : Hid (wc.heap[R]? = some (.cells (runCells key (.slice none 0 0) 0 0 qv) 178 (0, 0))) := hR2
      have hRs2 := blkLt hR2
      have hBs2 := blkLt hx2
      clear hR2 hx2
      go_region_with (first
        | (go_at_call 168; refine (newPane_any _ _ _).mono ?_; rintro e w1 ⟨P, M, rfl, hP, hM, hPM, hpc, hmc, hb1⟩; have q1 : w1.cell? ⟨R, 1, none⟩ = some (.slice none 0 0) := (hb1.cell (by simpa using hRs2)).trans (by simp [*]); have qf : ∀ j, w1.frozen? ⟨R, j, none⟩ = false := fun j => ((bcell hb1).2 R j (by simpa using hRs2)).trans (by simp [*]); have hRs3 : R < w1.heap.size := Nat.lt_of_lt_of_le (by simpa using hRs2) hb1.size)
        | (go_at_call 167; refine (insert_one _ _).mono ?_; rintro e w2 ⟨va, vc, rfl, hrow, hv, hb2⟩; have s1 : w2.cell? ⟨R, 1, none⟩ = some (.slice none 0 0) := (hb2.cell hRs3).trans (by simp [*]); have sf : ∀ j, w2.frozen? ⟨R, j, none⟩ = false := fun j => ((bcell hb2).2 R j hRs3).trans (by simp [*])))
      all_goals
        go_wp2
        go_meet
        have hP' : wc.heap.size ≤ P := by simpa using hP
        have hM' : wc.heap.size ≤ M := by simpa using hM
        have hR3 : w2.heap[R]? = some (.cells (runCells key (.slice none 0 0) 0 0 qv) 178 (0, 0)) := by
          rw [hb2.block R hRs3, hb1.block R (by simpa using hRs2)]; exact HR2.out
        refine ⟨P, M, .slice va 1 vc, by omega, by omega, hPM, blkOther (blkBelow hpc hb2) R 1 _ (by omega), blkOther (blkBelow hmc hb2) R 1 _ (by omega), blkPut hR3 1 _, hrow.setCell ⟨R, 1, none⟩ _ (fun e => ?_), fun k hk => ?_, ?_⟩
        · have := hv R e; omega
        · have := hv k hk; have := hb1.size; have : wc.heap.size ≤ w1.heap.size := by simpa using this
          omega
        · refine Kept.setCell ?_ ⟨R, _, none⟩ _ (fun _ => rfl)
          exact (K2.out.trans (Kept.step (Kept.drew (Kept.refl _ wc)) (Kept.ofBelow hb1 (fun _ => False)) (fun _ _ h => h.elim))).trans (Kept.ofBelow hb2 _)
    case rest =>
      obtain ⟨P, M, pv, h1, h2, h3, h4, h5, h6, h7, h8, h9⟩ := hcut
      have HH : Hid (B ≤ P ∧ B ≤ M ∧ P ≠ M ∧ wc.heap[P]? = some (.cells (paneCells first last 0 0 9223372036854775807 (-9223372036854775808) M) 207 (0, 0)) ∧ wc.heap[M]? = some (.map #[] 0) ∧
        wc.heap[R]? = some (.cells (runCells key pv 0 0 qv) 178 (0, 0)) ∧ Row wc 208 1 pv [.pointer (some ⟨P, 0, none⟩)] ∧ (∀ k, pv.ownBlock = some k → B ≤ k) ∧ Kept (fun k => k = R) w wc) := ⟨h1, h2, h3, h4, h5, h6, h7, h8, h9⟩
      obtain ⟨-, r1, -, -, -, -⟩ := runAt h6
      obtain ⟨pg, po, pn, pc, hpv, hpn, -⟩ := h7.shape (by simp)
      subst hpv
      have hpn1 : pn = 1 := by simpa using hpn.symm
      subst hpn1
      have p0 : wc.cell? ⟨pg, po, none⟩ = some (.pointer (some ⟨P, 0, none⟩)) := by have := h7.cell 0 (by omega); simpa using this
      clear h1 h2 h3 h4 h5 h6 h7 h8 h9 hR2 hx2 hpn
      go_wp2
      go_ret
      obtain ⟨h1, h2, h3, h4, h5, h6, h7, h8, h9⟩ := HH.out
      rw [← hBB] at h1 h2 h8
      exact ⟨P, M, _, rfl, h1, h2, h3, h4, h5, h6, h7, h8, h9⟩
end Go.Proofs.YtcfngdnmpogaoaaGreat
