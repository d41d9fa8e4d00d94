import Derived.Test.YtcfngdnmpogaoaaGreatLinesUptoT08

/-
  Counts.
-/
namespace Go.Proofs.YtcfngdnmpogaoaaGreat
open Go.RowKit Go.MuLone

def countsV (c : RCounts) : Value := .agg #[.int .i64 c.taken, .int .i64 c.late, .int .i64 c.range, .int .i64 c.full, .int .i64 c.marks, .int .i64 c.broken]

theorem cells6Put {w : World} {g : Nat} {x0 x1 x2 x3 x4 x5 y0 y1 y2 y3 y4 y5 : Value} {t : TypeId} (h : w.heap[g]? = some (.cells #[x0, x1, x2, x3, x4, x5] t (0, 0))) :
    ((((((w.setCell ⟨g, 0, none⟩ y0).setCell ⟨g, 1, none⟩ y1).setCell ⟨g, 2, none⟩ y2).setCell ⟨g, 3, none⟩ y3).setCell ⟨g, 4, none⟩ y4).setCell ⟨g, 5, none⟩ y5).heap[g]? = some (.cells #[y0, y1, y2, y3, y4, y5] t (0, 0)) := by
  simp [World.setCell, Array.getElem?_modify, h]

theorem cells6At {w : World} {g : Nat} {x0 x1 x2 x3 x4 x5 : Value} {t : TypeId} (h : w.heap[g]? = some (.cells #[x0, x1, x2, x3, x4, x5] t (0, 0))) :
    w.cell? ⟨g, 0, none⟩ = some x0 ∧ w.cell? ⟨g, 1, none⟩ = some x1 ∧ w.cell? ⟨g, 2, none⟩ = some x2 ∧ w.cell? ⟨g, 3, none⟩ = some x3 ∧ w.cell? ⟨g, 4, none⟩ = some x4 ∧ w.cell? ⟨g, 5, none⟩ = some x5 ∧ (∀ j, w.frozen? ⟨g, j, none⟩ = false) := by
  refine ⟨by simp [World.cell?, h], by simp [World.cell?, h], by simp [World.cell?, h], by simp [World.cell?, h], by simp [World.cell?, h], by simp [World.cell?, h], fun j => by simp [World.frozen?, h]⟩

set_option maxRecDepth 20000 in
set_option maxHeartbeats 3200000 in
theorem told_any (g : Nat) (r : SCells) (w : World) (h : SF w g r) :
    Calls Tryz.prog 48 #[.pointer (some ⟨g, 50, none⟩)] w fun e w' => e = .returned (countsV r.n) ∧ Below w.heap.size w w' := by
  have hglt := h.lt
  have H : Hid (SF w g r) := h
  clear h
  go_enter Tryz.func48, Tryz.ntmps48
  go_wp2_with fail
  refine wp_region_still_tail 24 (by kernel_rfl) (by kernel_rfl) ?_
  simp only [List.take_succ_cons, List.take_zero, List.drop_succ_cons, List.drop_zero]
  have hbox := heap_alloc_new w (.cells #[.int .i64 0, .int .i64 0, .int .i64 0, .int .i64 0, .int .i64 0, .int .i64 0] 58)
  have H1 : Hid (SF (w.alloc (.cells #[.int .i64 0, .int .i64 0, .int .i64 0, .int .i64 0, .int .i64 0, .int .i64 0] 58)) g r) := H.out.congr (Below.heap_alloc _ _ _ hglt)
  have HB : Hid (Below w.heap.size w (w.alloc (.cells #[.int .i64 0, .int .i64 0, .int .i64 0, .int .i64 0, .int .i64 0, .int .i64 0] 58))) := (Below.refl _ w).alloc (Nat.le_refl _) _
  generalize w.alloc (.cells #[.int .i64 0, .int .i64 0, .int .i64 0, .int .i64 0, .int .i64 0, .int .i64 0] 58) = W1 at *
  change wpStill Tryz.prog _ W1.drew (fun a' => wpList Tryz.prog _ _ _ a' W1.drew) _ _
  have hbox : W1.drew.heap[w.heap.size]? = some (.cells #[.int .i64 0, .int .i64 0, .int .i64 0, .int .i64 0, .int .i64 0, .int .i64 0] 58 (0, 0)) := hbox
  have H2 : Hid (SF W1.drew g r) := H1.out.congr rfl
  have HB2 : Hid (Below w.heap.size w W1.drew) := HB.out.drew
  generalize W1.drew = W2 at *
  obtain ⟨b0, b1, b2, b3, b4, b5, bf⟩ := cells6At hbox
  have q0 := load_any g 50 r.n.taken W2 (H2.out.tailAt 4 rfl)
  have q1 := load_any g 51 r.n.late W2 (H2.out.tailAt 5 rfl)
  have q2 := load_any g 52 r.n.range W2 (H2.out.tailAt 6 rfl)
  have q3 := load_any g 53 r.n.full W2 (H2.out.tailAt 7 rfl)
  have q4 := load_any g 54 r.n.marks W2 (H2.out.tailAt 8 rfl)
  have q5 := load_any g 55 r.n.broken W2 (H2.out.tailAt 9 rfl)
  repeat still_step
  still_call q0
  repeat still_step
  still_call q1
  repeat still_step
  still_call q2
  repeat still_step
  still_call q3
  repeat still_step
  still_call q4
  repeat still_step
  still_call q5
  repeat still_step
  refine wpStill_nil ?_
  clear q0 q1 q2 q3 q4 q5
  go_wp2
  have hW := cells6Put (y0 := .int .i64 r.n.taken) (y1 := .int .i64 r.n.late) (y2 := .int .i64 r.n.range) (y3 := .int .i64 r.n.full) (y4 := .int .i64 r.n.marks) (y5 := .int .i64 r.n.broken) hbox
  have hB := (((((HB2.out.setCell (p := ⟨w.heap.size, 0, none⟩) (Nat.le_refl _) (.int .i64 r.n.taken)).setCell (p := ⟨w.heap.size, 1, none⟩) (Nat.le_refl _) (.int .i64 r.n.late)).setCell (p := ⟨w.heap.size, 2, none⟩) (Nat.le_refl _) (.int .i64 r.n.range)).setCell (p := ⟨w.heap.size, 3, none⟩) (Nat.le_refl _) (.int .i64 r.n.full)).setCell (p := ⟨w.heap.size, 4, none⟩) (Nat.le_refl _) (.int .i64 r.n.marks)).setCell (p := ⟨w.heap.size, 5, none⟩) (Nat.le_refl _) (.int .i64 r.n.broken)
  clear b0 b1 b2 b3 b4 b5 bf
  generalize (((((W2.setCell ⟨w.heap.size, 0, none⟩ (.int .i64 r.n.taken)).setCell ⟨w.heap.size, 1, none⟩ (.int .i64 r.n.late)).setCell ⟨w.heap.size, 2, none⟩ (.int .i64 r.n.range)).setCell ⟨w.heap.size, 3, none⟩ (.int .i64 r.n.full)).setCell ⟨w.heap.size, 4, none⟩ (.int .i64 r.n.marks)).setCell ⟨w.heap.size, 5, none⟩ (.int .i64 r.n.broken) = W at *
  obtain ⟨b0, b1, b2, b3, b4, b5, bf⟩ := cells6At hW
  exact bodyPost_ret (v := countsV r.n) (by simp [results, Tryz.results48, go_sem, b0, b1, b2, b3, b4, b5, countsV]) rfl ⟨rfl, hB⟩

set_option maxRecDepth 20000 in
set_option maxHeartbeats 3200000 in
theorem counts_any (g : Nat) (r : SCells) (w : World) (h : SF w g r) (hlk : r.lk = 0) :
    Calls Tryz.prog 27 #[.pointer (some ⟨g, 0, none⟩)] w fun e w' => e = .returned (countsV r.n) ∧ SF w' g r ∧ Kept (fun k => k = g) w w' := by
  have hglt := h.lt
  have hbox := heap_alloc_new w (.cells #[.int .i64 0, .int .i64 0, .int .i64 0, .int .i64 0, .int .i64 0, .int .i64 0] 58)
  have H0 : Hid (SF (w.alloc (.cells #[.int .i64 0, .int .i64 0, .int .i64 0, .int .i64 0, .int .i64 0, .int .i64 0] 58)) g r) := h.congr (Below.heap_alloc _ _ _ hglt)
  have K0 : Hid (Kept (fun k => k = g) w (w.alloc (.cells #[.int .i64 0, .int .i64 0, .int .i64 0, .int .i64 0, .int .i64 0, .int .i64 0] 58))) := (Kept.refl _ w).alloc _
  clear h
  go_enter_defers Tryz.func27, Tryz.ntmps27
  go_wp2_with fail
  have hsz : w.heap.size < (w.alloc (.cells #[.int .i64 0, .int .i64 0, .int .i64 0, .int .i64 0, .int .i64 0, .int .i64 0] 58)).heap.size := by simp
  generalize w.alloc (.cells #[.int .i64 0, .int .i64 0, .int .i64 0, .int .i64 0, .int .i64 0, .int .i64 0] 58) = W0 at *
  refine (lock_free muLib ⟨g, 0, none⟩ _ (H0.out.lockAt hlk) (H0.out.frozen _)).mono ?_
  rintro e w' ⟨rfl, rfl⟩
  have H1 : Hid (SF (W0.setCell ⟨g, 0, none⟩ (.int .i32 1)) g (r.lock 1)) := H0.out.putLock 1
  have K1 : Hid (Kept (fun k => k = g) w (W0.setCell ⟨g, 0, none⟩ (.int .i32 1))) := K0.out.setCell ⟨g, 0, none⟩ _ (fun _ => rfl)
  have hbox1 : (W0.setCell ⟨g, 0, none⟩ (.int .i32 1)).heap[w.heap.size]? = some (.cells #[.int .i64 0, .int .i64 0, .int .i64 0, .int .i64 0, .int .i64 0, .int .i64 0] 58 (0, 0)) := by
    rw [heap_setCell_other _ _ _ _ (by simp; omega)]; exact hbox
  have hsz1 : w.heap.size < (W0.setCell ⟨g, 0, none⟩ (.int .i32 1)).heap.size := by simpa [World.setCell] using hsz
  generalize W0.setCell ⟨g, 0, none⟩ (.int .i32 1) = W1 at *
  go_wp2_with fail
  refine (told_any g (r.lock 1) W1 H1.out).mono ?_
  rintro e W2 ⟨rfl, hb⟩
  have H2 : Hid (SF W2 g (r.lock 1)) := H1.out.below hb H1.out.lt
  have K2 : Hid (Kept (fun k => k = g) w W2) := K1.out.trans (Kept.ofBelow hb _)
  have hbox2 : W2.heap[w.heap.size]? = some (.cells #[.int .i64 0, .int .i64 0, .int .i64 0, .int .i64 0, .int .i64 0, .int .i64 0] 58 (0, 0)) := by rw [hb.block _ hsz1]; exact hbox1
  obtain ⟨b0, b1, b2, b3, b4, b5, bf⟩ := cells6At hbox2
  clear hb
  have HV : Hid (countsV r.n = .agg #[.int .i64 r.n.taken, .int .i64 r.n.late, .int .i64 r.n.range, .int .i64 r.n.full, .int .i64 r.n.marks, .int .i64 r.n.broken]) := rfl
  have e0 : (r.lock 1).n = r.n := rfl
  rw [e0]
  clear e0
  rw [HV.out]
  go_wp2_with fail
  have hW := cells6Put (y0 := .int .i64 r.n.taken) (y1 := .int .i64 r.n.late) (y2 := .int .i64 r.n.range) (y3 := .int .i64 r.n.full) (y4 := .int .i64 r.n.marks) (y5 := .int .i64 r.n.broken) hbox2
  have hgB : g ≠ w.heap.size := by omega
  have H3 : Hid (SF ((((((W2.setCell ⟨w.heap.size, 0, none⟩ (.int .i64 r.n.taken)).setCell ⟨w.heap.size, 1, none⟩ (.int .i64 r.n.late)).setCell ⟨w.heap.size, 2, none⟩ (.int .i64 r.n.range)).setCell ⟨w.heap.size, 3, none⟩ (.int .i64 r.n.full)).setCell ⟨w.heap.size, 4, none⟩ (.int .i64 r.n.marks)).setCell ⟨w.heap.size, 5, none⟩ (.int .i64 r.n.broken)) g (r.lock 1)) := by
    refine H2.out.congr ?_
    rw [heap_setCell_other _ _ _ _ hgB, heap_setCell_other _ _ _ _ hgB, heap_setCell_other _ _ _ _ hgB, heap_setCell_other _ _ _ _ hgB, heap_setCell_other _ _ _ _ hgB, heap_setCell_other _ _ _ _ hgB]
  have K3 : Hid (Kept (fun k => k = g) w ((((((W2.setCell ⟨w.heap.size, 0, none⟩ (.int .i64 r.n.taken)).setCell ⟨w.heap.size, 1, none⟩ (.int .i64 r.n.late)).setCell ⟨w.heap.size, 2, none⟩ (.int .i64 r.n.range)).setCell ⟨w.heap.size, 3, none⟩ (.int .i64 r.n.full)).setCell ⟨w.heap.size, 4, none⟩ (.int .i64 r.n.marks)).setCell ⟨w.heap.size, 5, none⟩ (.int .i64 r.n.broken))) := by
    refine Kept.setCell ?_ ⟨w.heap.size, _, none⟩ _ (fun h => absurd h (Nat.lt_irrefl _))
    refine Kept.setCell ?_ ⟨w.heap.size, _, none⟩ _ (fun h => absurd h (Nat.lt_irrefl _))
    refine Kept.setCell ?_ ⟨w.heap.size, _, none⟩ _ (fun h => absurd h (Nat.lt_irrefl _))
    refine Kept.setCell ?_ ⟨w.heap.size, _, none⟩ _ (fun h => absurd h (Nat.lt_irrefl _))
    refine Kept.setCell ?_ ⟨w.heap.size, _, none⟩ _ (fun h => absurd h (Nat.lt_irrefl _))
    refine Kept.setCell ?_ ⟨w.heap.size, _, none⟩ _ (fun h => absurd h (Nat.lt_irrefl _))
    exact K2.out
  clear b0 b1 b2 b3 b4 b5 bf
  generalize (((((W2.setCell ⟨w.heap.size, 0, none⟩ (.int .i64 r.n.taken)).setCell ⟨w.heap.size, 1, none⟩ (.int .i64 r.n.late)).setCell ⟨w.heap.size, 2, none⟩ (.int .i64 r.n.range)).setCell ⟨w.heap.size, 3, none⟩ (.int .i64 r.n.full)).setCell ⟨w.heap.size, 4, none⟩ (.int .i64 r.n.marks)).setCell ⟨w.heap.size, 5, none⟩ (.int .i64 r.n.broken) = W at *
  refine leaves_cons (f := 43) (args := #[.pointer (some ⟨g, 0, none⟩)]) (by simp) (by simp [go_sem]) ?_
  refine (unlock_deferred muLib ⟨g, 0, none⟩ .returning _ (H3.out.lockAt rfl) (H3.out.frozen _)).mono ?_
  rintro e u' w'' ⟨rfl, rfl, rfl⟩
  have hW' : (W.setCell ⟨g, 0, none⟩ (.int .i32 0)).heap[w.heap.size]? = some (.cells #[.int .i64 r.n.taken, .int .i64 r.n.late, .int .i64 r.n.range, .int .i64 r.n.full, .int .i64 r.n.marks, .int .i64 r.n.broken] 58 (0, 0)) := by
    rw [heap_setCell_other _ _ _ _ (fun e => hgB e.symm)]; exact hW
  have H4 := H3.out.putLock 0
  have K4 := K3.out.setCell ⟨g, 0, none⟩ (.int .i32 0) (fun _ => rfl)
  have e : (SCells.lock (r.lock 1) 0) = r := by cases r; simp only at hlk; subst hlk; rfl
  rw [e] at H4
  generalize W.setCell ⟨g, 0, none⟩ (.int .i32 0) = W' at *
  obtain ⟨b0, b1, b2, b3, b4, b5, bf⟩ := cells6At hW'
  exact ⟨countsV r.n, by simp [results, Tryz.results27, go_sem, b0, b1, b2, b3, b4, b5, countsV], rfl, H4, K4⟩
end Go.Proofs.YtcfngdnmpogaoaaGreat

/-
  Feeds of marks alone, of fewer bytes than an item has, of what is no item; Close: where no key is going on.
-/
namespace Go.Proofs.YtcfngdnmpogaoaaGreat
open Go.RowKit Go.MuLone

theorem frame_long {kind : Int} {key : ByteArray} {time value : Int} {tag : Nat} (h : isItemB kind key value tag = true) (ht : tag < 4294967296)
    (t1 : -9223372036854775808 ≤ time) (t2 : time < 9223372036854775808) (v1 : -9223372036854775808 ≤ value) (v2 : value < 9223372036854775808) (more : List UInt8) :
    unfShort (frameBytes kind key time value tag ++ more) = false ∧ unfOk (frameBytes kind key time value tag ++ more) = true := by
  refine ⟨?_, ?_⟩
  · unfold unfShort
    rw [frame_head h, List.length_append, frame_len h]
    simp
  · unfold unfOk
    rw [frame_crc h, frame_body h, (frame_item (time := time) (value := value) h ht t1 t2 v1 v2).1]; rfl

theorem setSrc_self (r : SCells) (n : Nat) (s : SSrc) (hs : r.src[n]? = some s) : r.setSrc n s = r := by
  have hn : n < r.src.length := (List.getElem?_eq_some_iff.1 hs).1
  have : r.src.set n s = r.src := List.ext_getElem? (fun i => by
    rw [List.getElem?_set]
    split
    · rename_i h; subst h
      exact hs.symm
    · rfl)
  rw [SCells.setSrc, this]

theorem Kept.bytes8 {w w' : World} {g : Nat} {r : SCells} (h : Kept (fun k => k = g) w w') (hf : SF w g r) : Bytes8 w w' := fun k c f hk => by
  rw [h.block k (Array.getElem?_eq_some_iff.1 hk).1 (fun e => ?_)]
  · exact hk
  · subst e
    rw [hf.blk] at hk
    simp only [Option.some.injEq, Obj.cells.injEq] at hk
    exact absurd hk.2.1 (by decide)

abbrev markB (t : Int) : List UInt8 := frameBytes 2 ⟨#[]⟩ t 0 0
theorem item_mark2 : isItemB 2 ⟨#[]⟩ 0 ((0 : Nat) : Int) = true := by
  unfold isItemB
  rw [show (⟨#[]⟩ : ByteArray).toList = [] from by rw [ByteArray.toList_eq]]
  rfl

/-- What a mark leaves. -/
def SCells.marked (r : SCells) (n : Nat) (s : SSrc) (t : Int) : SCells := (r.addMark.setSrc n (s.raised (clampT t))).moved

theorem SCells.moved_lock (r : SCells) (k : Int) : (r.lock k).moved = (r.moved).lock k := by
  unfold SCells.moved
  have e : (r.lock k).src = r.src := rfl
  rw [e]
  (repeat' split) <;> first | rfl | (rename_i h1 h2; exact absurd h1 h2) | (rename_i h1 h2; exact absurd h2 h1)

theorem feed_mark (g n : Nat) (r : SCells) (s : SSrc) (t : Int) (bv : Value) (w : World) (h : SF w g r) (hlk : r.lk = 0) (hg : r.going = .slice none 0 0) (hf : r.Fits) (hs : r.src[n]? = some s) (ho : s.opened = true) (hb : s.broken = false) (hu : s.unread = .slice none 0 0)
    (t1 : -9223372036854775808 ≤ t) (t2 : t < 9223372036854775808) (hrow : Row w 5 1 bv ((markB t).map byteV)) :
    Calls Tryz.prog 20 #[.pointer (some ⟨g, 0, none⟩), .int .i64 n, bv] w fun e w' => e = .returned (.int .i64 0) ∧ SF w' g (r.marked n s t) ∧ Kept (fun k => k = g) w w' := by
  obtain ⟨hl1, hl2⟩ := frame_long (kind := 2) (key := ⟨#[]⟩) (time := t) (value := 0) (tag := 0) item_mark2 (by decide) t1 t2 (by decide) (by decide) []
  rw [List.append_nil] at hl1 hl2
  obtain ⟨hv, -, -⟩ := unf_frame (kind := 2) (key := ⟨#[]⟩) (time := t) (value := 0) (tag := 0) item_mark2 (by decide) t1 t2 (by decide) (by decide) []
  rw [List.append_nil] at hv
  have hd : (markB t).drop (((markB t).getD 0 0).toNat + 3) = [] := by
    have h1 := frame_head (time := t) item_mark2 []
    rw [List.append_nil] at h1
    have h2 := frame_len (time := t) item_mark2
    rw [List.drop_of_length_le]
    show (frameBytes 2 ⟨#[]⟩ t 0 0).length ≤ ((frameBytes 2 ⟨#[]⟩ t 0 0).getD 0 0).toNat + 3
    rw [h1, h2]
    exact Nat.le_refl _
  have hlen : (markB t).length ≤ 33 := by
    have h2 := frame_len (time := t) item_mark2
    have h3 := itemBody_len (time := t) item_mark2
    show (frameBytes 2 ⟨#[]⟩ t 0 0).length ≤ 33
    omega
  have hn : n < r.src.length := (List.getElem?_eq_some_iff.1 hs).1
  have hsm : ((r.lock 1).marked n s t).src[n]? = some (s.raised (clampT t)) := by
    unfold SCells.marked
    rw [SCells.moved_src]
    exact SCells.setSrc_at _ _ _ hn
  have hru : (s.raised (clampT t)).unread = .slice none 0 0 := by unfold SSrc.raised; split <;> exact hu
  refine (feed_of g n r s bv w h hlk hs ho (fun W => SF W g ((r.lock 1).marked n s t) ∧ Kept (fun k => k = g) w W) (fun W hW => ⟨hW.1.lockAt (by unfold SCells.marked; rw [SCells.moved_lk]; rfl), hW.1.frozen _⟩) (fun W1 h1 k1 => ?_)).mono ?_
  · refine read_of g (6 + n * 5) (.slice none 0 0) bv [] (markB t) W1 _ (fun W L => Kept (fun k => k = g) w W ∧ ((L = markB t ∧ SF W g (r.lock 1)) ∨ (L = [] ∧ SF W g ((r.lock 1).marked n s t))))
      (h1.cell (by rw [← hb]; exact (r.lock 1).srcAt n 1 s hs (by omega))) (h1.cell (by rw [← hu]; exact (r.lock 1).srcAt n 2 s hs (by omega))) (Row.nil _ _ _) (hrow.bytes8 (k1.bytes8 h)) (by simp; omega)
      ⟨k1, .inl ⟨by simp, h1⟩⟩ ?_ ?_ ?_ ?_
    · rintro W W' L ⟨hk, hc⟩ hbl
      refine ⟨hk.trans (Kept.ofBelow hbl _), ?_⟩
      rcases hc with ⟨e, hsf⟩ | ⟨e, hsf⟩
      · exact .inl ⟨e, hsf.below hbl hsf.lt⟩
      · exact .inr ⟨e, hsf.below hbl hsf.lt⟩
    · rintro W L ⟨hk, hc⟩ hsh hok _
      rcases hc with ⟨rfl, hsf⟩ | ⟨rfl, hsf⟩
      · rw [hv]
        refine (do_mark g n (r.lock 1) s ⟨#[]⟩ t 0 ((0 : Nat) : Int) W hsf hs hg ⟨hf.src, hf.late⟩).mono ?_
        rintro e W' ⟨rfl, h2, k2⟩
        exact ⟨rfl, ⟨hk.trans k2, .inr ⟨hd, h2⟩⟩, k2.bytes8 hsf⟩
      · simp [unfShort] at hsh
    · rintro W L ⟨hk, hc⟩ hsh hok
      rcases hc with ⟨rfl, hsf⟩ | ⟨rfl, hsf⟩
      · rw [hl2] at hok; cases hok
      · simp [unfShort] at hsh
    · rintro W L v ⟨hk, hc⟩ hsh hr hnil
      rcases hc with ⟨rfl, hsf⟩ | ⟨rfl, hsf⟩
      · rw [hl1] at hsh; cases hsh
      · obtain rfl := hnil rfl
        refine ⟨⟨_, hsf.cell ((SCells.srcAt _ n 2 _ hsm (by omega)))⟩, hsf.frozen _, ?_, hk.setCell ⟨g, _, none⟩ _ (fun _ => rfl)⟩
        have := hsf.putSrc n 2 _ (s.raised (clampT t)) (.slice none 0 0) hsm (by omega) (by rw [← hru]; rfl)
        rw [setSrc_self _ _ _ hsm] at this
        exact this
  · rintro e w' ⟨rfl, W, ⟨h1, h2⟩, rfl⟩
    refine ⟨rfl, ?_, h2.setCell ⟨g, _, none⟩ _ (fun _ => rfl)⟩
    have := h1.putLock 0
    have e : SCells.lock ((r.lock 1).marked n s t) 0 = r.marked n s t := by
      cases r; simp only at hlk; subst hlk
      unfold SCells.marked
      rw [← SCells.moved_lock]; rfl
    rw [e] at this; exact this

theorem feed_few (g n : Nat) (r : SCells) (s : SSrc) (l : List UInt8) (bv : Value) (w : World) (h : SF w g r) (hlk : r.lk = 0) (hs : r.src[n]? = some s) (ho : s.opened = true) (hb : s.broken = false) (hu : s.unread = .slice none 0 0)
    (hl : unfShort l = true) (hll : l.length ≤ 1000) (hrow : Row w 5 1 bv (l.map byteV)) :
    Calls Tryz.prog 20 #[.pointer (some ⟨g, 0, none⟩), .int .i64 n, bv] w fun e w' => e = .returned (.int .i64 0) ∧ (∃ v, SF w' g (r.setSrc n ⟨s.opened, s.broken, v, s.time, s.is⟩)) ∧ Kept (fun k => k = g) w w' := by
  refine (feed_of g n r s bv w h hlk hs ho (fun W => (∃ v, SF W g ((r.lock 1).setSrc n ⟨s.opened, s.broken, v, s.time, s.is⟩)) ∧ Kept (fun k => k = g) w W) (fun W hW => ?_) (fun W1 h1 k1 => ?_)).mono ?_
  · obtain ⟨⟨v, hv⟩, _⟩ := hW
    exact ⟨hv.lockAt rfl, hv.frozen _⟩
  · refine read_of g (6 + n * 5) (.slice none 0 0) bv [] l W1 _ (fun W L => Kept (fun k => k = g) w W ∧ L = l ∧ SF W g (r.lock 1))
      (h1.cell (by rw [← hb]; exact (r.lock 1).srcAt n 1 s hs (by omega))) (h1.cell (by rw [← hu]; exact (r.lock 1).srcAt n 2 s hs (by omega))) (Row.nil _ _ _) (hrow.bytes8 (k1.bytes8 h)) (by simp; omega)
      ⟨k1, by simp, h1⟩ ?_ ?_ ?_ ?_
    · rintro W W' L ⟨hk, e, hsf⟩ hbl
      exact ⟨hk.trans (Kept.ofBelow hbl _), e, hsf.below hbl hsf.lt⟩
    · rintro W L ⟨hk, rfl, hsf⟩ hsh
      rw [hl] at hsh; cases hsh
    · rintro W L ⟨hk, rfl, hsf⟩ hsh
      rw [hl] at hsh; cases hsh
    · rintro W L v ⟨hk, rfl, hsf⟩ hsh hr hnil
      refine ⟨⟨_, hsf.cell (SCells.srcAt _ n 2 s hs (by omega))⟩, hsf.frozen _, ⟨v, ?_⟩, hk.setCell ⟨g, _, none⟩ _ (fun _ => rfl)⟩
      exact hsf.putSrc n 2 s _ v hs (by omega) rfl
  · rintro e w' ⟨rfl, W, ⟨⟨v, h1⟩, h2⟩, rfl⟩
    refine ⟨rfl, ⟨v, ?_⟩, h2.setCell ⟨g, _, none⟩ _ (fun _ => rfl)⟩
    have := h1.putLock 0
    have e : SCells.lock ((r.lock 1).setSrc n ⟨s.opened, s.broken, v, s.time, s.is⟩) 0 = r.setSrc n ⟨s.opened, s.broken, v, s.time, s.is⟩ := by
      cases r; simp only at hlk; subst hlk; rfl
    rw [e] at this; exact this

def SSrc.gone : SSrc := ⟨true, true, .slice none 0 0, 0, false⟩

theorem feed_bad (g n : Nat) (r : SCells) (s : SSrc) (l : List UInt8) (bv : Value) (w : World) (h : SF w g r) (hlk : r.lk = 0) (hg : r.going = .slice none 0 0) (hf : r.Fits) (hs : r.src[n]? = some s) (ho : s.opened = true) (hb : s.broken = false) (hu : s.unread = .slice none 0 0)
    (hl : unfShort l = false) (hl2 : unfOk l = false) (hll : l.length ≤ 1000) (hrow : Row w 5 1 bv (l.map byteV)) :
    Calls Tryz.prog 20 #[.pointer (some ⟨g, 0, none⟩), .int .i64 n, bv] w fun e w' => e = .returned (.int .i64 0) ∧ SF w' g (r.setSrc n SSrc.gone).addBroken.moved ∧ Kept (fun k => k = g) w w' := by
  refine (feed_of g n r s bv w h hlk hs ho (fun W => SF W g ((r.lock 1).setSrc n SSrc.gone).addBroken.moved ∧ Kept (fun k => k = g) w W) (fun W hW => ⟨hW.1.lockAt (by rw [SCells.moved_lk]; rfl), hW.1.frozen _⟩) (fun W1 h1 k1 => ?_)).mono ?_
  · refine read_of g (6 + n * 5) (.slice none 0 0) bv [] l W1 _ (fun W L => Kept (fun k => k = g) w W ∧ L = l ∧ SF W g (r.lock 1))
      (h1.cell (by rw [← hb]; exact (r.lock 1).srcAt n 1 s hs (by omega))) (h1.cell (by rw [← hu]; exact (r.lock 1).srcAt n 2 s hs (by omega))) (Row.nil _ _ _) (hrow.bytes8 (k1.bytes8 h)) (by simp; omega)
      ⟨k1, by simp, h1⟩ ?_ ?_ ?_ ?_
    · rintro W W' L ⟨hk, e, hsf⟩ hbl
      exact ⟨hk.trans (Kept.ofBelow hbl _), e, hsf.below hbl hsf.lt⟩
    · rintro W L ⟨hk, rfl, hsf⟩ hsh hok
      rw [hl2] at hok; cases hok
    · rintro W L ⟨hk, rfl, hsf⟩ hsh hok
      refine (breakOff_nil g n (r.lock 1) s W hsf hs hg ⟨hf.src, hf.late⟩).mono ?_
      rintro e W' ⟨rfl, h2, k2⟩
      exact ⟨rfl, h2, hk.trans k2⟩
    · rintro W L v ⟨hk, rfl, hsf⟩ hsh
      rw [hl] at hsh; cases hsh
  · rintro e w' ⟨rfl, W, ⟨h1, h2⟩, rfl⟩
    refine ⟨rfl, ?_, h2.setCell ⟨g, _, none⟩ _ (fun _ => rfl)⟩
    have := h1.putLock 0
    have e : SCells.lock ((r.lock 1).setSrc n SSrc.gone).addBroken.moved 0 = (r.setSrc n SSrc.gone).addBroken.moved := by
      cases r; simp only at hlk; subst hlk
      rw [← SCells.moved_lock]; rfl
    rw [e] at this; exact this

theorem close_nil (g n : Nat) (r : SCells) (s : SSrc) (w : World) (h : SF w g r) (hlk : r.lk = 0) (hg : r.going = .slice none 0 0) (hf : r.Fits) (hs : r.src[n]? = some s) (ho : s.opened = true) :
    Calls Tryz.prog 49 #[.pointer (some ⟨g, 0, none⟩), .int .i64 n] w fun e w' => e = .returned (.int .i64 0) ∧ SF w' g (r.setSrc n SSrc.zero).moved ∧ Kept (fun k => k = g) w w' := by
  refine (close_of g n r s w h hlk hs ho (fun W => SF W g ((r.lock 1).setSrc n SSrc.zero).moved ∧ Kept (fun k => k = g) w W) (fun W hW => ⟨hW.1.lockAt (by rw [SCells.moved_lk]; rfl), hW.1.frozen _⟩) (fun W1 h1 k1 => ?_)).mono ?_
  · refine (moveLine_nil g _ W1 h1 hg (SCells.setSrc_fits (r := r.lock 1) ⟨hf.src, hf.late⟩ n _ (by simp [SSrc.zero]))).mono ?_
    rintro e W' ⟨rfl, h2, k2⟩
    exact ⟨rfl, h2, k1.trans k2⟩
  · rintro e w' ⟨rfl, W, ⟨h1, h2⟩, rfl⟩
    refine ⟨rfl, ?_, h2.setCell ⟨g, _, none⟩ _ (fun _ => rfl)⟩
    have := h1.putLock 0
    have e : SCells.lock ((r.lock 1).setSrc n SSrc.zero).moved 0 = (r.setSrc n SSrc.zero).moved := by
      cases r; simp only at hlk; subst hlk
      rw [← SCells.moved_lock]; rfl
    rw [e] at this; exact this

end Go.Proofs.YtcfngdnmpogaoaaGreat

/-
  The script's helpers of package sillkeep: pick, mark, flow; the flow of the statement Slowest, state by state.
-/
namespace Go.Proofs.YtcfngdnmpogaoaaGreat
open Go.RowKit Go.MuLone

def pickZ (c n : Int) : Int := (if c < 0 then -(c + 1) else c) % n

theorem pickZ_lt (c n : Int) (hn : 1 ≤ n) : 0 ≤ pickZ c n ∧ pickZ c n < n := ⟨Int.emod_nonneg _ (by omega), Int.emod_lt_of_pos _ (by omega)⟩

theorem pick_any (c n : Int) (w : World) (h1 : -9223372036854775808 ≤ c) (h2 : c ≤ 9223372036854775807) (hn : 1 ≤ n) (hn2 : n ≤ 4611686018427387904) :
    Calls Tryz.prog 17 #[.int .i64 c, .int .i64 n] w fun e w' => e = .returned (.int .i64 (pickZ c n)) ∧ w' = w := by
  have hz : ¬ n = 0 := by omega
  by_cases hc : c < 0
  · have e0 : wrap64 (c + 1) = c + 1 := by unfold wrap64; omega
    have e1 : wrap64 (-(c + 1)) = -(c + 1) := by unfold wrap64; omega
    obtain ⟨d, hd⟩ : ∃ d, -(c + 1) = d := ⟨_, rfl⟩
    have hd0 : 0 ≤ d := by omega
    have hm : d.tmod n = d % n := Int.tmod_eq_emod_of_nonneg hd0
    have b1 := Int.emod_nonneg d hz
    have b2 := Int.emod_lt_of_pos d (show 0 < n by omega)
    have e2 : IntKind.i64.wrap (d.tmod n) = d % n := by rw [hm, IntKind.wrap_i64]; omega
    have hp : pickZ c n = d % n := by rw [pickZ, if_pos hc, hd]
    rw [hp]
    rw [hd] at e1
    go_enter Tryz.func17, Tryz.ntmps17
    go_wp2
    go_ret
    exact ⟨rfl, rfl⟩
  · have hm : c.tmod n = c % n := Int.tmod_eq_emod_of_nonneg (by omega)
    have b1 := Int.emod_nonneg c hz
    have b2 := Int.emod_lt_of_pos c (show 0 < n by omega)
    have e2 : IntKind.i64.wrap (c.tmod n) = c % n := by rw [hm, IntKind.wrap_i64]; omega
    have hp : pickZ c n = c % n := by rw [pickZ, if_neg hc]
    rw [hp]
    go_enter Tryz.func17, Tryz.ntmps17
    go_wp2
    go_ret
    exact ⟨rfl, rfl⟩

theorem mark_any (t : Int) (w : World) :
    Calls Tryz.prog 21 #[.int .i64 t] w fun e w' => ∃ v, e = .returned v ∧ Row w' 5 1 v ((markB t).map byteV) ∧ (∀ g, v.ownBlock = some g → w.heap.size ≤ g) ∧ Below w.heap.size w w' := by
  have hF := fun W => frame_yes 2 ⟨#[]⟩ t 0 0 W (by decide) item_mark2 (by decide)
  go_enter Tryz.func21, Tryz.ntmps21
  go_wp2_with fail
  refine (hF _).mono ?_
  rintro e W ⟨v, rfl, hr, hg, hb⟩
  go_wp2
  go_ret
  exact ⟨v, rfl, hr, hg, hb⟩

abbrev srcO : SSrc := ⟨true, false, .slice none 0 0, 0, false⟩
abbrev srcM (t : Int) : SSrc := ⟨true, false, .slice none 0 0, t, true⟩

set_option maxHeartbeats 1600000 in
theorem flow_any (size slide late keys : Int) (w : World) (hc : isConf size slide late keys) :
    Calls Tryz.prog 19 #[confV size slide late keys] w fun e w' => ∃ g, w.heap.size ≤ g ∧ e = .returned (.pointer (some ⟨g, 0, none⟩)) ∧ SF w' g ((SCells.new size slide late keys).setSrc 0 srcO) ∧ Below w.heap.size w w' := by
  have HC : Hid (isConf size slide late keys) := hc
  clear hc
  go_enter Tryz.func19, Tryz.ntmps19
  go_wp2_with fail
  refine (new_yes size slide late keys _ HC.out).mono ?_
  rintro e W ⟨g, hg, rfl, hsf, hb⟩
  have HS : Hid (SF W g (SCells.new size slide late keys)) := hsf
  have HB : Hid (Below w.heap.size w W) := ((Below.refl _ w).alloc (Nat.le_refl _) _).trans (hb.mono (by simp))
  have hgw : w.heap.size ≤ g := by simp at hg; omega
  clear hsf hb hg
  have hO := fun W h => open_yes g 0 (SCells.new size slide late keys) SSrc.zero W h rfl rfl rfl
  go_wp2_with fail
  refine (hO _ HS.out).mono ?_
  rintro e W2 ⟨rfl, h2, k2⟩
  have H2 : Hid (SF W2 g ((SCells.new size slide late keys).setSrc 0 srcO)) := h2
  have HB2 : Hid (Below w.heap.size w W2) := HB.out.trans (k2.toBelow HB.out.size (fun k hk e => by omega))
  clear h2 k2 hO
  go_wp2
  go_ret
  exact ⟨g, hgw, rfl, H2.out, HB2.out⟩

/-- The flow of Slowest. -/
def stS (late : Int) (s0 s1 s2 : SSrc) (lt : Int) (li : Bool) (m k : Int) : SCells :=
  ⟨0, 10, 10, late, 2, [s0, s1, s2, SSrc.zero, SSrc.zero, SSrc.zero, SSrc.zero, SSrc.zero], lt, li, .slice none 0 0, .slice none 0 0, ⟨0, 0, 0, 0, m, k⟩⟩

theorem stS_moved (late : Int) (s0 s1 s2 : SSrc) (lt x : Int) (li : Bool) (m k : Int) (h : leastF [s0, s1, s2, SSrc.zero, SSrc.zero, SSrc.zero, SSrc.zero, SSrc.zero] = (x, true)) :
    (stS late s0 s1 s2 lt li m k).moved = if li = false ∨ lt < x - late then stS late s0 s1 s2 (x - late) true m k else stS late s0 s1 s2 lt li m k := by
  have h' : leastF (stS late s0 s1 s2 lt li m k).src = (x, true) := h
  rw [SCells.moved, h']
  rfl

theorem clampT_id (t : Int) (h1 : -2305843009213693952 ≤ t) (h2 : t ≤ 2305843009213693952) : clampT t = t := by
  unfold clampT
  (repeat' split) <;> omega

theorem stS_fits (late : Int) (s0 s1 s2 : SSrc) (lt : Int) (li : Bool) (m k : Int) (hl : 0 ≤ late ∧ late ≤ 1000) (h0 : -2305843009213693952 ≤ s0.time ∧ s0.time ≤ 2305843009213693952) (h1 : -2305843009213693952 ≤ s1.time ∧ s1.time ≤ 2305843009213693952) (h2 : -2305843009213693952 ≤ s2.time ∧ s2.time ≤ 2305843009213693952) : (stS late s0 s1 s2 lt li m k).Fits := by
  refine ⟨fun s hs => ?_, by show 0 ≤ late ∧ late ≤ _; omega⟩
  simp only [stS, List.mem_cons, List.not_mem_nil, or_false] at hs
  rcases hs with rfl | rfl | rfl | rfl | rfl | rfl | rfl | rfl <;> first | assumption | simp [SSrc.zero]

theorem stS_add (late : Int) (s0 s1 s2 : SSrc) (lt : Int) (li : Bool) (m k : Int) (h0 : 0 ≤ m) (h1 : m < 100) : (stS late s0 s1 s2 lt li m k).addMark = stS late s0 s1 s2 lt li (m + 1) k := by
  have e : wrap64 (m + 1) = m + 1 := by unfold wrap64; omega
  show { stS late s0 s1 s2 lt li m k with n := { (stS late s0 s1 s2 lt li m k).n with marks := wrap64 (m + 1) } } = _
  rw [e]; rfl
theorem stS_addB (late : Int) (s0 s1 s2 : SSrc) (lt : Int) (li : Bool) (m : Int) : (stS late s0 s1 s2 lt li m 0).addBroken = stS late s0 s1 s2 lt li m 1 := by
  have e : wrap64 (0 + 1) = 1 := by unfold wrap64; omega
  show { stS late s0 s1 s2 lt li m 0 with n := { (stS late s0 s1 s2 lt li m 0).n with broken := wrap64 (0 + 1) } } = _
  rw [e]; rfl
theorem srcO_raised (a : Int) : srcO.raised a = srcM a := by rw [SSrc.raised, if_pos (.inl rfl)]

/-- The first mark. -/
theorem stS_mark0 (late a : Int) (h1 : -2305843009213693952 ≤ a) (h2 : a ≤ 2305843009213693952) : (stS late srcO srcO srcO 0 false 0 0).marked 0 srcO a = stS late (srcM a) srcO srcO (a - late) true 1 0 := by
  have e : (stS late srcO srcO srcO 0 false 0 0).marked 0 srcO a = (stS late (srcM a) srcO srcO 0 false 1 0).moved := by
    rw [SCells.marked, clampT_id a h1 h2, stS_add _ _ _ _ _ _ _ _ (by omega) (by omega), srcO_raised]; rfl
  rw [e, stS_moved late _ _ _ _ a _ _ _ rfl, if_pos (.inl rfl)]
theorem stS_mark1 (late a b : Int) (h1 : -2305843009213693952 ≤ b) (h2 : b ≤ 2305843009213693952) : (stS late (srcM a) srcO srcO (a - late) true 1 0).marked 1 srcO b = stS late (srcM a) (srcM b) srcO (a - late) true 2 0 := by
  have e : (stS late (srcM a) srcO srcO (a - late) true 1 0).marked 1 srcO b = (stS late (srcM a) (srcM b) srcO (a - late) true 2 0).moved := by
    rw [SCells.marked, clampT_id b h1 h2, stS_add _ _ _ _ _ _ _ _ (by omega) (by omega), srcO_raised]; rfl
  by_cases hb : b < a
  · rw [e, stS_moved late _ _ _ _ b _ _ _ (by simp [leastF, leastStep, SSrc.zero, hb]), if_neg (by simp; omega)]
  · rw [e, stS_moved late _ _ _ _ a _ _ _ (by simp [leastF, leastStep, SSrc.zero, hb]), if_neg (by simp)]
def maxZ (a b : Int) : Int := if b > a then b else a
theorem stS_mark2 (late a b : Int) (v : Value) (h1 : b ≤ 2305843009213693952) (h2 : a ≤ 2305843009213693952) : (stS late (srcM a) (srcM b) ⟨true, false, v, 0, false⟩ (a - late) true 2 0).marked 0 (srcM a) 2305843009213693952 = stS late (srcM 2305843009213693952) (srcM b) ⟨true, false, v, 0, false⟩ (maxZ a b - late) true 3 0 := by
  have e : (stS late (srcM a) (srcM b) ⟨true, false, v, 0, false⟩ (a - late) true 2 0).marked 0 (srcM a) 2305843009213693952 = (stS late (srcM 2305843009213693952) (srcM b) ⟨true, false, v, 0, false⟩ (a - late) true 3 0).moved := by
    rw [SCells.marked, clampT_id _ (by omega) (by omega), stS_add _ _ _ _ _ _ _ _ (by omega) (by omega)]
    by_cases ha : a < 2305843009213693952
    · rw [SSrc.raised, if_pos (.inr ha)]; rfl
    · have : a = 2305843009213693952 := by omega
      subst this
      rw [SSrc.raised, if_neg (by simp)]; rfl
  rw [e, stS_moved late _ _ _ _ b _ _ _ (by
    by_cases hb : b < 2305843009213693952
    · simp [leastF, leastStep, SSrc.zero, hb]
    · have : b = 2305843009213693952 := by omega
      subst this; simp [leastF, leastStep, SSrc.zero])]
  unfold maxZ
  by_cases hab : b > a
  · rw [if_pos (.inr (by omega)), if_pos hab]
  · rw [if_neg (by simp; omega), if_neg hab]
theorem stS_end (late a b : Int) (s1 : SSrc) (v : Value) (k : Int) (hs : s1.is = false) (h1 : b ≤ 2305843009213693952) (h2 : a ≤ 2305843009213693952) : (stS late (srcM 2305843009213693952) s1 ⟨true, false, v, 0, false⟩ (maxZ a b - late) true 3 k).moved = stS late (srcM 2305843009213693952) s1 ⟨true, false, v, 0, false⟩ (2305843009213693952 - late) true 3 k := by
  rw [stS_moved late _ _ _ _ 2305843009213693952 _ _ _ (by simp [leastF, leastStep, SSrc.zero, hs])]
  have hm : maxZ a b ≤ 2305843009213693952 := by unfold maxZ; split <;> omega
  by_cases hlt : maxZ a b < 2305843009213693952
  · rw [if_pos (.inr (by omega))]
  · have : maxZ a b = 2305843009213693952 := by omega
    rw [if_neg (by simp; omega), this]

end Go.Proofs.YtcfngdnmpogaoaaGreat
