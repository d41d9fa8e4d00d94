import Derived.Test.YtcfngdnmpogaoaaGreatBytesT14
import Derived.BigQuiet

/-
  The parts told: a window of one pane.
-/
namespace Go.Proofs.YtcfngdnmpogaoaaGreat
open Go.RowKit Go.MuLone

/-- The parts of a window that has one pane, with one tag. -/
structure PartsIn (w : World) (b : Nat) (cnt sum lo hi : Int) (tag : Nat) (g o c : Nat) : Prop where
  tot : w.heap[b]? = some (.cells #[.int .i64 cnt, .int .i64 sum] 214 (0, 0))
  bnd : w.heap[b + 1]? = some (.cells #[.slice (some ⟨g, o, none⟩) 1 c, .slice none 0 0] 240 (0, 0))
  row : Row w 261 4 (.slice (some ⟨g, o, none⟩) 1 c) [.int .i64 lo, .int .i64 hi, .int .i64 (minV 9223372036854775807 lo), .int .i64 (maxV (-9223372036854775808) hi)]
  tags : w.ownsMap Tryz.prog 26 (plainElem (H := Unit) Tryz.prog 3) (b + 2) 1 ((DataW.map []).put (.int .u32 (tag : Int)) (.lit (.int .i64 1)))
  all : w.heap[b + 3]? = some (.cells #[.iface 212 (.pointer (some ⟨b, 0, none⟩)), .iface 215 (.pointer (some ⟨b + 1, 0, none⟩)), .iface 218 (.map (some (b + 2)))] 210 (0, 0))

theorem ownsMap_block {P : Program} {k : TypeId} {R : Value → Option (DataW Unit × List MemPlace)} {w w' : World} {b n : Nat} {D : DataW Unit} (h : w.ownsMap P k R b n D) (hb : w'.heap[b]? = w.heap[b]?) : w'.ownsMap P k R b n D := by
  obtain ⟨es, clock, hh, r⟩ := h
  exact ⟨es, clock, hb.trans hh, r⟩

theorem PartsIn.below {w w' : World} {b : Nat} {cnt sum lo hi : Int} {tag g o c : Nat} (h : PartsIn w b cnt sum lo hi tag g o c) (hb : Below w.heap.size w w') : PartsIn w' b cnt sum lo hi tag g o c :=
  ⟨blkBelow h.tot hb, blkBelow h.bnd hb, h.row.congr (fun k hk => hb.block k (h.row.blk_lt hk).1), ownsMap_block h.tags (hb.block _ h.tags.lt), blkBelow h.all hb⟩

theorem PartsIn.other {w : World} {b : Nat} {cnt sum lo hi : Int} {tag g o c : Nat} (h : PartsIn w b cnt sum lo hi tag g o c) (V i : Nat) (v : Value) (hV : b + 3 < V) (hg : g ≠ V) : PartsIn (w.setCell ⟨V, i, none⟩ v) b cnt sum lo hi tag g o c :=
  ⟨blkOther h.tot V i v (by omega), blkOther h.bnd V i v (by omega), h.row.congr (fun k hk => by simp only [Value.ownBlock, Option.some.injEq] at hk; subst hk; exact heap_setCell_other _ _ _ _ hg), ownsMap_block h.tags (heap_setCell_other (k := b + 2) _ _ _ (show b + 2 ≠ V by omega)), blkOther h.all V i v (by omega)⟩

def wdCells (key : ByteArray) (start cnt sum lo hi : Int) (tv : Value) : Array Value := #[.string key, .int .i64 start, .int .i64 cnt, .int .i64 sum, .int .i64 lo, .int .i64 hi, tv]
theorem wdAt {w : World} {V : Nat} {key : ByteArray} {start cnt sum lo hi : Int} {tv : Value} (h : w.heap[V]? = some (.cells (wdCells key start cnt sum lo hi tv) 70 (0, 0))) :
    w.cell? ⟨V, 0, none⟩ = some (.string key) ∧ w.cell? ⟨V, 1, none⟩ = some (.int .i64 start) ∧ w.cell? ⟨V, 2, none⟩ = some (.int .i64 cnt) ∧ w.cell? ⟨V, 3, none⟩ = some (.int .i64 sum) ∧ w.cell? ⟨V, 4, none⟩ = some (.int .i64 lo) ∧ w.cell? ⟨V, 5, none⟩ = some (.int .i64 hi) ∧ w.cell? ⟨V, 6, none⟩ = some tv ∧ (∀ j, w.frozen? ⟨V, j, none⟩ = false) :=
  ⟨blkCell h rfl, blkCell h rfl, blkCell h rfl, blkCell h rfl, blkCell h rfl, blkCell h rfl, blkCell h rfl, blkFrozen h⟩

set_option maxRecDepth 20000 in
set_option maxHeartbeats 6400000 in
theorem told_one (key : ByteArray) (start : Int) (b tag g o c : Nat) (cnt sum lo hi : Int) (w : World) (h : PartsIn w b cnt sum lo hi tag g o c) :
    Calls Tryz.prog 103 #[.string key, .int .i64 start, .slice (some ⟨b + 3, 0, none⟩) 3 3] w fun e w' => ∃ tg tc, e = .returned (.agg #[.string key, .int .i64 start, .int .i64 cnt, .int .i64 sum, .int .i64 (minV (minV 9223372036854775807 lo) 9223372036854775807), .int .i64 (maxV (maxV (-9223372036854775808) hi) (-9223372036854775808)), .slice (some ⟨tg, 0, none⟩) 1 tc]) ∧
      Row w' 26 1 (.slice (some ⟨tg, 0, none⟩) 1 tc) [.int .u32 tag] ∧ w.heap.size ≤ tg ∧ Below w.heap.size w w' := by
  obtain ⟨X, HX⟩ : ∃ X, Hid (minV (minV 9223372036854775807 lo) 9223372036854775807 = X) := ⟨_, rfl⟩
  obtain ⟨Y, HY⟩ : ∃ Y, Hid (maxV (maxV (-9223372036854775808) hi) (-9223372036854775808) = Y) := ⟨_, rfl⟩
  rw [HX.out, HY.out]
  have hbs := blkLt h.all
  have hgs := (h.row.blk_lt (k := g) rfl).1
  go_enter Tryz.func103, Tryz.ntmps103
  go_upto_region 3 with fail
  obtain ⟨hR, hV⟩ := two_new w (.cells (wdCells ⟨#[]⟩ 0 0 0 0 0 (.slice none 0 0)) 70) (.cells (wdCells key start 0 0 0 0 (.slice none 0 0)) 70)
  have B1 : Hid (Below w.heap.size w ((w.alloc (.cells (wdCells ⟨#[]⟩ 0 0 0 0 0 (.slice none 0 0)) 70)).alloc (.cells (wdCells key start 0 0 0 0 (.slice none 0 0)) 70))) := ((Below.refl _ w).alloc (Nat.le_refl _) _).alloc (by simp) _
  have h1 := h.below B1.out
  have hz1 : w.heap.size + 1 < ((w.alloc (.cells (wdCells ⟨#[]⟩ 0 0 0 0 0 (.slice none 0 0)) 70)).alloc (.cells (wdCells key start 0 0 0 0 (.slice none 0 0)) 70)).heap.size := blkLt hV
  change Code.wp _ _ _ _ ((w.alloc (.cells (wdCells ⟨#[]⟩ 0 0 0 0 0 (.slice none 0 0)) 70)).alloc (.cells (wdCells key start 0 0 0 0 (.slice none 0 0)) 70))
  generalize (w.alloc (.cells (wdCells ⟨#[]⟩ 0 0 0 0 0 (.slice none 0 0)) 70)).alloc (.cells (wdCells key start 0 0 0 0 (.slice none 0 0)) 70) = W1 at *
  obtain ⟨R, HR⟩ : ∃ R, Hid (w.heap.size = R) := ⟨_, rfl⟩
  obtain ⟨V, HV⟩ : ∃ V, Hid (R + 1 = V) := ⟨_, rfl⟩
  rw [HR.out] at hR hV hz1 B1 hbs hgs ⊢
  rw [HV.out] at hV hz1 ⊢
  have hbV : b + 3 < V := by rw [← HV.out]; omega
  have hgV : g ≠ V := by rw [← HV.out]; omega
  have hVb : V ≠ b := by omega
  have hRV : R ≠ V := by rw [← HV.out]; omega
  clear h
  have p0 := blkCell h1.all (i := 0) rfl
  have t0 := blkCell h1.tot (i := 0) rfl
  have t1 := blkCell h1.tot (i := 1) rfl
  obtain ⟨v0, v1, v2, v3, v4, v5, v6, vf⟩ := wdAt hV
  have ta0 : ∀ W : World, (Instr.typeAssert (.iface 212 (.pointer (some ⟨b, 0, none⟩))) 210 212 true).run Tryz.prog W = .ok (.tuple #[.pointer (some ⟨b, 0, none⟩), .bool true]) W := fun _ => by kernel_rfl
  have ta1 : ∀ W : World, (Instr.typeAssert (.iface 215 (.pointer (some ⟨b + 1, 0, none⟩))) 210 212 true).run Tryz.prog W = .ok (.tuple #[.pointer none, .bool false]) W := fun _ => by kernel_rfl
  have ta2 : ∀ W : World, (Instr.typeAssert (.iface 215 (.pointer (some ⟨b + 1, 0, none⟩))) 210 215 true).run Tryz.prog W = .ok (.tuple #[.pointer (some ⟨b + 1, 0, none⟩), .bool true]) W := fun _ => by kernel_rfl
  have ta3 : ∀ W : World, (Instr.typeAssert (.iface 218 (.map (some (b + 2)))) 210 212 true).run Tryz.prog W = .ok (.tuple #[.pointer none, .bool false]) W := fun _ => by kernel_rfl
  have ta4 : ∀ W : World, (Instr.typeAssert (.iface 218 (.map (some (b + 2)))) 210 215 true).run Tryz.prog W = .ok (.tuple #[.pointer none, .bool false]) W := fun _ => by kernel_rfl
  have ta5 : ∀ W : World, (Instr.typeAssert (.iface 218 (.map (some (b + 2)))) 210 218 true).run Tryz.prog W = .ok (.tuple #[.map (some (b + 2)), .bool true]) W := fun _ => by kernel_rfl
  refine wp_loop_rounds 4 ?_
  rw [rounds_succ]
  go_wp2_with fail
  have hdb : V ≠ b := hVb
  have hdb' : b ≠ V := Ne.symm hVb
  go_region_held3 (fun W => W.cell? ⟨b, 0, none⟩ = some (.int .i64 cnt) ∧ W.cell? ⟨b, 1, none⟩ = some (.int .i64 sum)) (go_keep) (fail)
  have hV2 : ((W1.setCell ⟨V, 2, none⟩ (.int .i64 cnt)).setCell ⟨V, 3, none⟩ (.int .i64 sum)).drew.heap[V]? = some (.cells (wdCells key start cnt sum 0 0 (.slice none 0 0)) 70 (0, 0)) := blkPut (blkPut hV 2 (.int .i64 cnt)) 3 (.int .i64 sum)
  have hR2 : ((W1.setCell ⟨V, 2, none⟩ (.int .i64 cnt)).setCell ⟨V, 3, none⟩ (.int .i64 sum)).drew.heap[R]? = some (.cells (wdCells ⟨#[]⟩ 0 0 0 0 0 (.slice none 0 0)) 70 (0, 0)) := blkOther (blkOther hR V 2 (.int .i64 cnt) hRV) V 3 (.int .i64 sum) hRV
  have h2 : PartsIn ((W1.setCell ⟨V, 2, none⟩ (.int .i64 cnt)).setCell ⟨V, 3, none⟩ (.int .i64 sum)).drew b cnt sum lo hi tag g o c := ((h1.other V 2 (.int .i64 cnt) hbV hgV).other V 3 (.int .i64 sum) hbV hgV).below ((Below.refl _ _).drew)
  have hVR : R ≤ V := by rw [← HV.out]; omega
  have B2 : Hid (Below R w ((W1.setCell ⟨V, 2, none⟩ (.int .i64 cnt)).setCell ⟨V, 3, none⟩ (.int .i64 sum)).drew) := ((B1.out.setCell (p := ⟨V, 2, none⟩) hVR (.int .i64 cnt)).setCell (p := ⟨V, 3, none⟩) hVR (.int .i64 sum)).drew
  clear p0 t0 t1 v0 v1 v2 v3 v4 v5 v6 vf hV hR h1 B1 hz1 ta0
  generalize ((W1.setCell ⟨V, 2, none⟩ (.int .i64 cnt)).setCell ⟨V, 3, none⟩ (.int .i64 sum)).drew = W2 at *
  have p1 := blkCell h2.all (i := 1) rfl
  go_wp2_with fail
  rw [rounds_succ]
  go_wp2_with fail
  refine (bounds_whole (b + 1) g o c _ _ W2 h2.bnd (h2.row.cell 2 (by decide)) (h2.row.cell 3 (by decide))).mono ?_
  rw [HX.out, HY.out]
  rintro e W3 ⟨rfl, hb3⟩
  have hV3 := blkBelow hV2 hb3
  have hR3 := blkBelow hR2 hb3
  have h3 := h2.below hb3
  have B3 : Hid (Below R w W3) := B2.out.trans (hb3.mono (Nat.le_of_lt (blkLt hR2)))
  clear hb3 hV2 hR2 h2 B2 p1
  go_upto_region 12 with fail
  have hx4 := heap_alloc_new W3 (.cells #[.int .i64 X, .int .i64 Y] 204)
  have hV4 := blkAlloc hV3 (.cells #[.int .i64 X, .int .i64 Y] 204)
  have hR4 := blkAlloc hR3 (.cells #[.int .i64 X, .int .i64 Y] 204)
  have h4 := h3.below ((Below.refl _ W3).alloc (Nat.le_refl _) (.cells #[.int .i64 X, .int .i64 Y] 204))
  have B4 : Hid (Below R w (W3.alloc (.cells #[.int .i64 X, .int .i64 Y] 204))) := B3.out.alloc (Nat.le_of_lt (blkLt hR3)) _
  have hxV : W3.heap.size ≠ V := by have := blkLt hV3; omega
  clear hV3 hR3 h3 B3
  generalize W3.alloc (.cells #[.int .i64 X, .int .i64 Y] 204) = W4 at *
  generalize W3.heap.size = x at *
  have hVx : V ≠ x := Ne.symm hxV
  obtain ⟨y0, y1, -, -⟩ := cells2At hx4
  obtain ⟨v0, v1, v2, v3, v4, v5, v6, vf⟩ := wdAt hV4
  go_region_held3 (fun W => W.cell? ⟨x, 0, none⟩ = some (.int .i64 X) ∧ W.cell? ⟨x, 1, none⟩ = some (.int .i64 Y)) (go_keep) (fail)
  have hV5 : ((W4.setCell ⟨V, 4, none⟩ (.int .i64 X)).setCell ⟨V, 5, none⟩ (.int .i64 Y)).drew.heap[V]? = some (.cells (wdCells key start cnt sum X Y (.slice none 0 0)) 70 (0, 0)) := blkPut (blkPut hV4 4 (.int .i64 X)) 5 (.int .i64 Y)
  have hR5 : ((W4.setCell ⟨V, 4, none⟩ (.int .i64 X)).setCell ⟨V, 5, none⟩ (.int .i64 Y)).drew.heap[R]? = some (.cells (wdCells ⟨#[]⟩ 0 0 0 0 0 (.slice none 0 0)) 70 (0, 0)) := blkOther (blkOther hR4 V 4 (.int .i64 X) hRV) V 5 (.int .i64 Y) hRV
  have h5 : PartsIn ((W4.setCell ⟨V, 4, none⟩ (.int .i64 X)).setCell ⟨V, 5, none⟩ (.int .i64 Y)).drew b cnt sum lo hi tag g o c := ((h4.other V 4 (.int .i64 X) hbV hgV).other V 5 (.int .i64 Y) hbV hgV).below ((Below.refl _ _).drew)
  have B5 : Hid (Below R w ((W4.setCell ⟨V, 4, none⟩ (.int .i64 X)).setCell ⟨V, 5, none⟩ (.int .i64 Y)).drew) := ((B4.out.setCell (p := ⟨V, 4, none⟩) hVR (.int .i64 X)).setCell (p := ⟨V, 5, none⟩) hVR (.int .i64 Y)).drew
  clear v0 v1 v2 v3 v4 v5 v6 vf y0 y1 hx4 hV4 hR4 h4 B4 ta1 ta2 hxV hVx
  generalize ((W4.setCell ⟨V, 4, none⟩ (.int .i64 X)).setCell ⟨V, 5, none⟩ (.int .i64 Y)).drew = W5 at *
  have p2 := blkCell h5.all (i := 2) rfl
  go_wp2_with fail
  rw [rounds_succ]
  go_wp2_with fail
  refine (rising_one (b + 2) tag W5 h5.tags).mono ?_
  rintro e W6 ⟨tg, tc, rfl, htr, htg, hb6⟩
  have hV6 := blkBelow hV5 hb6
  have hR6 := blkBelow hR5 hb6
  have B6 : Hid (Below R w W6) := B5.out.trans (hb6.mono (Nat.le_of_lt (blkLt hR5)))
  have htV : tg ≠ V := by have := blkLt hV5; omega
  have htR : R < tg := by have := blkLt hR5; omega
  have Htr : Hid (Row W6 26 1 (.slice (some ⟨tg, 0, none⟩) 1 tc) [.int .u32 tag]) := htr
  clear hb6 hV5 hR5 h5 B5 p2 htr htg
  obtain ⟨v0, v1, v2, v3, v4, v5, v6, vf⟩ := wdAt hV6
  go_wp2_with fail
  have hV7 : (W6.setCell ⟨V, 6, none⟩ (.slice (some ⟨tg, 0, none⟩) 1 tc)).heap[V]? = some (.cells (wdCells key start cnt sum X Y (.slice (some ⟨tg, 0, none⟩) 1 tc)) 70 (0, 0)) := blkPut hV6 6 _
  have hR7 := blkOther hR6 V 6 (.slice (some ⟨tg, 0, none⟩) 1 tc) hRV
  have B7 : Hid (Below R w (W6.setCell ⟨V, 6, none⟩ (.slice (some ⟨tg, 0, none⟩) 1 tc))) := B6.out.setCell (p := ⟨V, 6, none⟩) hVR _
  have Ht7 : Hid (Row (W6.setCell ⟨V, 6, none⟩ (.slice (some ⟨tg, 0, none⟩) 1 tc)) 26 1 (.slice (some ⟨tg, 0, none⟩) 1 tc) [.int .u32 tag]) := Htr.out.congr (fun k hk => by simp only [Value.ownBlock, Option.some.injEq] at hk; subst hk; exact heap_setCell_other _ _ _ _ htV)
  clear v0 v1 v2 v3 v4 v5 v6 vf hV6 hR6 B6 Htr ta3 ta4 ta5
  generalize W6.setCell ⟨V, 6, none⟩ (.slice (some ⟨tg, 0, none⟩) 1 tc) = W7 at *
  obtain ⟨v0, v1, v2, v3, v4, v5, v6, -⟩ := wdAt hV7
  obtain ⟨r0, r1, r2, r3, r4, r5, r6, rf⟩ := wdAt hR7
  rw [rounds_succ]
  go_wp2
  have hR8 : (((((((W7.setCell ⟨R, 0, none⟩ (.string key)).setCell ⟨R, 1, none⟩ (.int .i64 start)).setCell ⟨R, 2, none⟩ (.int .i64 cnt)).setCell ⟨R, 3, none⟩ (.int .i64 sum)).setCell ⟨R, 4, none⟩ (.int .i64 X)).setCell ⟨R, 5, none⟩ (.int .i64 Y)).setCell ⟨R, 6, none⟩ (.slice (some ⟨tg, 0, none⟩) 1 tc)).heap[R]? = some (.cells (wdCells key start cnt sum X Y (.slice (some ⟨tg, 0, none⟩) 1 tc)) 70 (0, 0)) := blkPut (blkPut (blkPut (blkPut (blkPut (blkPut (blkPut hR7 0 (.string key)) 1 (.int .i64 start)) 2 (.int .i64 cnt)) 3 (.int .i64 sum)) 4 (.int .i64 X)) 5 (.int .i64 Y)) 6 (.slice (some ⟨tg, 0, none⟩) 1 tc)
  have K8 : Kept (fun k => k = R) W7 (((((((W7.setCell ⟨R, 0, none⟩ (.string key)).setCell ⟨R, 1, none⟩ (.int .i64 start)).setCell ⟨R, 2, none⟩ (.int .i64 cnt)).setCell ⟨R, 3, none⟩ (.int .i64 sum)).setCell ⟨R, 4, none⟩ (.int .i64 X)).setCell ⟨R, 5, none⟩ (.int .i64 Y)).setCell ⟨R, 6, none⟩ (.slice (some ⟨tg, 0, none⟩) 1 tc)) := (((((((Kept.refl (fun k => k = R) W7).setCell ⟨R, 0, none⟩ _ (fun _ => rfl)).setCell ⟨R, 1, none⟩ _ (fun _ => rfl)).setCell ⟨R, 2, none⟩ _ (fun _ => rfl)).setCell ⟨R, 3, none⟩ _ (fun _ => rfl)).setCell ⟨R, 4, none⟩ _ (fun _ => rfl)).setCell ⟨R, 5, none⟩ _ (fun _ => rfl)).setCell ⟨R, 6, none⟩ _ (fun _ => rfl)
  have B8 := B7.out.trans (K8.toBelow (B := R) (Nat.le_of_lt (blkLt hR7)) (fun k hk h => by omega))
  have Ht8 := Ht7.out.congr (w' := ((((((W7.setCell ⟨R, 0, none⟩ (.string key)).setCell ⟨R, 1, none⟩ (.int .i64 start)).setCell ⟨R, 2, none⟩ (.int .i64 cnt)).setCell ⟨R, 3, none⟩ (.int .i64 sum)).setCell ⟨R, 4, none⟩ (.int .i64 X)).setCell ⟨R, 5, none⟩ (.int .i64 Y)).setCell ⟨R, 6, none⟩ (.slice (some ⟨tg, 0, none⟩) 1 tc)) (fun k hk => K8.block k (Ht7.out.blk_lt hk).1 (fun h => by simp only [Value.ownBlock, Option.some.injEq] at hk; omega))
  clear v0 v1 v2 v3 v4 v5 v6 r0 r1 r2 r3 r4 r5 r6 rf K8
  generalize ((((((W7.setCell ⟨R, 0, none⟩ (.string key)).setCell ⟨R, 1, none⟩ (.int .i64 start)).setCell ⟨R, 2, none⟩ (.int .i64 cnt)).setCell ⟨R, 3, none⟩ (.int .i64 sum)).setCell ⟨R, 4, none⟩ (.int .i64 X)).setCell ⟨R, 5, none⟩ (.int .i64 Y)).setCell ⟨R, 6, none⟩ (.slice (some ⟨tg, 0, none⟩) 1 tc) = W8 at *
  obtain ⟨r0, r1, r2, r3, r4, r5, r6, -⟩ := wdAt hR8
  exact bodyPost_ret (v := .agg #[.string key, .int .i64 start, .int .i64 cnt, .int .i64 sum, .int .i64 X, .int .i64 Y, .slice (some ⟨tg, 0, none⟩) 1 tc]) (by simp [results, Tryz.results103, go_sem, r0, r1, r2, r3, r4, r5, r6]) rfl ⟨tg, tc, rfl, Ht8, by rw [HR.out]; omega, by rw [HR.out]; exact B8⟩
end Go.Proofs.YtcfngdnmpogaoaaGreat

/-
  The window slides: the run's next start; its pane enters and leaves.
-/
namespace Go.Proofs.YtcfngdnmpogaoaaGreat
open Go.RowKit Go.MuLone

set_option maxRecDepth 20000 in
set_option maxHeartbeats 1600000 in
theorem nextStart_new (R P M pg po pc : Nat) (key : ByteArray) (next first last count sum least greatest : Int) (qv : Value) (w : World)
    (hR : w.heap[R]? = some (.cells (runCells key (.slice (some ⟨pg, po, none⟩) 1 pc) 0 next qv) 178 (0, 0)))
    (hq : w.cell? ⟨pg, po, none⟩ = some (.pointer (some ⟨P, 0, none⟩)))
    (hp : w.heap[P]? = some (.cells (paneCells first last count sum least greatest M) 207 (0, 0))) :
    Calls Tryz.prog 100 #[.pointer (some ⟨R, 0, none⟩)] w fun e w' => e = .returned (.int .i64 first) ∧ w' = w := by
  obtain ⟨r0, r1, r2, r3, r4, -⟩ := runAt hR
  obtain ⟨c0, -, -, -, -, -, -, -⟩ := paneAt hp
  go_enter Tryz.func100, Tryz.ntmps100
  go_wp2
  go_ret
  exact ⟨rfl, rfl⟩

theorem enterTE : ∀ (vs : Array Value) (w : World), (callFunc 207 vs).run Tryz.prog w = .ok (.enter 207 vs) w := enters_of Tryz.func207 (by kernel_rfl) rfl
theorem enterBE : ∀ (vs : Array Value) (w : World), (callFunc 209 vs).run Tryz.prog w = .ok (.enter 209 vs) w := enters_of Tryz.func209 (by kernel_rfl) rfl
theorem enterGE : ∀ (vs : Array Value) (w : World), (callFunc 213 vs).run Tryz.prog w = .ok (.enter 213 vs) w := enters_of Tryz.func213 (by kernel_rfl) rfl

theorem ne_of_objs {w : World} {x y : Nat} {o1 o2 : Obj} (h1 : w.heap[x]? = some o1) (h2 : w.heap[y]? = some o2) (hne : o1 ≠ o2) : x ≠ y := by
  rintro rfl
  rw [h1] at h2
  exact hne (Option.some.inj h2)

/-- A run with one pane, with one tag, and its parts' list. -/
structure Slid (w : World) (R P M b pg po pc : Nat) (key : ByteArray) (inside next first last count sum least greatest : Int) (tag : Nat) : Prop where
  run : w.heap[R]? = some (.cells (runCells key (.slice (some ⟨pg, po, none⟩) 1 pc) inside next (.slice (some ⟨b + 3, 0, none⟩) 3 3)) 178 (0, 0))
  panes : Row w 208 1 (.slice (some ⟨pg, po, none⟩) 1 pc) [.pointer (some ⟨P, 0, none⟩)]
  pane : w.heap[P]? = some (.cells (paneCells first last count sum least greatest M) 207 (0, 0))
  tags : w.ownsMap Tryz.prog 26 (unitElem (H := Unit)) M 1 ((DataW.map []).put (.int .u32 (tag : Int)) (.agg []))
  all : w.heap[b + 3]? = some (.cells #[.iface 212 (.pointer (some ⟨b, 0, none⟩)), .iface 215 (.pointer (some ⟨b + 1, 0, none⟩)), .iface 218 (.map (some (b + 2)))] 210 (0, 0))

theorem Slid.congr {w w' : World} {R P M b pg po pc : Nat} {key : ByteArray} {inside next first last count sum least greatest : Int} {tag : Nat} (h : Slid w R P M b pg po pc key inside next first last count sum least greatest tag)
    (hb : ∀ k, (k = R ∨ k = P ∨ k = M ∨ k = b + 3 ∨ k = pg) → w'.heap[k]? = w.heap[k]?) : Slid w' R P M b pg po pc key inside next first last count sum least greatest tag :=
  ⟨(hb R (by simp)).trans h.run, h.panes.congr (fun k hk => by simp only [Value.ownBlock, Option.some.injEq] at hk; subst hk; exact hb pg (by simp)), (hb P (by simp)).trans h.pane, ownsMap_block h.tags (hb M (by simp)), (hb (b + 3) (by simp)).trans h.all⟩

theorem Slid.lt {w : World} {R P M b pg po pc : Nat} {key : ByteArray} {inside next first last count sum least greatest : Int} {tag : Nat} (h : Slid w R P M b pg po pc key inside next first last count sum least greatest tag) :
    ∀ k, (k = R ∨ k = P ∨ k = M ∨ k = b + 3 ∨ k = pg) → k < w.heap.size := by
  rintro k (rfl | rfl | rfl | rfl | rfl)
  · exact blkLt h.run
  · exact blkLt h.pane
  · exact h.tags.lt
  · exact blkLt h.all
  · exact (h.panes.blk_lt rfl).1

theorem Slid.kept {w w' : World} {R P M b pg po pc : Nat} {key : ByteArray} {inside next first last count sum least greatest : Int} {tag : Nat} {X : Nat → Prop} (h : Slid w R P M b pg po pc key inside next first last count sum least greatest tag)
    (hk : Kept X w w') (hX : ∀ k, (k = R ∨ k = P ∨ k = M ∨ k = b + 3 ∨ k = pg) → ¬ X k) : Slid w' R P M b pg po pc key inside next first last count sum least greatest tag :=
  h.congr fun k hh => hk.block k (h.lt k hh) (hX k hh)

theorem Slid.q {w : World} {R P M b pg po pc : Nat} {key : ByteArray} {inside next first last count sum least greatest : Int} {tag : Nat} (h : Slid w R P M b pg po pc key inside next first last count sum least greatest tag) :
    w.cell? ⟨pg, po, none⟩ = some (.pointer (some ⟨P, 0, none⟩)) := h.panes.cell 0 (by decide)

set_option maxRecDepth 20000 in
set_option maxHeartbeats 6400000 in
/-- The one pane of a run enters the window. -/
theorem enterAt_one (R P M b pg po pc tag : Nat) (key : ByteArray) (first last count sum least greatest start : Int) (w : World) (ht : tag < 4294967296)
    (h : Slid w R P M b pg po pc key 0 0 first last count sum least greatest tag)
    (hN : PartsNew w b) (hfs : first ≤ start) (hne : ∀ k, (k = R ∨ k = P ∨ k = M ∨ k = b + 3 ∨ k = pg) → k ≠ b ∧ k ≠ b + 1 ∧ k ≠ b + 2) (hRne : ∀ k, (k = P ∨ k = M ∨ k = b + 3 ∨ k = pg) → k ≠ R) :
    Calls Tryz.prog 102 #[.pointer (some ⟨R, 0, none⟩), .int .i64 start] w fun e w' => e = .returned (.tuple #[]) ∧ (∃ g o c, PartsIn w' b (wrap64 (0 + count)) (wrap64 (0 + sum)) least greatest tag g o c ∧ w.heap.size ≤ g) ∧
      Slid w' R P M b pg po pc key 1 0 first last count sum least greatest tag ∧ Kept (fun k => k = R ∨ k = b ∨ k = b + 1 ∨ k = b + 2) w w' := by
  have hd : decide (first ≤ start) = true := by simpa using hfs
  have hMb : M ≠ b + 2 := (hne M (by simp)).2.2
  have hPb : P ≠ b := (hne P (by simp)).1
  have na0 : ∀ W : World, (nilAhead 396 212 (.pointer (some ⟨b, 0, none⟩)) "sill/sill.enter").run Tryz.prog W = .ok (some false) W := fun _ => by kernel_rfl
  have me0 : ∀ W : World, (method 396 212 (.pointer (some ⟨b, 0, none⟩)) "sill/sill.enter").run Tryz.prog W = .ok (207, .pointer (some ⟨b, 0, none⟩)) W := fun _ => by kernel_rfl
  have ec0 := enterTE
  have na1 : ∀ W : World, (nilAhead 396 215 (.pointer (some ⟨b + 1, 0, none⟩)) "sill/sill.enter").run Tryz.prog W = .ok (some false) W := fun _ => by kernel_rfl
  have me1 : ∀ W : World, (method 396 215 (.pointer (some ⟨b + 1, 0, none⟩)) "sill/sill.enter").run Tryz.prog W = .ok (209, .pointer (some ⟨b + 1, 0, none⟩)) W := fun _ => by kernel_rfl
  have ec1 := enterBE
  have na2 : ∀ W : World, (nilAhead 396 218 (.map (some (b + 2))) "sill/sill.enter").run Tryz.prog W = .ok (some false) W := fun _ => by kernel_rfl
  have me2 : ∀ W : World, (method 396 218 (.map (some (b + 2))) "sill/sill.enter").run Tryz.prog W = .ok (213, .map (some (b + 2))) W := fun _ => by kernel_rfl
  have ec2 := enterGE
  obtain ⟨r0, r1, r2, r3, r4, rf⟩ := runAt h.run
  obtain ⟨c0, -, -, -, -, -, -, -⟩ := paneAt h.pane
  have hq := h.q
  go_enter Tryz.func102, Tryz.ntmps102
  go_wp2_with fail
  refine wp_loop_rounds 2 ?_
  rw [rounds_succ]
  go_upto_region 0 with fail
  go_quiet (fail)
  rename_i nq
  have h1 := h.congr (w' := w.drewN nq) (fun _ _ => rfl)
  have hN1 := hN.congr (w' := w.drewN nq) (fun _ _ _ => rfl)
  have K1 : Hid (Kept (fun k => k = R ∨ k = b ∨ k = b + 1 ∨ k = b + 2) w (w.drewN nq)) := (Kept.refl _ w).drewN nq
  clear r0 r1 r2 r3 r4 rf c0 hq h hN hd
  generalize w.drewN nq = W1 at *
  obtain ⟨r0, r1, r2, r3, r4, rf⟩ := runAt h1.run
  go_wp2_with fail
  clear r0 r1 r2 r3 r4 rf
  refine wp_loop_rounds 4 ?_
  have p0 := blkCell h1.all (i := 0) rfl
  obtain ⟨r0, r1, r2, r3, r4, rf⟩ := runAt h1.run
  rw [rounds_succ]
  go_upto_region 4 with fail
  clear r0 r1 r2 r3 r4 rf p0
  refine wp_region_still_tail 14 (by kernel_rfl) (by kernel_rfl) ?_
  simp only [List.take_succ_cons, List.take_zero, List.drop_succ_cons, List.drop_zero]
  change wpStill Tryz.prog _ W1.drew (fun a' => wpList Tryz.prog _ _ _ a' W1.drew) _ _
  have h2 := h1.congr (w' := W1.drew) (fun _ _ => rfl)
  have hN2 := hN1.congr (w' := W1.drew) (fun _ _ _ => rfl)
  have K2 : Hid (Kept (fun k => k = R ∨ k = b ∨ k = b + 1 ∨ k = b + 2) w W1.drew) := K1.out.drew
  clear h1 hN1 K1
  generalize W1.drew = W2 at *
  obtain ⟨r0, r1, r2, r3, r4, rf⟩ := runAt h2.run
  have hq := h2.q
  repeat still_step
  refine wpStill_nil ?_
  go_wp2_with fail
  clear r0 r1 r2 r3 r4 rf hq
  refine (total_enter b P M 0 0 first last count sum least greatest W2 hN2.tot h2.pane hPb).mono ?_
  rintro e W3 ⟨rfl, ht3, hk3⟩
  have h3 := h2.kept hk3 (fun k hk hh => (hne k hk).1 hh)
  have hbn3 := (hk3.block (b + 1) (blkLt hN2.bnd) (by simp)).trans hN2.bnd
  have htg3 := (hk3.block (b + 2) (blkLt hN2.tag) (by simp)).trans hN2.tag
  have K3 : Hid (Kept (fun k => k = R ∨ k = b ∨ k = b + 1 ∨ k = b + 2) w W3) := K2.out.step hk3 (fun k _ hh => .inr (.inl hh))
  clear hk3 h2 hN2 K2 na0 me0 ec0
  go_wp2_with fail
  have p1 := blkCell h3.all (i := 1) rfl
  obtain ⟨r0, r1, r2, r3, r4, rf⟩ := runAt h3.run
  rw [rounds_succ]
  go_upto_region 4 with fail
  clear r0 r1 r2 r3 r4 rf p1
  refine wp_region_still_tail 14 (by kernel_rfl) (by kernel_rfl) ?_
  simp only [List.take_succ_cons, List.take_zero, List.drop_succ_cons, List.drop_zero]
  change wpStill Tryz.prog _ W3.drew (fun a' => wpList Tryz.prog _ _ _ a' W3.drew) _ _
  have h4 := h3.congr (w' := W3.drew) (fun _ _ => rfl)
  have ht4 : W3.drew.heap[b]? = some (.cells #[.int .i64 (wrap64 (0 + count)), .int .i64 (wrap64 (0 + sum))] 214 (0, 0)) := ht3
  have hbn4 : W3.drew.heap[b + 1]? = some (.cells #[.slice none 0 0, .slice none 0 0] 240 (0, 0)) := hbn3
  have htg4 : W3.drew.heap[b + 2]? = some (.map #[] 0) := htg3
  have K4 : Hid (Kept (fun k => k = R ∨ k = b ∨ k = b + 1 ∨ k = b + 2) w W3.drew) := K3.out.drew
  clear h3 ht3 hbn3 htg3 K3
  generalize W3.drew = W4 at *
  obtain ⟨r0, r1, r2, r3, r4, rf⟩ := runAt h4.run
  have hq := h4.q
  repeat still_step
  refine wpStill_nil ?_
  go_wp2_with fail
  clear r0 r1 r2 r3 r4 rf hq
  have hz4 := K4.out.size
  refine (bounds_enter (b + 1) P M first last count sum least greatest W4 hbn4 h4.pane).mono ?_
  rintro e W5 ⟨rfl, g, o, c, hbn5, hg5, hr5, hk5⟩
  have h5 := h4.kept hk5 (fun k hk hh => (hne k hk).2.1 hh)
  have ht5 := (hk5.block b (blkLt ht4) (by simp)).trans ht4
  have htg5 := (hk5.block (b + 2) (blkLt htg4) (by simp)).trans htg4
  have K5 : Hid (Kept (fun k => k = R ∨ k = b ∨ k = b + 1 ∨ k = b + 2) w W5) := K4.out.step hk5 (fun k _ hh => .inr (.inr (.inl hh)))
  have hgw : w.heap.size ≤ g := Nat.le_trans hz4 hg5
  clear hk5 h4 ht4 hbn4 htg4 K4 na1 me1 ec1 hz4
  have Hr5 : Hid (Row W5 261 4 (.slice (some ⟨g, o, none⟩) 1 c) [.int .i64 least, .int .i64 greatest, .int .i64 (minV 9223372036854775807 least), .int .i64 (maxV (-9223372036854775808) greatest)]) := hr5
  have Hb5 : Hid (W5.heap[b + 1]? = some (.cells #[.slice (some ⟨g, o, none⟩) 1 c, .slice none 0 0] 240 (0, 0))) := hbn5
  have Ht5 : Hid (W5.heap[b]? = some (.cells #[.int .i64 (wrap64 (0 + count)), .int .i64 (wrap64 (0 + sum))] 214 (0, 0))) := ht5
  clear hr5 hbn5 ht5
  go_wp2_with fail
  have p2 := blkCell h5.all (i := 2) rfl
  obtain ⟨r0, r1, r2, r3, r4, rf⟩ := runAt h5.run
  rw [rounds_succ]
  go_upto_region 4 with fail
  clear r0 r1 r2 r3 r4 rf p2
  refine wp_region_still_tail 14 (by kernel_rfl) (by kernel_rfl) ?_
  simp only [List.take_succ_cons, List.take_zero, List.drop_succ_cons, List.drop_zero]
  change wpStill Tryz.prog _ W5.drew (fun a' => wpList Tryz.prog _ _ _ a' W5.drew) _ _
  have h6 := h5.congr (w' := W5.drew) (fun _ _ => rfl)
  have Ht6 : Hid (W5.drew.heap[b]? = some (.cells #[.int .i64 (wrap64 (0 + count)), .int .i64 (wrap64 (0 + sum))] 214 (0, 0))) := Ht5.out
  have Hb6 : Hid (W5.drew.heap[b + 1]? = some (.cells #[.slice (some ⟨g, o, none⟩) 1 c, .slice none 0 0] 240 (0, 0))) := Hb5.out
  have Hr6 : Hid (Row W5.drew 261 4 (.slice (some ⟨g, o, none⟩) 1 c) [.int .i64 least, .int .i64 greatest, .int .i64 (minV 9223372036854775807 least), .int .i64 (maxV (-9223372036854775808) greatest)]) := Hr5.out.congr (fun _ _ => rfl)
  have htg6 : W5.drew.heap[b + 2]? = some (.map #[] 0) := htg5
  have K6 : Hid (Kept (fun k => k = R ∨ k = b ∨ k = b + 1 ∨ k = b + 2) w W5.drew) := K5.out.drew
  clear h5 Ht5 Hb5 Hr5 htg5 K5
  generalize W5.drew = W6 at *
  obtain ⟨r0, r1, r2, r3, r4, rf⟩ := runAt h6.run
  have hq := h6.q
  repeat still_step
  refine wpStill_nil ?_
  go_wp2_with fail
  clear r0 r1 r2 r3 r4 rf hq
  refine (tags_enter (b + 2) P M tag first last count sum least greatest W6 ht h6.pane h6.tags (mapMade htg6) hMb).mono ?_
  rintro e W7 ⟨rfl, htg7, hk7⟩
  have h7 := h6.kept hk7 (fun k hk hh => (hne k hk).2.2 hh)
  have Ht7 : Hid (W7.heap[b]? = some (.cells #[.int .i64 (wrap64 (0 + count)), .int .i64 (wrap64 (0 + sum))] 214 (0, 0))) := (hk7.block b (blkLt Ht6.out) (by simp)).trans Ht6.out
  have Hb7 : Hid (W7.heap[b + 1]? = some (.cells #[.slice (some ⟨g, o, none⟩) 1 c, .slice none 0 0] 240 (0, 0))) := (hk7.block (b + 1) (blkLt Hb6.out) (by simp)).trans Hb6.out
  have hgb : g ≠ b + 2 := ne_of_objs (Hr6.out.blk_lt (k := g) rfl).2.choose_spec htg6 (by simp)
  have Hr7 : Hid (Row W7 261 4 (.slice (some ⟨g, o, none⟩) 1 c) [.int .i64 least, .int .i64 greatest, .int .i64 (minV 9223372036854775807 least), .int .i64 (maxV (-9223372036854775808) greatest)]) := Hr6.out.congr (fun k hk => hk7.block k (Hr6.out.blk_lt hk).1 (fun hh => by simp only [Value.ownBlock, Option.some.injEq] at hk; omega))
  have K7 : Hid (Kept (fun k => k = R ∨ k = b ∨ k = b + 1 ∨ k = b + 2) w W7) := K6.out.step hk7 (fun k _ hh => .inr (.inr (.inr hh)))
  have Hg7 : Hid (W7.ownsMap Tryz.prog 26 (plainElem (H := Unit) Tryz.prog 3) (b + 2) 1 ((DataW.map []).put (.int .u32 (tag : Int)) (.lit (.int .i64 1)))) := htg7
  clear hk7 h6 Ht6 Hb6 Hr6 htg6 K6 na2 me2 ec2 htg7
  go_wp2_with fail
  rw [rounds_succ]
  obtain ⟨r0, r1, r2, r3, r4, rf⟩ := runAt h7.run
  go_wp2_with fail
  have hbR : b ≠ R := fun e => (hne R (by simp)).1 e.symm
  have hbR1 : b + 1 ≠ R := fun e => (hne R (by simp)).2.1 e.symm
  have hbR2 : b + 2 ≠ R := fun e => (hne R (by simp)).2.2 e.symm
  have hgR : g ≠ R := ne_of_objs (Hr7.out.blk_lt (k := g) rfl).2.choose_spec h7.run (by simp)
  have h8 : Slid (W7.setCell ⟨R, 2, none⟩ (.int .i64 1)) R P M b pg po pc key 1 0 first last count sum least greatest tag :=
    ⟨blkPut h7.run 2 _, h7.panes.congr (fun k hk => by simp only [Value.ownBlock, Option.some.injEq] at hk; subst hk; exact heap_setCell_other _ _ _ _ (hRne pg (by simp))), blkOther h7.pane R 2 _ (hRne P (by simp)), ownsMap_block h7.tags (heap_setCell_other (k := M) _ _ _ (hRne M (by simp))), blkOther h7.all R 2 _ (hRne (b + 3) (by simp))⟩
  have P8 : Hid (PartsIn (W7.setCell ⟨R, 2, none⟩ (.int .i64 1)) b (wrap64 (0 + count)) (wrap64 (0 + sum)) least greatest tag g o c) :=
    ⟨blkOther Ht7.out R 2 _ hbR, blkOther Hb7.out R 2 _ hbR1, Hr7.out.congr (fun k hk => by simp only [Value.ownBlock, Option.some.injEq] at hk; subst hk; exact heap_setCell_other _ _ _ _ hgR), ownsMap_block Hg7.out (heap_setCell_other (k := b + 2) _ _ _ hbR2), h8.all⟩
  have K8 : Hid (Kept (fun k => k = R ∨ k = b ∨ k = b + 1 ∨ k = b + 2) w (W7.setCell ⟨R, 2, none⟩ (.int .i64 1))) := K7.out.setCell ⟨R, 2, none⟩ _ (fun _ => .inl rfl)
  clear r0 r1 r2 r3 r4 rf h7 Ht7 Hb7 Hr7 K7 Hg7
  generalize W7.setCell ⟨R, 2, none⟩ (.int .i64 1) = W8 at *
  obtain ⟨r0, r1, r2, r3, r4, rf⟩ := runAt h8.run
  rw [rounds_succ]
  go_upto_region 0 with fail
  go_quiet (fail)
  go_wp2
  go_end0
  exact ⟨rfl, ⟨g, o, c, P8.out.below ((below_drewN (Below.refl _ _) nq)), hgw⟩, h8.congr (fun _ _ => rfl), K8.out.drewN nq⟩
end Go.Proofs.YtcfngdnmpogaoaaGreat
