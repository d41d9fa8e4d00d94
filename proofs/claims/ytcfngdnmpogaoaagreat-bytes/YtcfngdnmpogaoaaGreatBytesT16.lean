import Derived.Test.YtcfngdnmpogaoaaGreatBytesT15
import Derived.Test.YtcfngdnmpogaoaaGreatBytesT14

/-
  The window slides: the one pane leaves.
-/
namespace Go.Proofs.YtcfngdnmpogaoaaGreat
open Go.RowKit Go.MuLone

theorem enterTL : ∀ (vs : Array Value) (w : World), (callFunc 208 vs).run Tryz.prog w = .ok (.enter 208 vs) w := enters_of Tryz.func208 (by kernel_rfl) rfl
theorem enterBL : ∀ (vs : Array Value) (w : World), (callFunc 210 vs).run Tryz.prog w = .ok (.enter 210 vs) w := enters_of Tryz.func210 (by kernel_rfl) rfl
theorem enterGL : ∀ (vs : Array Value) (w : World), (callFunc 214 vs).run Tryz.prog w = .ok (.enter 214 vs) w := enters_of Tryz.func214 (by kernel_rfl) rfl

set_option maxRecDepth 20000 in
set_option maxHeartbeats 6400000 in
/-- The one pane of a run leaves the window. -/
theorem leaveAt_one (R P M b pg po pc tag g o c : Nat) (key : ByteArray) (next first last count sum least greatest start cnt sm : Int) (w : World) (ht : tag < 4294967296)
    (h : Slid w R P M b pg po pc key 1 next first last count sum least greatest tag) (hI : PartsIn w b cnt sm least greatest tag g o c)
    (hls : last < start) (hne : ∀ k, (k = R ∨ k = P ∨ k = M ∨ k = b + 3 ∨ k = pg) → k ≠ b ∧ k ≠ b + 1 ∧ k ≠ b + 2) (hRne : ∀ k, (k = P ∨ k = M ∨ k = b + 3 ∨ k = pg) → k ≠ R) :
    Calls Tryz.prog 104 #[.pointer (some ⟨R, 0, none⟩), .int .i64 start] w fun e w' => e = .returned (.tuple #[]) ∧ (∃ pa pn, w'.heap[R]? = some (.cells (runCells key (.slice pa 0 pn) 0 next (.slice (some ⟨b + 3, 0, none⟩) 3 3)) 178 (0, 0))) ∧ Kept (fun k => k = R ∨ k = b ∨ k = b + 1 ∨ k = b + 2 ∨ k = pg) w w' := by
  have hd : decide (last < start) = true := by simpa using hls
  have hMb : M ≠ b + 2 := (hne M (by simp)).2.2
  have hPb : P ≠ b := (hne P (by simp)).1
  have hc : 1 ≤ c := by
    rcases hI.row with ⟨h, _⟩ | ⟨_, _, _, _, _, h, _, h2, _⟩
    · simp at h
    · injection h with _ h3 h4; omega
  have hpc : 1 ≤ pc := by
    rcases h.panes with ⟨h, _⟩ | ⟨_, _, _, _, _, h, _, h2, _⟩
    · simp at h
    · injection h with _ h3 h4; omega
  have na0 : ∀ W : World, (nilAhead 396 212 (.pointer (some ⟨b, 0, none⟩)) "sill/sill.leave").run Tryz.prog W = .ok (some false) W := fun _ => by kernel_rfl
  have me0 : ∀ W : World, (method 396 212 (.pointer (some ⟨b, 0, none⟩)) "sill/sill.leave").run Tryz.prog W = .ok (208, .pointer (some ⟨b, 0, none⟩)) W := fun _ => by kernel_rfl
  have ec0 := enterTL
  have na1 : ∀ W : World, (nilAhead 396 215 (.pointer (some ⟨b + 1, 0, none⟩)) "sill/sill.leave").run Tryz.prog W = .ok (some false) W := fun _ => by kernel_rfl
  have me1 : ∀ W : World, (method 396 215 (.pointer (some ⟨b + 1, 0, none⟩)) "sill/sill.leave").run Tryz.prog W = .ok (210, .pointer (some ⟨b + 1, 0, none⟩)) W := fun _ => by kernel_rfl
  have ec1 := enterBL
  have na2 : ∀ W : World, (nilAhead 396 218 (.map (some (b + 2))) "sill/sill.leave").run Tryz.prog W = .ok (some false) W := fun _ => by kernel_rfl
  have me2 : ∀ W : World, (method 396 218 (.map (some (b + 2))) "sill/sill.leave").run Tryz.prog W = .ok (214, .map (some (b + 2))) W := fun _ => by kernel_rfl
  have ec2 := enterGL
  have hgb : g ≠ b := ne_of_objs (hI.row.blk_lt (k := g) rfl).2.choose_spec hI.tot (by simp)
  have hgb1 : g ≠ b + 1 := ne_of_objs (hI.row.blk_lt (k := g) rfl).2.choose_spec hI.bnd (by simp)
  obtain ⟨r0, r1, r2, r3, r4, rf⟩ := runAt h.run
  obtain ⟨-, c1, -, -, -, -, -, -⟩ := paneAt h.pane
  have hq := h.q
  go_enter Tryz.func104, Tryz.ntmps104
  go_wp2_with fail
  refine wp_loop_rounds 2 ?_
  rw [rounds_succ]
  go_upto_region 2 with fail
  clear r0 r1 r2 r3 r4 rf c1 hq hd
  refine wp_loop_rounds 4 ?_
  have p0 := blkCell h.all (i := 0) rfl
  obtain ⟨r0, r1, r2, r3, r4, rf⟩ := runAt h.run
  rw [rounds_succ]
  go_upto_region 4 with fail
  clear r0 r1 r2 r3 r4 rf p0
  refine wp_region_still_tail 10 (by kernel_rfl) (by kernel_rfl) ?_
  simp only [List.take_succ_cons, List.take_zero, List.drop_succ_cons, List.drop_zero]
  change wpStill Tryz.prog _ w.drew (fun a' => wpList Tryz.prog _ _ _ a' w.drew) _ _
  have h2 := h.congr (w' := w.drew) (fun _ _ => rfl)
  have I2 := hI.below (w' := w.drew) ((Below.refl _ w).drew)
  have K2 : Hid (Kept (fun k => k = R ∨ k = b ∨ k = b + 1 ∨ k = b + 2 ∨ k = pg) w w.drew) := (Kept.refl _ w).drew
  clear h hI
  generalize w.drew = W2 at *
  obtain ⟨r0, r1, r2, r3, r4, rf⟩ := runAt h2.run
  have hq := h2.q
  repeat still_step
  refine wpStill_nil ?_
  go_wp2_with fail
  clear r0 r1 r2 r3 r4 rf hq
  refine (total_leave b P M cnt sm first last count sum least greatest W2 I2.tot h2.pane hPb).mono ?_
  rintro e W3 ⟨rfl, -, hk3⟩
  have h3 := h2.kept hk3 (fun k hk hh => (hne k hk).1 hh)
  have hbn3 := (hk3.block (b + 1) (blkLt I2.bnd) (by simp)).trans I2.bnd
  have htg3 := ownsMap_block I2.tags (hk3.block (b + 2) I2.tags.lt (by simp))
  have hr3 := I2.row.congr (w' := W3) (fun k hk => hk3.block k (I2.row.blk_lt hk).1 (fun hh => by simp only [Value.ownBlock, Option.some.injEq] at hk; omega))
  have K3 : Hid (Kept (fun k => k = R ∨ k = b ∨ k = b + 1 ∨ k = b + 2 ∨ k = pg) w W3) := K2.out.step hk3 (fun k _ hh => .inr (.inl hh))
  clear hk3 h2 I2 K2 na0 me0 ec0
  go_wp2_with fail
  have p1 := blkCell h3.all (i := 1) rfl
  obtain ⟨r0, r1, r2, r3, r4, rf⟩ := runAt h3.run
  rw [rounds_succ]
  go_upto_region 4 with fail
  clear r0 r1 r2 r3 r4 rf p1
  refine wp_region_still_tail 10 (by kernel_rfl) (by kernel_rfl) ?_
  simp only [List.take_succ_cons, List.take_zero, List.drop_succ_cons, List.drop_zero]
  change wpStill Tryz.prog _ W3.drew (fun a' => wpList Tryz.prog _ _ _ a' W3.drew) _ _
  have h4 := h3.congr (w' := W3.drew) (fun _ _ => rfl)
  have hbn4 : W3.drew.heap[b + 1]? = some (.cells #[.slice (some ⟨g, o, none⟩) 1 c, .slice none 0 0] 240 (0, 0)) := hbn3
  have hr4 := hr3.congr (w' := W3.drew) (fun _ _ => rfl)
  have htg4 := ownsMap_block (w' := W3.drew) htg3 rfl
  have K4 : Hid (Kept (fun k => k = R ∨ k = b ∨ k = b + 1 ∨ k = b + 2 ∨ k = pg) w W3.drew) := K3.out.drew
  clear h3 hbn3 htg3 hr3 K3
  generalize W3.drew = W4 at *
  obtain ⟨r0, r1, r2, r3, r4, rf⟩ := runAt h4.run
  have hq := h4.q
  repeat still_step
  refine wpStill_nil ?_
  go_wp2_with fail
  clear r0 r1 r2 r3 r4 rf hq
  refine (bounds_leave (b + 1) g o c _ least greatest W4 hbn4 hc (hr4.cell 0 (by decide)) (hr4.cell 1 (by decide))).mono ?_
  rintro e W5 ⟨rfl, hk5⟩
  have h5 := h4.kept hk5 (fun k hk hh => (hne k hk).2.1 hh)
  have htg5 := ownsMap_block htg4 (hk5.block (b + 2) htg4.lt (by simp))
  have K5 : Hid (Kept (fun k => k = R ∨ k = b ∨ k = b + 1 ∨ k = b + 2 ∨ k = pg) w W5) := K4.out.step hk5 (fun k _ hh => .inr (.inr (.inl hh)))
  clear hk5 h4 hbn4 htg4 hr4 K4 na1 me1 ec1
  go_wp2_with fail
  have p2 := blkCell h5.all (i := 2) rfl
  obtain ⟨r0, r1, r2, r3, r4, rf⟩ := runAt h5.run
  rw [rounds_succ]
  go_upto_region 4 with fail
  clear r0 r1 r2 r3 r4 rf p2
  refine wp_region_still_tail 10 (by kernel_rfl) (by kernel_rfl) ?_
  simp only [List.take_succ_cons, List.take_zero, List.drop_succ_cons, List.drop_zero]
  change wpStill Tryz.prog _ W5.drew (fun a' => wpList Tryz.prog _ _ _ a' W5.drew) _ _
  have h6 := h5.congr (w' := W5.drew) (fun _ _ => rfl)
  have htg6 := ownsMap_block (w' := W5.drew) htg5 rfl
  have K6 : Hid (Kept (fun k => k = R ∨ k = b ∨ k = b + 1 ∨ k = b + 2 ∨ k = pg) w W5.drew) := K5.out.drew
  clear h5 htg5 K5
  generalize W5.drew = W6 at *
  obtain ⟨r0, r1, r2, r3, r4, rf⟩ := runAt h6.run
  have hq := h6.q
  repeat still_step
  refine wpStill_nil ?_
  go_wp2_with fail
  clear r0 r1 r2 r3 r4 rf hq
  refine (tags_leave (b + 2) P M tag first last count sum least greatest W6 ht h6.pane h6.tags htg6 hMb).mono ?_
  rintro e W7 ⟨rfl, hk7⟩
  have h7 := h6.kept hk7 (fun k hk hh => (hne k hk).2.2 hh)
  have K7 : Hid (Kept (fun k => k = R ∨ k = b ∨ k = b + 1 ∨ k = b + 2 ∨ k = pg) w W7) := K6.out.step hk7 (fun k _ hh => .inr (.inr (.inr (.inl hh))))
  clear hk7 h6 htg6 K6 na2 me2 ec2
  go_wp2_with fail
  rw [rounds_succ]
  obtain ⟨r0, r1, r2, r3, r4, rf⟩ := runAt h7.run
  have hq := h7.q
  have hfq : W7.frozen? ⟨pg, po, none⟩ = false := blkFrozen (h7.panes.blk_lt (k := pg) rfl).2.choose_spec po
  go_upto_region 7 with fail
  have hR8 := blkOther h7.run pg po (.pointer none) (fun e => hRne pg (by simp) e.symm)
  have K8 : Hid (Kept (fun k => k = R ∨ k = b ∨ k = b + 1 ∨ k = b + 2 ∨ k = pg) w (W7.setCell ⟨pg, po, none⟩ (.pointer none))) := K7.out.setCell ⟨pg, po, none⟩ _ (fun _ => .inr (.inr (.inr (.inr rfl))))
  clear r0 r1 r2 r3 r4 rf hq hfq h7 K7
  generalize W7.setCell ⟨pg, po, none⟩ (.pointer none) = W8 at *
  obtain ⟨r0, r1, r2, r3, r4, rf⟩ := runAt hR8
  have hpc' : (1 : Int) ≤ (pc : Int) := by omega
  go_upto_region 8 with fail
  generalize (if pc = 1 then some (⟨pg, po, none⟩ : Addr) else some ⟨pg, po + 1, none⟩) = pa
  have hR9 : (W8.setCell ⟨R, 1, none⟩ (.slice pa 0 (pc - 1))).heap[R]? = some (.cells (runCells key (.slice pa 0 (pc - 1)) 1 next (.slice (some ⟨b + 3, 0, none⟩) 3 3)) 178 (0, 0)) := blkPut hR8 1 _
  have K9 : Hid (Kept (fun k => k = R ∨ k = b ∨ k = b + 1 ∨ k = b + 2 ∨ k = pg) w (W8.setCell ⟨R, 1, none⟩ (.slice pa 0 (pc - 1)))) := K8.out.setCell ⟨R, 1, none⟩ _ (fun _ => .inl rfl)
  clear r0 r1 r2 r3 r4 rf hR8 K8
  generalize W8.setCell ⟨R, 1, none⟩ (.slice pa 0 (pc - 1)) = W9 at *
  obtain ⟨r0, r1, r2, r3, r4, rf⟩ := runAt hR9
  go_wp2_with fail
  have hRA : (W9.setCell ⟨R, 2, none⟩ (.int .i64 0)).heap[R]? = some (.cells (runCells key (.slice pa 0 (pc - 1)) 0 next (.slice (some ⟨b + 3, 0, none⟩) 3 3)) 178 (0, 0)) := blkPut hR9 2 _
  have KA : Hid (Kept (fun k => k = R ∨ k = b ∨ k = b + 1 ∨ k = b + 2 ∨ k = pg) w (W9.setCell ⟨R, 2, none⟩ (.int .i64 0))) := K9.out.setCell ⟨R, 2, none⟩ _ (fun _ => .inl rfl)
  clear r0 r1 r2 r3 r4 rf hR9 K9
  generalize W9.setCell ⟨R, 2, none⟩ (.int .i64 0) = WA at *
  obtain ⟨r0, r1, r2, r3, r4, rf⟩ := runAt hRA
  rw [rounds_succ]
  go_wp2
  go_end0
  exact ⟨rfl, ⟨_, _, hRA⟩, KA.out⟩
end Go.Proofs.YtcfngdnmpogaoaaGreat

/-
  The window of 'known' slides over its one pane.
-/
namespace Go.Proofs.YtcfngdnmpogaoaaGreat
open Go.RowKit Go.MuLone

theorem infoWin : (Tryz.prog.info? 70).map (fun i => (i.zero, i.size, i.bytes)) = some (some (.agg #[.string ⟨#[]⟩, .int .i64 0, .int .i64 0, .int .i64 0, .int .i64 0, .int .i64 0, .slice none 0 0]), 7, 80) := by kernel_rfl

set_option maxRecDepth 20000 in
set_option maxHeartbeats 6400000 in
theorem slide_one (g R P M b pg po pc : Nat) (r : SCells) (w : World) (hf : SF w g r) (hsz : r.size = 10) (hsl : r.slide = 10) (hlt : r.lt = 10)
    (h : Slid w R P M b pg po pc keyK 0 0 0 0 1 3 3 3 9) (hN : PartsNew w b)
    (hne : ∀ k, (k = R ∨ k = P ∨ k = M ∨ k = b + 3 ∨ k = pg) → k ≠ b ∧ k ≠ b + 1 ∧ k ≠ b + 2) (hRne : ∀ k, (k = P ∨ k = M ∨ k = b + 3 ∨ k = pg) → k ≠ R) (hgne : g ≠ R ∧ g ≠ b ∧ g ≠ b + 1 ∧ g ≠ b + 2 ∧ g ≠ pg) :
    Calls Tryz.prog 73 #[.pointer (some ⟨g, 0, none⟩), .slice none 0 0, .pointer (some ⟨R, 0, none⟩)] w fun e w' => ∃ og oo oc tg tc, e = .returned (.slice (some ⟨og, oo, none⟩) 1 oc) ∧
      Row w' 70 7 (.slice (some ⟨og, oo, none⟩) 1 oc) [.string keyK, .int .i64 0, .int .i64 1, .int .i64 3, .int .i64 3, .int .i64 3, .slice (some ⟨tg, 0, none⟩) 1 tc] ∧ Row w' 26 1 (.slice (some ⟨tg, 0, none⟩) 1 tc) [.int .u32 9] ∧
      w.heap.size ≤ og ∧ w.heap.size ≤ tg ∧ Kept (fun k => k = R ∨ k = b ∨ k = b + 1 ∨ k = b + 2 ∨ k = pg) w w' := by
  obtain ⟨i, hi, hz0, hz1, hz2⟩ := info_parts infoWin
  obtain ⟨r0, r1, r2, r3, r4, rf⟩ := runAt h.run
  go_enter Tryz.func73, Tryz.ntmps73
  go_wp2_with fail
  refine wp_loop_rounds 2 ?_
  rw [rounds_succ]
  go_wp2_with fail
  refine (nextStart_new R P M pg po pc keyK 0 0 0 1 3 3 3 _ w h.run h.q h.pane).mono ?_
  rintro e W ⟨rfl, rfl⟩
  go_wp2_with fail
  have hfin := isFinished_any g r 0 W hf (by rw [hsz]; decide)
  rw [hsz, hlt] at hfin
  refine hfin.mono ?_
  rintro e W1 ⟨rfl, m, rfl⟩
  clear hfin
  go_wp2_with fail
  have h1 := h.congr (w' := W.drewN m) (fun _ _ => rfl)
  have hN1 := hN.congr (w' := W.drewN m) (fun _ _ _ => rfl)
  have hf1 : SF (W.drewN m) g r := hf.congr rfl
  have K1 : Hid (Kept (fun k => k = R ∨ k = b ∨ k = b + 1 ∨ k = b + 2 ∨ k = pg) W (W.drewN m)) := (Kept.refl _ W).drewN m
  clear r0 r1 r2 r3 r4 rf h hN hf
  generalize W.drewN m = W1 at *
  refine (enterAt_one R P M b pg po pc 9 keyK 0 0 1 3 3 3 0 W1 (by decide) h1 hN1 (by decide) hne hRne).mono ?_
  rintro e W2 ⟨rfl, ⟨lg, lo, lc, I2, hlg⟩, h2, hk2⟩
  have hf2 : SF W2 g r := hf1.congr (hk2.block g hf1.lt (by obtain ⟨a1, a2, a3, a4, a5⟩ := hgne; simp [a1, a2, a3, a4]))
  have K2 : Hid (Kept (fun k => k = R ∨ k = b ∨ k = b + 1 ∨ k = b + 2 ∨ k = pg) W W2) := K1.out.step hk2 (fun k _ hh => by rcases hh with e | e | e | e <;> simp [e])
  have hlgW : W.heap.size ≤ lg := Nat.le_trans K1.out.size hlg
  have e1 : wrap64 (0 + 1) = 1 := by unfold wrap64; omega
  have e3 : wrap64 (0 + 3) = 3 := by unfold wrap64; omega
  rw [e1, e3] at I2
  clear hk2 h1 hN1 hf1 K1
  go_upto_region 5 with fail
  have h3 := h2.congr (w' := W2.drew) (fun _ _ => rfl)
  have I3 := I2.below (w' := W2.drew) ((Below.refl _ W2).drew)
  have hf3 : SF W2.drew g r := hf2.congr rfl
  have K3 : Hid (Kept (fun k => k = R ∨ k = b ∨ k = b + 1 ∨ k = b + 2 ∨ k = pg) W W2.drew) := K2.out.drew
  have hT : ∀ W' : World, PartsIn W' b 1 3 3 3 9 lg lo lc → Calls Tryz.prog 103 #[.string keyK, .int .i64 0, .slice (some ⟨b + 3, 0, none⟩) 3 3] W' fun e w' => ∃ tg tc, e = .returned (.agg #[.string keyK, .int .i64 0, .int .i64 1, .int .i64 3, .int .i64 3, .int .i64 3, .slice (some ⟨tg, 0, none⟩) 1 tc]) ∧
      Row w' 26 1 (.slice (some ⟨tg, 0, none⟩) 1 tc) [.int .u32 9] ∧ W'.heap.size ≤ tg ∧ Below W'.heap.size W' w' := by
    intro W' hI
    have := told_one keyK 0 b 9 lg lo lc 1 3 3 3 W' hI
    have m1 : minV (minV 9223372036854775807 3) 9223372036854775807 = 3 := by decide
    have m2 : maxV (maxV (-9223372036854775808) 3) (-9223372036854775808) = 3 := by decide
    rw [m1, m2] at this
    exact this
  obtain ⟨r0, r1, r2, r3, r4, rf⟩ := runAt h2.run
  have hRs := blkLt h2.run
  go_region_held3 (fun W' => W'.cell? ⟨R, 0, none⟩ = some (.string keyK) ∧ W'.cell? ⟨R, 4, none⟩ = some (.slice (some ⟨b + 3, 0, none⟩) 3 3)) (go_keep) (first
    | (go_at_call 103; refine (hT _ I3).mono ?_; rintro e w4 ⟨tg, tc, rfl, htr, htg, hb4⟩; have u4 : w4.cell? ⟨R, 0, none⟩ = some (.string keyK) := (hb4.cell (p := ⟨R, 0, none⟩) hRs).trans r0; have v4 : w4.cell? ⟨R, 4, none⟩ = some (.slice (some ⟨b + 3, 0, none⟩) 3 3) := (hb4.cell (p := ⟨R, 4, none⟩) hRs).trans r4; have hRs4 : R < w4.heap.size := Nat.lt_of_lt_of_le hRs hb4.size; have hRn4 : R ≠ w4.heap.size := Nat.ne_of_lt hRs4)
    | (refine step_append rfl _ _ _ _ rfl 70 i (.agg #[.string ⟨#[]⟩, .int .i64 0, .int .i64 0, .int .i64 0, .int .i64 0, .int .i64 0, .slice none 0 0]) 7 80 Tryz.underlying54 hi hz0 hz1 hz2 rfl (by decide) (.slice none 0 0) [] rfl (Row.nil _ _ _) (.slice (some ⟨w4.heap.size, 0, none⟩) 1 1) 1 [.string keyK, .int .i64 0, .int .i64 1, .int .i64 3, .int .i64 3, .int .i64 3, .slice (some ⟨tg, 0, none⟩) 1 tc] rfl ?_ Nat.one_pos ?_ ?_ ?_; exact Src.ofSlice _ Tryz.underlying54 ⟨w4.heap.size, 0, none⟩ 1 1 _ rfl (row_new w4 _ _) (by simp [Value.oneCell']); (simp only [maxLen, List.length_nil]; omega); (simp only [List.length_nil]; omega); intro sv w5 ha; have hsh := ha.row.shape (by simp); obtain ⟨og, oo, on, oc, rfl, hon, -⟩ := hsh; have hon1 : on = 1 := (by simp at hon; omega); subst hon1; have b5 : Below w4.heap.size w4 w5 := ((Below.refl w4.heap.size w4).alloc (Nat.le_refl _) _).trans (ha.below (B := w4.heap.size) (by intro g hg; simp [Value.ownBlock] at hg) (by simp)); have u5 : w5.cell? ⟨R, 0, none⟩ = some (.string keyK) := (b5.cell (p := ⟨R, 0, none⟩) hRs4).trans u4; have v5 : w5.cell? ⟨R, 4, none⟩ = some (.slice (some ⟨b + 3, 0, none⟩) 3 3) := (b5.cell (p := ⟨R, 4, none⟩) hRs4).trans v4))
  have B5 : Below W2.drew.heap.size W2.drew w5 := hb4.trans (b5.mono hb4.size)
  have h5 := h3.congr (w' := w5) (fun k hk => B5.block k (h3.lt k hk))
  have I5 := I3.below B5
  have hf5 : SF w5 g r := hf3.congr (B5.block g hf3.lt)
  have K5 : Hid (Kept (fun k => k = R ∨ k = b ∨ k = b + 1 ∨ k = b + 2 ∨ k = pg) W w5) := K3.out.trans (Kept.ofBelow B5 _)
  have Ho5 : Hid (Row w5 70 7 (.slice (some ⟨og, oo, none⟩) 1 oc) [.string keyK, .int .i64 0, .int .i64 1, .int .i64 3, .int .i64 3, .int .i64 3, .slice (some ⟨tg, 0, none⟩) 1 tc]) := ha.row
  have hog4 : w4.heap.size ≤ og := ha.blk (B := w4.heap.size) (by intro g hg; simp [Value.ownBlock] at hg) (by simp) og rfl
  have Ht5 : Hid (Row w5 26 1 (.slice (some ⟨tg, 0, none⟩) 1 tc) [.int .u32 9]) := htr.congr (fun k hk => b5.block k (htr.blk_lt hk).1)
  have hsz2 := K3.out.size
  have hz4 := hb4.size
  have hlt2 := h3.lt
  have hogW : W2.drew.heap.size ≤ og := by omega
  have htgW : W2.drew.heap.size ≤ tg := htg
  have hbs : b + 3 < W2.drew.heap.size := blkLt h3.all
  clear hb4 b5 B5 h3 I3 hf3 K3 ha htr htg h2 I2 hf2 K2 r0 r1 r2 r3 r4 rf u4 v4 u5 v5 hT
  generalize W2.drew = W3 at *
  obtain ⟨r0, r1, r2, r3, r4, rf⟩ := runAt h5.run
  have c3 : w5.cell? ⟨g, 3, none⟩ = some (.int .i64 10) := by rw [← hsl]; exact hf5.headAt 3 rfl
  go_upto_region 7 with fail
  have h6 : Slid (w5.setCell ⟨R, 3, none⟩ (.int .i64 10)) R P M b pg po pc keyK 1 10 0 0 1 3 3 3 9 :=
    ⟨blkPut h5.run 3 _, h5.panes.congr (fun k hk => by simp only [Value.ownBlock, Option.some.injEq] at hk; subst hk; exact heap_setCell_other _ _ _ _ (hRne pg (by simp))), blkOther h5.pane R 3 _ (hRne P (by simp)), ownsMap_block h5.tags (heap_setCell_other (k := M) _ _ _ (hRne M (by simp))), blkOther h5.all R 3 _ (hRne (b + 3) (by simp))⟩
  have hbR : b ≠ R := fun e => (hne R (by simp)).1 e.symm
  have hbR1 : b + 1 ≠ R := fun e => (hne R (by simp)).2.1 e.symm
  have hbR2 : b + 2 ≠ R := fun e => (hne R (by simp)).2.2 e.symm
  have hgR : lg ≠ R := ne_of_objs (I5.row.blk_lt (k := lg) rfl).2.choose_spec h5.run (by simp)
  have I6 : PartsIn (w5.setCell ⟨R, 3, none⟩ (.int .i64 10)) b 1 3 3 3 9 lg lo lc :=
    ⟨blkOther I5.tot R 3 _ hbR, blkOther I5.bnd R 3 _ hbR1, I5.row.congr (fun k hk => by simp only [Value.ownBlock, Option.some.injEq] at hk; subst hk; exact heap_setCell_other _ _ _ _ hgR), ownsMap_block I5.tags (heap_setCell_other (k := b + 2) _ _ _ hbR2), h6.all⟩
  have hRW : R < W3.heap.size := hlt2 R (by simp)
  have hpW : pg < W3.heap.size := hlt2 pg (by simp)
  have hogR : og ≠ R := by omega
  have htgR : tg ≠ R := by omega
  have Ho6 : Hid (Row (w5.setCell ⟨R, 3, none⟩ (.int .i64 10)) 70 7 (.slice (some ⟨og, oo, none⟩) 1 oc) [.string keyK, .int .i64 0, .int .i64 1, .int .i64 3, .int .i64 3, .int .i64 3, .slice (some ⟨tg, 0, none⟩) 1 tc]) := Ho5.out.congr (fun k hk => by simp only [Value.ownBlock, Option.some.injEq] at hk; subst hk; exact heap_setCell_other _ _ _ _ hogR)
  have Ht6 : Hid (Row (w5.setCell ⟨R, 3, none⟩ (.int .i64 10)) 26 1 (.slice (some ⟨tg, 0, none⟩) 1 tc) [.int .u32 9]) := Ht5.out.congr (fun k hk => by simp only [Value.ownBlock, Option.some.injEq] at hk; subst hk; exact heap_setCell_other _ _ _ _ htgR)
  have K6 : Hid (Kept (fun k => k = R ∨ k = b ∨ k = b + 1 ∨ k = b + 2 ∨ k = pg) W (w5.setCell ⟨R, 3, none⟩ (.int .i64 10))) := K5.out.setCell ⟨R, 3, none⟩ _ (fun _ => .inl rfl)
  clear r0 r1 r2 r3 r4 rf c3 h5 I5 hf5 K5 Ho5 Ht5
  generalize w5.setCell ⟨R, 3, none⟩ (.int .i64 10) = W6 at *
  obtain ⟨r0, r1, r2, r3, r4, rf⟩ := runAt h6.run
  go_wp2_with fail
  clear r0 r1 r2 r3 r4 rf
  refine (leaveAt_one R P M b pg po pc 9 lg lo lc keyK 10 0 0 1 3 3 3 10 1 3 W6 (by decide) h6 I6 (by decide) hne hRne).mono ?_
  rintro e W7 ⟨rfl, ⟨pa, pn, hR7⟩, hk7⟩
  have Ho7 : Hid (Row W7 70 7 (.slice (some ⟨og, oo, none⟩) 1 oc) [.string keyK, .int .i64 0, .int .i64 1, .int .i64 3, .int .i64 3, .int .i64 3, .slice (some ⟨tg, 0, none⟩) 1 tc]) := Ho6.out.congr (fun k hk => hk7.block k (Ho6.out.blk_lt hk).1 (fun hh => by simp only [Value.ownBlock, Option.some.injEq] at hk; omega))
  have Ht7 : Hid (Row W7 26 1 (.slice (some ⟨tg, 0, none⟩) 1 tc) [.int .u32 9]) := Ht6.out.congr (fun k hk => hk7.block k (Ht6.out.blk_lt hk).1 (fun hh => by simp only [Value.ownBlock, Option.some.injEq] at hk; omega))
  have K7 : Hid (Kept (fun k => k = R ∨ k = b ∨ k = b + 1 ∨ k = b + 2 ∨ k = pg) W W7) := K6.out.trans hk7
  clear hk7 h6 I6 K6 Ho6 Ht6
  obtain ⟨r0, r1, r2, r3, r4, rf⟩ := runAt hR7
  go_wp2_with fail
  rw [rounds_succ]
  go_wp2
  go_ret
  exact ⟨og, oo, oc, tg, tc, rfl, Ho7.out, Ht7.out, by omega, by omega, K7.out⟩
end Go.Proofs.YtcfngdnmpogaoaaGreat

/-
  What 'known' takes: its one window.
-/
namespace Go.Proofs.YtcfngdnmpogaoaaGreat
open Go.RowKit Go.MuLone

theorem insCmp_one (v f : Value) (w : World) :
    Calls Tryz.prog 130 #[v, .int .i64 0, .int .i64 1, f] w fun e w' => e = .returned (.tuple #[]) ∧ w' = w := by
  go_enter Tryz.func130, Tryz.ntmps130
  go_wp2
  refine wp_loop_rounds 1 ?_
  rw [rounds_succ]
  go_wp2
  go_end0
  exact ⟨rfl, rfl⟩

theorem pdqCmp_one (v f : Value) (limit : Value) (w : World) :
    Calls Tryz.prog 105 #[v, .int .i64 0, .int .i64 1, limit, f] w fun e w' => e = .returned (.tuple #[]) ∧ w' = w := by
  go_enter Tryz.func105, Tryz.ntmps105
  go_wp2
  refine wp_loop_rounds 1 ?_
  rw [rounds_succ]
  go_wp2_with fail
  refine (insCmp_one _ _ _).mono ?_
  rintro e W ⟨rfl, rfl⟩
  go_wp2
  exact bodyPost_ret (results_none rfl _ _ _) rfl ⟨rfl, rfl⟩

theorem sortFunc_one (p : Option Addr) (c : Nat) (f : Value) (w : World) : Calls Tryz.prog 74 #[.slice p 1 c, f] w fun e w' => e = .returned (.tuple #[]) ∧ w' = w := by
  go_enter Tryz.func74, Tryz.ntmps74
  go_wp2_with fail
  refine (len_one _).mono ?_
  rintro e W ⟨⟨v, rfl⟩, rfl⟩
  go_wp2_with fail
  refine (pdqCmp_one _ _ _ _).mono ?_
  rintro e W2 ⟨rfl, rfl⟩
  go_wp2
  go_end0
  exact ⟨rfl, rfl⟩

/-- The run of 'known', as it slides. -/
theorem One.slid {w : World} {R P M b : Nat} {pv : Value} (h : One w R P M b pv keyK 0 0 1 3 3 3 1 DK) : ∃ pg po pc, pv = .slice (some ⟨pg, po, none⟩) 1 pc ∧ Slid w R P M b pg po pc keyK 0 0 0 0 1 3 3 3 9 ∧
    (∀ k, (k = R ∨ k = P ∨ k = M ∨ k = b + 3 ∨ k = pg) → k ≠ b ∧ k ≠ b + 1 ∧ k ≠ b + 2) ∧ (∀ k, (k = P ∨ k = M ∨ k = b + 3 ∨ k = pg) → k ≠ R) := by
  obtain ⟨pg, po, pn, pc, rfl, hn, -⟩ := h.panes.shape (by simp)
  have hn1 : pn = 1 := by simp at hn; omega
  subst hn1
  have hM := h.tags
  obtain ⟨es, cl, hm, -⟩ := hM
  obtain ⟨cu, hpg⟩ := (h.panes.blk_lt (k := pg) rfl).2
  refine ⟨pg, po, pc, rfl, ⟨h.run, h.panes, h.pane, h.tags, h.parts.all⟩, ?_, ?_⟩
  · rintro k (rfl | rfl | rfl | rfl | rfl)
    · exact ⟨ne_of_objs h.run h.parts.tot (by simp), ne_of_objs h.run h.parts.bnd (by simp), ne_of_objs h.run h.parts.tag (by simp)⟩
    · exact ⟨ne_of_objs h.pane h.parts.tot (by simp), ne_of_objs h.pane h.parts.bnd (by simp), ne_of_objs h.pane h.parts.tag (by simp)⟩
    · exact ⟨ne_of_objs hm h.parts.tot (by simp), ne_of_objs hm h.parts.bnd (by simp), h.ne⟩
    · exact ⟨by omega, by omega, by omega⟩
    · exact ⟨ne_of_objs hpg h.parts.tot (by simp), ne_of_objs hpg h.parts.bnd (by simp), ne_of_objs hpg h.parts.tag (by simp)⟩
  · rintro k (rfl | rfl | rfl | rfl)
    · exact ne_of_objs h.pane h.run (by simp)
    · exact ne_of_objs hm h.run (by simp)
    · exact ne_of_objs h.parts.all h.run (by simp)
    · exact ne_of_objs hpg h.run (by simp)

/-- What a Take of 'known' leaves. -/
structure Taken (w w' : World) (og oo oc tg tc : Nat) : Prop where
  wins : Row w' 70 7 (.slice (some ⟨og, oo, none⟩) 1 oc) [.string keyK, .int .i64 0, .int .i64 1, .int .i64 3, .int .i64 3, .int .i64 3, .slice (some ⟨tg, 0, none⟩) 1 tc]
  tags : Row w' 26 1 (.slice (some ⟨tg, 0, none⟩) 1 tc) [.int .u32 9]
  og : w.heap.size ≤ og
  tg : w.heap.size ≤ tg

set_option maxRecDepth 20000 in
set_option maxHeartbeats 6400000 in
theorem takeFinished_one (g R P M b : Nat) (pv ev : Value) (r : SCells) (w : World) (h : OneF w g r ev R P M b pv keyK 0 0 1 3 3 3 1 DK) (hsz : r.size = 10) (hsl : r.slide = 10) (hlt : r.lt = 10) (hev : r.ended = ev) (hgo : Row w 150 1 r.going []) :
    Calls Tryz.prog 47 #[.pointer (some ⟨g, 0, none⟩)] w fun e w' => (∃ og oo oc tg tc, e = .returned (.slice (some ⟨og, oo, none⟩) 1 oc) ∧ Taken w w' og oo oc tg tc) ∧ SF w' g (r.setEnded (.slice none 0 0)) ∧
      Kept (fun k => k = g ∨ k = R ∨ k = b ∨ k = b + 1 ∨ k = b + 2 ∨ pv.ownBlock = some k) w w' := by
  obtain ⟨a1, a2⟩ := h.apart
  obtain ⟨pg, po, pc, rfl, hS, hne, hRne⟩ := h.one.slid
  obtain ⟨eg, eo, en, ec, rfl, hn, -⟩ := h.row.shape (by simp)
  have hn1 : en = 1 := by simp at hn; omega
  subst hn1
  obtain ⟨ga, gc, hgs⟩ : ∃ ga gc, r.going = .slice ga 0 gc := by
    rcases hgo with ⟨h1, -⟩ | ⟨_, _, n, cap, _, h1, _, _, _, _, h2, _⟩
    · exact ⟨_, _, h1⟩
    · have : n = 0 := by simpa using h2.symm
      subst this
      exact ⟨_, _, h1⟩
  have c49 : w.cell? ⟨g, 49, none⟩ = some (.slice (some ⟨eg, eo, none⟩) 1 ec) := by rw [← hev]; exact h.sf.tailAt 3 rfl
  have ce : w.cell? ⟨eg, eo, none⟩ = some (.pointer (some ⟨R, 0, none⟩)) := h.row.cell 0 (by decide)
  go_enter Tryz.func47, Tryz.ntmps47
  go_wp2_with fail
  refine wp_loop_rounds 2 ?_
  rw [rounds_succ]
  go_wp2_with fail
  refine (slide_one g R P M b pg po pc r w h.sf hsz hsl hlt hS h.one.parts hne hRne ?_).mono ?_
  · exact ⟨fun e => a2 R (by simp) e.symm, fun e => a2 b (by simp) e.symm, fun e => a2 (b + 1) (by simp) e.symm, fun e => a2 (b + 2) (by simp) e.symm, fun e => a2 pg (by simp [Value.ownBlock]) e.symm⟩
  rintro e W1 ⟨og, oo, oc, tg, tc, rfl, ho1, ht1, hog, htg, hk1⟩
  have hf1 : SF W1 g r := h.sf.congr (hk1.block g h.sf.lt (fun hh => by rcases hh with e | e | e | e | e; exact a2 R (by simp) e.symm; exact a2 b (by simp) e.symm; exact a2 (b + 1) (by simp) e.symm; exact a2 (b + 2) (by simp) e.symm; exact a2 pg (by simp [Value.ownBlock]) e.symm))
  have Ho1 : Hid (Row W1 70 7 (.slice (some ⟨og, oo, none⟩) 1 oc) [.string keyK, .int .i64 0, .int .i64 1, .int .i64 3, .int .i64 3, .int .i64 3, .slice (some ⟨tg, 0, none⟩) 1 tc]) := ho1
  have Ht1 : Hid (Row W1 26 1 (.slice (some ⟨tg, 0, none⟩) 1 tc) [.int .u32 9]) := ht1
  have K1 : Hid (Kept (fun k => k = g ∨ k = R ∨ k = b ∨ k = b + 1 ∨ k = b + 2 ∨ (Value.slice (some ⟨pg, po, none⟩) 1 pc).ownBlock = some k) w W1) := hk1.mono (fun k _ hh => by rcases hh with e | e | e | e | e <;> simp [e, Value.ownBlock])
  have hglt := h.sf.lt
  clear ho1 ht1 hk1 c49 ce
  have c48 : W1.cell? ⟨g, 48, none⟩ = some (.slice ga 0 gc) := by rw [← hgs]; exact hf1.tailAt 2 rfl
  have c49 : W1.cell? ⟨g, 49, none⟩ = some r.ended := hf1.tailAt 3 rfl
  have f49 := hf1.frozen 49
  go_wp2_with fail
  rw [rounds_succ]
  go_wp2_with fail
  refine wp_loop_rounds 1 ?_
  rw [rounds_succ]
  go_upto_region 13 with fail
  have hf2 : Hid (SF (W1.setCell ⟨g, 49, none⟩ (.slice none 0 0)) g (r.setEnded (.slice none 0 0))) := hf1.putEnded _
  have hogg : og ≠ g := by omega
  have htgg : tg ≠ g := by omega
  have T2 : Hid (Taken w (W1.setCell ⟨g, 49, none⟩ (.slice none 0 0)) og oo oc tg tc) :=
    ⟨Ho1.out.congr (fun k hk => by simp only [Value.ownBlock, Option.some.injEq] at hk; subst hk; exact heap_setCell_other _ _ _ _ hogg), Ht1.out.congr (fun k hk => by simp only [Value.ownBlock, Option.some.injEq] at hk; subst hk; exact heap_setCell_other _ _ _ _ htgg), hog, htg⟩
  have K2 : Hid (Kept (fun k => k = g ∨ k = R ∨ k = b ∨ k = b + 1 ∨ k = b + 2 ∨ (Value.slice (some ⟨pg, po, none⟩) 1 pc).ownBlock = some k) w (W1.setCell ⟨g, 49, none⟩ (.slice none 0 0))) := K1.out.setCell ⟨g, 49, none⟩ _ (fun _ => .inl rfl)
  clear c48 c49 f49 hf1 Ho1 Ht1 K1
  generalize W1.setCell ⟨g, 49, none⟩ (.slice none 0 0) = W2 at *
  go_wp2_with fail
  refine (sortFunc_one _ _ _ _).mono ?_
  rintro e W3 ⟨rfl, rfl⟩
  go_wp2
  go_ret
  exact ⟨⟨og, oo, oc, tg, tc, rfl, T2.out⟩, hf2.out, K2.out⟩
end Go.Proofs.YtcfngdnmpogaoaaGreat

/-
  Take, of 'known'.
-/
namespace Go.Proofs.YtcfngdnmpogaoaaGreat
open Go.RowKit Go.MuLone

set_option maxHeartbeats 1600000 in
theorem take_known (g R P M b : Nat) (pv ev gv : Value) (s0 : SSrc) (w : World) (h : OneK w g (kn s0 0 10 true gv ev 1 1) ev R P M b pv) (hgo : Row w 150 1 gv []) :
    Calls Tryz.prog 25 #[.pointer (some ⟨g, 0, none⟩)] w fun e w' => (∃ og oo oc tg tc, e = .returned (.slice (some ⟨og, oo, none⟩) 1 oc) ∧ Taken w w' og oo oc tg tc) ∧
      Kept (fun k => k = g ∨ k = R ∨ k = b ∨ k = b + 1 ∨ k = b + 2 ∨ pv.ownBlock = some k) w w' := by
  have h0 := h.sf.lockAt (k := 0) rfl
  have f0 := h.sf.frozen 0
  have K1 : Kept (fun k => k = g) w (w.setCell ⟨g, 0, none⟩ (.int .i32 1)) := (Kept.refl _ w).setCell ⟨g, 0, none⟩ _ (fun _ => rfl)
  have H1 : Hid (OneK (w.setCell ⟨g, 0, none⟩ (.int .i32 1)) g (kn s0 1 10 true gv ev 1 1) ev R P M b pv) := OneF.kept h K1 (h.sf.putLock 1)
  have hgg : ∀ k, gv.ownBlock = some k → k ≠ g := fun k hk e => by subst e; exact hgo.ne_block h.sf.blk (by decide) hk
  have G1 : Hid (Row (w.setCell ⟨g, 0, none⟩ (.int .i32 1)) 150 1 gv []) := hgo.congr (fun k hk => heap_setCell_other _ _ _ _ (hgg k hk))
  have hglt := h.sf.lt
  go_enter_defers Tryz.func25, Tryz.ntmps25
  go_wp2_with (go_at_call 42; refine (lock_free muLib ⟨g, 0, none⟩ _ h0 f0).mono ?_; rintro e w' ⟨rfl, rfl⟩)
  have hz1 : (w.setCell ⟨g, 0, none⟩ (.int .i32 1)).heap.size = w.heap.size := by simp
  generalize w.setCell ⟨g, 0, none⟩ (.int .i32 1) = W1 at *
  clear h0 f0 h hgo
  refine (takeFinished_one g R P M b pv ev _ W1 H1.out rfl rfl rfl rfl G1.out).mono ?_
  rintro e W2 ⟨⟨og, oo, oc, tg, tc, rfl, hT⟩, hf2, hk2⟩
  have T2 : Hid (Taken w W2 og oo oc tg tc) := ⟨hT.wins, hT.tags, by rw [← hz1]; exact hT.og, by rw [← hz1]; exact hT.tg⟩
  have K2 : Hid (Kept (fun k => k = g ∨ k = R ∨ k = b ∨ k = b + 1 ∨ k = b + 2 ∨ pv.ownBlock = some k) w W2) := (K1.mono (fun k _ hh => .inl hh)).trans hk2
  have H2 : Hid (SF W2 g ((kn s0 1 10 true gv ev 1 1).setEnded (.slice none 0 0))) := hf2
  clear hT hk2 hf2 H1 G1 K1
  go_wp2
  refine leaves_cons (f := 43) (args := #[.pointer (some ⟨g, 0, none⟩)]) (by simp) (by simp [go_sem]) ?_
  refine (unlock_deferred muLib ⟨g, 0, none⟩ .returning _ (H2.out.lockAt rfl) (H2.out.frozen _)).mono ?_
  rintro e u' w'' ⟨rfl, rfl, rfl⟩
  have hogg : og ≠ g := by have := T2.out.og; omega
  have htgg : tg ≠ g := by have := T2.out.tg; omega
  refine ⟨_, results_tmp rfl _ _ _, ⟨og, oo, oc, tg, tc, rfl, ⟨T2.out.wins.congr (fun k hk => by simp only [Value.ownBlock, Option.some.injEq] at hk; subst hk; exact heap_setCell_other _ _ _ _ hogg), T2.out.tags.congr (fun k hk => by simp only [Value.ownBlock, Option.some.injEq] at hk; subst hk; exact heap_setCell_other _ _ _ _ htgg), T2.out.og, T2.out.tg⟩⟩, K2.out.setCell ⟨g, 0, none⟩ _ (fun _ => .inl rfl)⟩
end Go.Proofs.YtcfngdnmpogaoaaGreat

/-
  The script's own helpers, at what 'known' asks.
-/
namespace Go.Proofs.YtcfngdnmpogaoaaGreat
open Go.RowKit Go.MuLone

theorem sameTags_one (a b c d t : Nat) (ao bo : Nat) (w : World) (ha : w.cell? ⟨a, ao, none⟩ = some (.int .u32 (t : Int))) (hb : w.cell? ⟨b, bo, none⟩ = some (.int .u32 (t : Int))) :
    Calls Tryz.prog 63 #[.slice (some ⟨a, ao, none⟩) 1 c, .slice (some ⟨b, bo, none⟩) 1 d] w fun e w' => e = .returned (.bool true) ∧ Below w.heap.size w w' := by
  go_enter Tryz.func63, Tryz.ntmps63
  go_wp2_with fail
  refine wp_loop_rounds 2 ?_
  rw [rounds_succ]
  go_upto_region 6 with fail
  go_quiet (fail)
  go_wp2_with fail
  rw [rounds_succ]
  go_wp2
  go_ret
  exact ⟨rfl, below_drewN (Below.refl _ w) nq⟩

set_option maxRecDepth 20000 in
set_option maxHeartbeats 1600000 in
theorem same_known (tg tc ug uc : Nat) (w : World) (ha : w.cell? ⟨tg, 0, none⟩ = some (.int .u32 ((9 : Nat) : Int))) (hb : w.cell? ⟨ug, 0, none⟩ = some (.int .u32 ((9 : Nat) : Int))) :
    Calls Tryz.prog 34 #[.agg #[.string keyK, .int .i64 0, .int .i64 1, .int .i64 3, .int .i64 3, .int .i64 3, .slice (some ⟨tg, 0, none⟩) 1 tc], .agg #[.string keyK, .int .i64 0, .int .i64 1, .int .i64 3, .int .i64 3, .int .i64 3, .slice (some ⟨ug, 0, none⟩) 1 uc]] w fun e w' => e = .returned (.bool true) ∧ Below w.heap.size w w' := by
  have hat := World.block_lt_of_cell? w ⟨tg, 0, none⟩ ha
  have hbt := World.block_lt_of_cell? w ⟨ug, 0, none⟩ hb
  go_enter Tryz.func34, Tryz.ntmps34
  go_upto_region 1 with fail
  obtain ⟨hA, hB⟩ := two_new w (.cells (wdCells keyK 0 1 3 3 3 (.slice (some ⟨tg, 0, none⟩) 1 tc)) 70) (.cells (wdCells keyK 0 1 3 3 3 (.slice (some ⟨ug, 0, none⟩) 1 uc)) 70)
  have B1 : Below w.heap.size w ((w.alloc (.cells (wdCells keyK 0 1 3 3 3 (.slice (some ⟨tg, 0, none⟩) 1 tc)) 70)).alloc (.cells (wdCells keyK 0 1 3 3 3 (.slice (some ⟨ug, 0, none⟩) 1 uc)) 70)) := ((Below.refl _ w).alloc (Nat.le_refl _) _).alloc (by simp) _
  have k1 := (B1.cell (p := ⟨tg, 0, none⟩) hat).trans ha
  have k2 := (B1.cell (p := ⟨ug, 0, none⟩) hbt).trans hb
  have HB1 : Hid _ := B1
  change Code.wp _ _ _ _ ((w.alloc (.cells (wdCells keyK 0 1 3 3 3 (.slice (some ⟨tg, 0, none⟩) 1 tc)) 70)).alloc (.cells (wdCells keyK 0 1 3 3 3 (.slice (some ⟨ug, 0, none⟩) 1 uc)) 70))
  generalize (w.alloc (.cells (wdCells keyK 0 1 3 3 3 (.slice (some ⟨tg, 0, none⟩) 1 tc)) 70)).alloc (.cells (wdCells keyK 0 1 3 3 3 (.slice (some ⟨ug, 0, none⟩) 1 uc)) 70) = W1 at *
  clear B1 ha hb
  obtain ⟨a0, a1, a2, a3, a4, a5, a6, -⟩ := wdAt hA
  obtain ⟨b0, b1, b2, b3, b4, b5, b6, -⟩ := wdAt hB
  go_wp2_with fail
  clear a0 a1 a2 a3 a4 a5 a6 b0 b1 b2 b3 b4 b5 b6
  refine (sameTags_one tg ug tc uc 9 0 0 W1 k1 k2).mono ?_
  rintro e W2 ⟨rfl, hb2⟩
  have hA2 := blkBelow hA hb2
  have hB2 := blkBelow hB hb2
  have hz := blkLt hA
  have HB2 : Hid (Below w.heap.size w W2) := HB1.out.trans (hb2.mono (Nat.le_of_lt hz))
  clear hA hB hb2 k1 k2 HB1 hz
  obtain ⟨a0, a1, a2, a3, a4, a5, a6, -⟩ := wdAt hA2
  obtain ⟨b0, b1, b2, b3, b4, b5, b6, -⟩ := wdAt hB2
  go_wp2
  go_ret
  exact ⟨rfl, HB2.out⟩
end Go.Proofs.YtcfngdnmpogaoaaGreat

/-
  'known' answers true.
-/
namespace Go.Proofs.YtcfngdnmpogaoaaGreat
open Go.RowKit Go.MuLone

set_option maxRecDepth 20000 in
set_option maxHeartbeats 1600000 in
theorem fed_known (g : Nat) (w : World) (h : SF w g (kn srcO 0 0 false (.slice none 0 0) (.slice none 0 0) 0 0)) :
    Calls Tryz.prog 24 #[.pointer (some ⟨g, 0, none⟩), .int .i64 0, itemV 1 keyK 5 3 ((9 : Nat) : Int)] w fun e w' => e = .returned (.bool true) ∧ (∃ R P M b pv gv, OneK w' g (kn (srcM 5) 0 5 true gv (.slice none 0 0) 1 0) gv R P M b pv ∧ NewAt w.heap.size R b pv gv) ∧ Kept (fun k => k = g) w w' := by
  have hglt := h.lt
  unfold itemV
  go_enter Tryz.func24, Tryz.ntmps24
  go_upto_region 1 with fail
  have hi1 := heap_alloc_new w (.cells #[.int .i64 1, .string keyK, .int .i64 5, .int .i64 3, .int .u32 ((9 : Nat) : Int)] 28)
  have B1 : Below w.heap.size w (w.alloc (.cells #[.int .i64 1, .string keyK, .int .i64 5, .int .i64 3, .int .u32 ((9 : Nat) : Int)] 28)) := (Below.refl _ w).alloc (Nat.le_refl _) _
  have H1 := h.below B1 hglt
  have HB1 : Hid _ := B1
  change Code.wp _ _ _ _ (w.alloc (.cells #[.int .i64 1, .string keyK, .int .i64 5, .int .i64 3, .int .u32 ((9 : Nat) : Int)] 28))
  generalize w.alloc (.cells #[.int .i64 1, .string keyK, .int .i64 5, .int .i64 3, .int .u32 ((9 : Nat) : Int)] 28) = W1 at *
  obtain ⟨i0, i1, i2, i3, i4⟩ := itemAt hi1
  clear B1 h
  go_wp2_with fail
  clear i0 i1 i2 i3 i4
  refine (frame_yes 1 keyK 5 3 9 W1 (by decide) eventK (by decide)).mono ?_
  rintro e W2 ⟨v', rfl, hr2, -, hb2⟩
  have H2 := H1.below hb2 H1.lt
  have hz1 := HB1.out.size
  have HB2 : Hid (Below w.heap.size w W2) := HB1.out.trans (hb2.mono hz1)
  clear hi1 H1 HB1 hb2
  go_wp2_with fail
  refine (feed_known1 g v' W2 H2 hr2).mono ?_
  rintro e W3 ⟨rfl, ⟨R, P, M, b, pv, gv, h3, hnew⟩, k3⟩
  have HN : Hid (NewAt w.heap.size R b pv gv) := hnew.mono HB2.out.size
  have H3 : Hid (OneK W3 g (kn (srcM 5) 0 5 true gv (.slice none 0 0) 1 0) gv R P M b pv) := h3
  have K3 : Hid (Kept (fun k => k = g) w W3) := (Kept.ofBelow HB2.out _).trans k3
  clear h3 hnew k3 H2 hr2
  go_wp2
  go_ret
  exact ⟨rfl, ⟨R, P, M, b, pv, gv, H3.out, HN.out⟩, K3.out⟩

set_option maxRecDepth 20000 in
set_option maxHeartbeats 3200000 in
theorem known_true (w : World) : Calls Tryz.prog 14 #[] w fun e w' => e = .returned (.bool true) ∧ Below w.heap.size w w' := by
  have hcf : isConf 10 10 0 1 := by unfold isConf; decide
  go_enter Tryz.func14, Tryz.ntmps14
  go_wp2_with fail
  refine (flow_any 10 10 0 1 w hcf).mono ?_
  rintro e W1 ⟨g, hg, rfl, hf1, hb1⟩
  have H1 : SF W1 g (kn srcO 0 0 false (.slice none 0 0) (.slice none 0 0) 0 0) := hf1
  have HB1 : Hid (Below w.heap.size w W1) := hb1
  clear hf1 hb1
  go_wp2_with fail
  refine (fed_known g W1 H1).mono ?_
  rintro e W2 ⟨rfl, ⟨R, P, M, b, pv, gv, h2, hnew⟩, k2⟩
  have HN : Hid (NewAt w.heap.size R b pv gv) := hnew.mono HB1.out.size
  have HB2 : Hid (Below w.heap.size w W2) := HB1.out.trans (k2.toBelow HB1.out.size (fun k hk e => by omega))
  clear hnew k2 H1 HB1
  go_wp2_with fail
  refine (mark_any 10 W2).mono ?_
  rintro e W3 ⟨bv, rfl, hr3, -, hb3⟩
  have h3 := OneF.kept h2 (Kept.ofBelow hb3 _) (h2.sf.below hb3 h2.sf.lt)
  have HB3 : Hid (Below w.heap.size w W3) := HB2.out.trans (hb3.mono HB2.out.size)
  clear h2 hb3 HB2
  go_wp2_with fail
  refine (feed_known2 g bv W3 R P M b pv gv h3 hr3).mono ?_
  rintro e W4 ⟨rfl, ⟨ev, gv', h4, hg4⟩, k4⟩
  have HB4 : Hid (Below w.heap.size w W4) := HB3.out.trans (k4.toBelow HB3.out.size (fun k hk hh => by
    rcases hh with e | e
    · omega
    · have := HN.out.2.2.2 k e; omega))
  clear h3 k4 hr3 HB3
  go_wp2_with fail
  refine (take_known g R P M b pv ev gv' _ W4 h4 hg4).mono ?_
  rintro e W5 ⟨⟨og, oo, oc, tg, tc, rfl, hT⟩, k5⟩
  have HB5 : Hid (Below w.heap.size w W5) := HB4.out.trans (k5.toBelow HB4.out.size (fun k hk hh => by
    have h1 := HN.out.1
    have h2 := HN.out.2.1
    rcases hh with e | e | e | e | e | e
    · omega
    · omega
    · omega
    · omega
    · omega
    · have := HN.out.2.2.1 k e; omega))
  clear k5 h4 hg4 HB4 HN
  have t0 : W5.cell? ⟨tg, 0, none⟩ = some (.int .u32 ((9 : Nat) : Int)) := hT.tags.cell 0 (by decide)
  have l0 : W5.cell? ⟨og, oo, none⟩ = some (.string keyK) := hT.wins.cell 0 (by decide)
  have l1 : W5.cell? ⟨og, oo + 1, none⟩ = some (.int .i64 0) := hT.wins.cell 1 (by decide)
  have l2 : W5.cell? ⟨og, oo + 2, none⟩ = some (.int .i64 1) := hT.wins.cell 2 (by decide)
  have l3 : W5.cell? ⟨og, oo + 3, none⟩ = some (.int .i64 3) := hT.wins.cell 3 (by decide)
  have l4 : W5.cell? ⟨og, oo + 4, none⟩ = some (.int .i64 3) := hT.wins.cell 4 (by decide)
  have l5 : W5.cell? ⟨og, oo + 5, none⟩ = some (.int .i64 3) := hT.wins.cell 5 (by decide)
  have l6 : W5.cell? ⟨og, oo + 6, none⟩ = some (.slice (some ⟨tg, 0, none⟩) 1 tc) := hT.wins.cell 6 (by decide)
  have htlt := World.block_lt_of_cell? W5 ⟨tg, 0, none⟩ t0
  go_wp2_with fail
  have x0 := blkCell (heap_alloc_new W5 (.cells #[.int .u32 9] 26)) (i := 0) rfl
  have B6 : Below W5.heap.size W5 (W5.alloc (.cells #[.int .u32 9] 26)) := (Below.refl _ W5).alloc (Nat.le_refl _) _
  have HB6 : Hid (Below w.heap.size w (W5.alloc (.cells #[.int .u32 9] 26))) := HB5.out.trans (B6.mono HB5.out.size)
  refine (same_known tg tc W5.heap.size 1 _ ((B6.cell (p := ⟨tg, 0, none⟩) htlt).trans t0) x0).mono ?_
  rintro e W7 ⟨rfl, hb7⟩
  have HB7 : Hid (Below w.heap.size w W7) := HB6.out.trans (hb7.mono HB6.out.size)
  clear hb7 B6 HB6 HB5 hT t0 l0 l1 l2 l3 l4 l5 l6 x0
  go_wp2
  go_ret
  exact ⟨rfl, HB7.out⟩
end Go.Proofs.YtcfngdnmpogaoaaGreat
