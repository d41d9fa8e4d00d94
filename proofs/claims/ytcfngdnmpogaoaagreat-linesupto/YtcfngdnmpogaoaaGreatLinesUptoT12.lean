import Derived.Test.YtcfngdnmpogaoaaGreatLinesUptoT11
import Derived.Lib.SliceRun
import Derived.Deep.CutBlock

/-
  The first event of a flow, done: doEvent.
-/
namespace Go.Proofs.YtcfngdnmpogaoaaGreat
open Go.RowKit Go.MuLone

def SCells.addTaken (r : SCells) : SCells := { r with n := { r.n with taken := wrap64 (r.n.taken + 1) } }

/-- What keeps a flow's cells and one run beside it. -/
structure OneF (w : World) (g : Nat) (r : SCells) (gv : Value) (R P M b : Nat) (pv : Value) (key : ByteArray) (first last count sum least greatest : Int) (n : Nat) (D : DataW Unit) : Prop where
  sf : SF w g r
  row : Row w 150 1 gv [.pointer (some ⟨R, 0, none⟩)]
  one : One w R P M b pv key first last count sum least greatest n D

theorem OneF.apart {w : World} {g : Nat} {r : SCells} {gv : Value} {R P M b : Nat} {pv : Value} {key : ByteArray} {first last count sum least greatest : Int} {n : Nat} {D : DataW Unit} (h : OneF w g r gv R P M b pv key first last count sum least greatest n D) :
    (∀ k, gv.ownBlock = some k → k ≠ g) ∧ (∀ k, (k = R ∨ k = P ∨ k = M ∨ (b ≤ k ∧ k ≤ b + 3) ∨ pv.ownBlock = some k) → k ≠ g) := by
  have hne : ∀ (k : Nat) (cs : Array Value) (t : TypeId) (f : Nat × Nat), w.heap[k]? = some (.cells cs t f) → t ≠ 116 → k ≠ g := by
    rintro k cs t f hk ht rfl
    rw [h.sf.blk] at hk
    simp only [Option.some.injEq, Obj.cells.injEq] at hk
    exact ht hk.2.1.symm
  have hmap : ∀ (k : Nat) es c, w.heap[k]? = some (.map es c) → k ≠ g := by
    rintro k es c hk rfl
    rw [h.sf.blk] at hk
    cases hk
  refine ⟨fun k hk e => ?_, ?_⟩
  · subst e; exact h.row.ne_block h.sf.blk (by decide) hk
  · rintro k (rfl | rfl | rfl | ⟨h1, h2⟩ | h2)
    · exact hne _ _ _ _ h.one.run (by decide)
    · exact hne _ _ _ _ h.one.pane (by decide)
    · obtain ⟨es, c, hm, _⟩ := h.one.tags
      exact hmap _ _ _ hm
    · have : k = b ∨ k = b + 1 ∨ k = b + 2 ∨ k = b + 3 := by omega
      rcases this with rfl | rfl | rfl | rfl
      · exact hne _ _ _ _ h.one.parts.tot (by decide)
      · exact hne _ _ _ _ h.one.parts.bnd (by decide)
      · exact hmap _ _ _ h.one.parts.tag
      · exact hne _ _ _ _ h.one.parts.all (by decide)
    · intro e; subst e; exact h.one.panes.ne_block h.sf.blk (by decide) h2

/-- The flow's own cells turned, or new blocks laid. -/
theorem OneF.kept {w w' : World} {g : Nat} {r r' : SCells} {gv : Value} {R P M b : Nat} {pv : Value} {key : ByteArray} {first last count sum least greatest : Int} {n : Nat} {D : DataW Unit} (h : OneF w g r gv R P M b pv key first last count sum least greatest n D)
    (hk : Kept (fun k => k = g) w w') (hs : SF w' g r') : OneF w' g r' gv R P M b pv key first last count sum least greatest n D := by
  obtain ⟨a1, a2⟩ := h.apart
  exact ⟨hs, h.row.congr (fun k hv => hk.block k (h.row.blk_lt hv).1 (a1 k hv)), h.one.congr (fun k hv => hk.block k (h.one.lt k hv) (a2 k hv))⟩

set_option maxRecDepth 20000 in
set_option maxHeartbeats 6400000 in
theorem doEvent_first (g n : Nat) (r : SCells) (s : SSrc) (key : ByteArray) (t v : Int) (tag : Nat) (w : World) (h : SF w g r) (hs : r.src[n]? = some s) (hg : r.going = .slice none 0 0) (hli : r.li = false) (hkeys : 1 ≤ r.keys) (ht : tag < 4294967296)
    (h1 : 1 ≤ r.slide) (h2 : r.slide ≤ r.size) (h3 : r.size ≤ 1099511627776) (t1 : -2305843009213693952 ≤ t - r.size) (t2 : t ≤ 2305843009213693952) :
    Calls Tryz.prog 99 #[.pointer (some ⟨g, 0, none⟩), .pointer (some ⟨g, 6 + n * 5, none⟩), itemV 1 key t v tag] w fun e w' => e = .returned (.tuple #[]) ∧ ∃ R P M b pv gv,
      OneF w' g ((r.addTaken.setGoing gv).setSrc n (s.raised t)) gv R P M b pv key (winFirst r.size r.slide t) (winLast r.slide t) (wrap64 (0 + 1)) (wrap64 (0 + v)) (minV 9223372036854775807 v) (maxV (-9223372036854775808) v) 1 ((DataW.map []).put (.int .u32 tag) (.agg [])) ∧ Kept (fun k => k = g) w w' ∧ NewAt w.heap.size R b pv gv := by
  unfold itemV
  have hglt := h.lt
  have hi1 := heap_alloc_new w (.cells #[.int .i64 1, .string key, .int .i64 t, .int .i64 v, .int .u32 (tag : Int)] 28)
  have H1 : Hid (SF (w.alloc (.cells #[.int .i64 1, .string key, .int .i64 t, .int .i64 v, .int .u32 (tag : Int)] 28)) g r) := h.congr (Below.heap_alloc _ _ _ hglt)
  have K1 : Hid (Kept (fun k => k = g) w (w.alloc (.cells #[.int .i64 1, .string key, .int .i64 t, .int .i64 v, .int .u32 (tag : Int)] 28))) := (Kept.refl _ w).alloc _
  have hBs : w.heap.size < (w.alloc (.cells #[.int .i64 1, .string key, .int .i64 t, .int .i64 v, .int .u32 (tag : Int)] 28)).heap.size := by simp
  clear h
  have hlo : ¬ t < -2305843009213693952 := by omega
  have hhi : ¬ 2305843009213693952 < t := by omega
  go_enter Tryz.func99, Tryz.ntmps99
  go_upto_region 4 with fail
  have hgB : w.heap.size ≠ g := by omega
  generalize w.heap.size = B at *
  generalize w.alloc (.cells #[.int .i64 1, .string key, .int .i64 t, .int .i64 v, .int .u32 (tag : Int)] 28) = W1 at *
  have HI1 : Hid (W1.heap[B]? = some (.cells #[.int .i64 1, .string key, .int .i64 t, .int .i64 v, .int .u32 (tag : Int)] 28 (0, 0))) := hi1
  obtain ⟨d0, d1, d2, d3, d4⟩ := itemAt hi1
  clear hi1
  have q47 : W1.cell? ⟨g, 47, none⟩ = some (.bool false) := by rw [← hli]; exact H1.out.tailAt 1 rfl
  go_upto_region 6 with fail
  go_quiet (fail)
  have H2 : Hid (SF (W1.drewN nq) g r) := H1.out.congr (by simp)
  have K2 : Hid (Kept (fun k => k = g) w (W1.drewN nq)) := K1.out.drewN nq
  have HI2 : Hid ((W1.drewN nq).heap[B]? = some (.cells #[.int .i64 1, .string key, .int .i64 t, .int .i64 v, .int .u32 (tag : Int)] 28 (0, 0))) := by show _ = _; simpa using HI1.out
  generalize W1.drewN nq = W2 at *
  clear q47 d0 d1 d2 d3 d4 H1 K1 HI1
  obtain ⟨d0, d1, d2, d3, d4⟩ := itemAt HI2.out
  go_wp2_with fail
  refine (isFullFor_nil g r key W2 H2.out hg hkeys).mono ?_
  rintro e W3 ⟨rfl, m3, rfl⟩
  have H3 : Hid (SF (W2.drewN m3) g r) := H2.out.congr (by simp)
  have K3 : Hid (Kept (fun k => k = g) w (W2.drewN m3)) := K2.out.drewN m3
  have HI3 : Hid ((W2.drewN m3).heap[B]? = some (.cells #[.int .i64 1, .string key, .int .i64 t, .int .i64 v, .int .u32 (tag : Int)] 28 (0, 0))) := by show _ = _; simpa using HI2.out
  generalize W2.drewN m3 = W3 at *
  clear d0 d1 d2 d3 d4 H2 K2 HI2
  go_wp2_with fail
  refine (add_any g 50 r.n.taken 1 W3 (H3.out.tailAt 4 rfl) (H3.out.frozen _)).mono ?_
  rintro e W4 ⟨rfl, rfl⟩
  have H4 : Hid (SF (W3.setCell ⟨g, 50, none⟩ (.int .i64 (wrap64 (r.n.taken + 1)))) g r.addTaken) := H3.out.putTail 4 _ rfl rfl rfl
  have K4 : Hid (Kept (fun k => k = g) w (W3.setCell ⟨g, 50, none⟩ (.int .i64 (wrap64 (r.n.taken + 1))))) := K3.out.setCell ⟨g, 50, none⟩ _ (fun _ => rfl)
  have HI4 : Hid ((W3.setCell ⟨g, 50, none⟩ (.int .i64 (wrap64 (r.n.taken + 1)))).heap[B]? = some (.cells #[.int .i64 1, .string key, .int .i64 t, .int .i64 v, .int .u32 (tag : Int)] 28 (0, 0))) := blkOther HI3.out g 50 _ hgB
  generalize W3.setCell ⟨g, 50, none⟩ (.int .i64 (wrap64 (r.n.taken + 1))) = W4 at *
  obtain ⟨d0, d1, d2, d3, d4⟩ := itemAt HI4.out
  go_wp2_with fail
  refine (keep_first g r.addTaken key t v tag W4 H4.out hg ht h1 h2 h3 t1 t2).mono ?_
  rintro e W5 ⟨rfl, R, P, M, b, pv, gv, hsf, hgr, hone, k5, hnew⟩
  have HN : Hid (NewAt w.heap.size R b pv gv) := hnew.mono K4.out.size
  clear hnew
  have O5 : Hid (OneF W5 g (r.addTaken.setGoing gv) gv R P M b pv key (winFirst r.size r.slide t) (winLast r.slide t) (wrap64 (0 + 1)) (wrap64 (0 + v)) (minV 9223372036854775807 v) (maxV (-9223372036854775808) v) 1 ((DataW.map []).put (.int .u32 tag) (.agg []))) := ⟨hsf, hgr, hone⟩
  have HI5 : Hid (W5.heap[B]? = some (.cells #[.int .i64 1, .string key, .int .i64 t, .int .i64 v, .int .u32 (tag : Int)] 28 (0, 0))) := (k5.block B (blkLt HI4.out) hgB).trans HI4.out
  have K5 : Hid (Kept (fun k => k = g) w W5) := K4.out.trans k5
  clear hsf hgr hone k5 d0 d1 d2 d3 d4 H4 K4 HI4
  go_upto_region 3 with fail
  refine wp_region_still_tail 5 (by kernel_rfl) (by kernel_rfl) ?_
  simp only [List.take_succ_cons, List.take_zero, List.drop_succ_cons, List.drop_zero]
  change wpStill Tryz.prog _ W5.drew (fun a' => wpList Tryz.prog _ _ _ a' W5.drew) _ _
  have O6 : Hid (OneF W5.drew g (r.addTaken.setGoing gv) gv R P M b pv key (winFirst r.size r.slide t) (winLast r.slide t) (wrap64 (0 + 1)) (wrap64 (0 + v)) (minV 9223372036854775807 v) (maxV (-9223372036854775808) v) 1 ((DataW.map []).put (.int .u32 tag) (.agg []))) := O5.out.kept (Kept.drew (Kept.refl _ W5)) (O5.out.sf.congr rfl)
  have HI6 : Hid (W5.drew.heap[B]? = some (.cells #[.int .i64 1, .string key, .int .i64 t, .int .i64 v, .int .u32 (tag : Int)] 28 (0, 0))) := HI5.out
  have K6 : Hid (Kept (fun k => k = g) w W5.drew) := K5.out.drew
  generalize W5.drew = W6 at *
  obtain ⟨d0, d1, d2, d3, d4⟩ := itemAt HI6.out
  repeat still_step
  refine wpStill_nil ?_
  have c3 : W6.cell? ⟨g, 6 + n * 5 + 3, none⟩ = some (.int .i64 s.time) := O6.out.sf.cell (SCells.srcAt _ n 3 s hs (by omega))
  have c4 : W6.cell? ⟨g, 6 + n * 5 + 3 + 1, none⟩ = some (.bool s.is) := O6.out.sf.cell (SCells.srcAt _ n 4 s hs (by omega))
  by_cases hup : s.is = false ∨ s.time < t
  · have HQ : Hid (Calls Tryz.prog 98 #[.pointer (some ⟨g, 6 + n * 5 + 3, none⟩), .int .i64 t] W6 fun e w' => e = .returned (.tuple #[]) ∧ w' = (W6.setCell ⟨g, 6 + n * 5 + 3, none⟩ (.int .i64 t)).setCell ⟨g, 6 + n * 5 + 3 + 1, none⟩ (.bool true)) := raise_yes g _ s.time t s.is W6 c3 c4 O6.out.sf.frozen hup
    have HS : Hid (s.raised t = ⟨s.opened, s.broken, s.unread, t, true⟩) := by show _ = _; rw [SSrc.raised, if_pos hup]
    clear c3 c4 d0 d1 d2 d3 d4
    go_wp2_with fail
    refine HQ.out.mono ?_
    rintro e W7 ⟨rfl, rfl⟩
    have k7 : Kept (fun k => k = g) W6 ((W6.setCell ⟨g, 6 + n * 5 + 3, none⟩ (.int .i64 t)).setCell ⟨g, 6 + n * 5 + 3 + 1, none⟩ (.bool true)) := by
      refine Kept.setCell ?_ ⟨g, _, none⟩ _ (fun _ => rfl)
      refine Kept.setCell ?_ ⟨g, _, none⟩ _ (fun _ => rfl)
      exact Kept.refl _ W6
    have O7 := O6.out.kept k7 (O6.out.sf.putMoment n s t true hs)
    rw [← HS.out] at O7
    have HO7 : Hid _ := O7
    have K7 : Hid _ := K6.out.trans k7
    clear O7 k7
    go_wp2
    go_end0
    exact ⟨rfl, R, P, M, b, pv, gv, HO7.out, K7.out, HN.out⟩
  · have hsi : s.is = true := by cases h : s.is <;> simp [h] at hup ⊢
    have HQ : Hid (Calls Tryz.prog 98 #[.pointer (some ⟨g, 6 + n * 5 + 3, none⟩), .int .i64 t] W6 fun e w' => e = .returned (.tuple #[]) ∧ w' = W6) := raise_no g _ s.time t W6 c3 (by rw [c4, hsi]) (fun h => hup (.inr h))
    have HS : Hid ((r.addTaken.setGoing gv).setSrc n (s.raised t) = r.addTaken.setGoing gv) := by
      show _ = _
      rw [SSrc.raised, if_neg hup]
      exact setSrc_self _ _ _ hs
    clear c3 c4 d0 d1 d2 d3 d4
    go_wp2_with fail
    refine HQ.out.mono ?_
    rintro e W7 ⟨rfl, rfl⟩
    go_wp2
    go_end0
    exact ⟨rfl, R, P, M, b, pv, gv, by rw [HS.out]; exact O6.out, K6.out, HN.out⟩
end Go.Proofs.YtcfngdnmpogaoaaGreat

/-
  endRuns where one key is going on.
-/
namespace Go.Proofs.YtcfngdnmpogaoaaGreat
open Go.RowKit Go.MuLone

/-- Is the last window of the one run finished? -/
def SCells.past (r : SCells) (last : Int) : Bool := decide (last + r.size ≤ r.lt)

set_option maxRecDepth 20000 in
set_option maxHeartbeats 1600000 in
theorem ended_any (g B : Nat) (r : SCells) (gv : Value) (R P M b : Nat) (pv : Value) (key : ByteArray) (first last count sum least greatest : Int) (n : Nat) (D : DataW Unit) (w : World)
    (h : OneF w g r gv R P M b pv key first last count sum least greatest n D) (hB : w.cell? ⟨B, 0, none⟩ = some (.pointer (some ⟨g, 0, none⟩))) (hw : IntKind.i64.wrap (last + r.size) = last + r.size) :
    Calls Tryz.prog 142 #[.pointer (some ⟨R, 0, none⟩), .pointer (some ⟨B, 0, none⟩)] w fun e w' => e = .returned (.bool (r.past last)) ∧ ∃ m, w' = w.drewN m := by
  obtain ⟨-, r1, -, -, -, -⟩ := runAt h.one.run
  obtain ⟨pg, po, pn, pc, hpv, hpn, -⟩ := h.one.panes.shape (by simp)
  have hpn1 : pn = 1 := by simpa using hpn.symm
  subst hpn1
  have p0 : w.cell? ⟨pg, po, none⟩ = some (.pointer (some ⟨P, 0, none⟩)) := by have := h.one.panes; rw [hpv] at this; have := this.cell 0 (by omega); simpa using this
  rw [hpv] at r1
  obtain ⟨-, c1, -, -, -, -, -, -⟩ := paneAt h.one.pane
  have HF : Hid (∀ m, SF (w.drewN m) g r) := fun m => h.sf.congr (by simp)
  have hq := fun m => isFinished_any g r last (w.drewN m) (HF.out m) hw
  clear h
  unfold SCells.past
  go_enter Tryz.func142, Tryz.ntmps142
  go_wp2_with fail
  go_quiet ((go_at_call 101; exact Calls.quiet_of (hq _)))
  go_wp2
  go_ret
  exact ⟨rfl, nq, rfl⟩

set_option maxRecDepth 20000 in
set_option maxHeartbeats 1600000 in
theorem indexFunc_one (B : Nat) (R : Addr) (q : Bool) (gg go gc : Nat) (w : World) (hc : w.cell? ⟨gg, go, none⟩ = some (.pointer (some R)))
    (hf : Calls Tryz.prog 142 #[.pointer (some R), .pointer (some ⟨B, 0, none⟩)] w fun e w' => e = .returned (.bool q) ∧ ∃ m, w' = w.drewN m) :
    Calls Tryz.prog 160 #[.slice (some ⟨gg, go, none⟩) 1 gc, .func (.func 142) #[] #[.pointer (some ⟨B, 0, none⟩)]] w fun e w' => e = .returned (.int .i64 (if q then 0 else -1)) ∧ ∃ m, w' = w.drewN m := by
  go_enter Tryz.func160, Tryz.ntmps160
  go_wp2
  refine wp_loop_rounds 2 ?_
  rw [rounds_succ]
  go_wp2_with fail
  refine hf.mono ?_
  rintro e W ⟨rfl, m, rfl⟩
  cases q with
  | true =>
    go_wp2
    go_ret
    exact ⟨rfl, m, rfl⟩
  | false =>
    go_wp2
    rw [rounds_succ]
    go_wp2
    go_ret
    exact ⟨rfl, m, rfl⟩

set_option maxRecDepth 20000 in
set_option maxHeartbeats 1600000 in
theorem deleteFunc_no (B : Nat) (R : Addr) (gg go gc : Nat) (w : World) (hc : w.cell? ⟨gg, go, none⟩ = some (.pointer (some R)))
    (hf : Calls Tryz.prog 142 #[.pointer (some R), .pointer (some ⟨B, 0, none⟩)] w fun e w' => e = .returned (.bool false) ∧ ∃ m, w' = w.drewN m) :
    Calls Tryz.prog 143 #[.slice (some ⟨gg, go, none⟩) 1 gc, .func (.func 142) #[] #[.pointer (some ⟨B, 0, none⟩)]] w fun e w' => e = .returned (.slice (some ⟨gg, go, none⟩) 1 gc) ∧ ∃ m, w' = w.drewN m := by
  go_enter Tryz.func143, Tryz.ntmps143
  go_wp2_with fail
  refine (indexFunc_one B R false gg go gc w hc hf).mono ?_
  rintro e W ⟨rfl, m, rfl⟩
  simp only [Bool.false_eq_true, if_false]
  go_wp2
  go_ret
  exact ⟨rfl, m, rfl⟩

set_option maxRecDepth 20000 in
set_option maxHeartbeats 1600000 in
theorem deleteFunc_yes (B : Nat) (R : Addr) (gg go gc : Nat) (w : World) (hc : w.cell? ⟨gg, go, none⟩ = some (.pointer (some R))) (hz : w.frozen? ⟨gg, go, none⟩ = false) (hcap : 1 ≤ gc)
    (hf : Calls Tryz.prog 142 #[.pointer (some R), .pointer (some ⟨B, 0, none⟩)] w fun e w' => e = .returned (.bool true) ∧ ∃ m, w' = w.drewN m) :
    Calls Tryz.prog 143 #[.slice (some ⟨gg, go, none⟩) 1 gc, .func (.func 142) #[] #[.pointer (some ⟨B, 0, none⟩)]] w fun e w' => e = .returned (.slice (some ⟨gg, go, none⟩) 0 gc) ∧ ∃ m, w' = (w.drewN m).setCell ⟨gg, go, none⟩ (.pointer none) := by
  go_enter Tryz.func143, Tryz.ntmps143
  go_wp2_with fail
  refine (indexFunc_one B R true gg go gc w hc hf).mono ?_
  rintro e W ⟨rfl, m, rfl⟩
  simp only [if_true]
  go_wp2
  refine wp_loop_rounds 1 ?_
  rw [rounds_succ]
  go_wp2_with fail
  have hcl : (Builtin.clear_ #[108] 0 #[.slice (some ⟨gg, go, none⟩) 1 gc]).run Tryz.prog (w.drewN m) = .ok (.tuple #[]) ((w.drewN m).setCell ⟨gg, go, none⟩ (.pointer none)) :=
    Lib.run_clear_slice (P := Tryz.prog) (w.drewN m) 108 150 0 (.pointer none) Tryz.underlying108 Tryz.zeroValue150 rfl rfl gg go 1 gc Nat.one_pos (fun j hj => by cases j <;> simp_all) (fun j hj => by cases j <;> simp_all)
  rw [hcl]
  clear hcl
  obtain ⟨W2, HW⟩ : ∃ W2, Hid ((w.drewN m).setCell ⟨gg, go, none⟩ (.pointer none) = W2) := ⟨_, rfl⟩
  rw [HW.out]
  go_wp2
  go_ret
  exact ⟨rfl, m, HW.out.symm⟩

set_option maxRecDepth 20000 in
set_option maxHeartbeats 3200000 in
theorem endRuns_no (g : Nat) (r : SCells) (gv : Value) (R P M b : Nat) (pv : Value) (key : ByteArray) (first last count sum least greatest : Int) (n : Nat) (D : DataW Unit) (w : World)
    (h : OneF w g r gv R P M b pv key first last count sum least greatest n D) (hg : r.going = gv) (hw : IntKind.i64.wrap (last + r.size) = last + r.size) (hp : r.past last = false) :
    Calls Tryz.prog 112 #[.pointer (some ⟨g, 0, none⟩)] w fun e w' => e = .returned (.tuple #[]) ∧ OneF w' g r gv R P M b pv key first last count sum least greatest n D ∧ Kept (fun k => k = g) w w' := by
  have hglt := h.sf.lt
  have K1 : Kept (fun k => k = g) w (w.alloc (.cells #[.pointer (some ⟨g, 0, none⟩)] 44)) := (Kept.refl _ w).alloc _
  have O1 := h.kept K1 (h.sf.congr (Below.heap_alloc _ _ _ hglt))
  have b1 : (w.alloc (.cells #[.pointer (some ⟨g, 0, none⟩)] 44)).cell? ⟨w.heap.size, 0, none⟩ = some (.pointer (some ⟨g, 0, none⟩)) := by simp
  obtain ⟨gg, go, gn, gc, hgv, hgn, -⟩ := h.row.shape (by simp)
  have hgn1 : gn = 1 := by simpa using hgn.symm
  subst hgn1
  subst hgv
  go_enter Tryz.func112, Tryz.ntmps112
  go_upto_region 1 with fail
  have hBg : ¬ w.heap.size = g := by omega
  have hgB : ¬ g = w.heap.size := by omega
  generalize w.heap.size = B at *
  generalize w.alloc (.cells #[.pointer (some ⟨g, 0, none⟩)] 44) = W1 at *
  have HO1 : Hid (OneF W1 g r (.slice (some ⟨gg, go, none⟩) 1 gc) R P M b pv key first last count sum least greatest n D) := O1
  have HK1 : Hid (Kept (fun k => k = g) w W1) := K1
  have c48 : W1.cell? ⟨g, 48, none⟩ = some (.slice (some ⟨gg, go, none⟩) 1 gc) := by rw [← hg]; exact O1.sf.tailAt 2 rfl
  have g0 : W1.cell? ⟨gg, go, none⟩ = some (.pointer (some ⟨R, 0, none⟩)) := by have := O1.row.cell 0 (by omega); simpa using this
  have he := ended_any g B r _ R P M b pv key first last count sum least greatest n D W1 O1 b1 hw
  rw [hp] at he
  clear O1 K1 h
  go_wp2
  refine wp_loop_rounds 2 ?_
  rw [rounds_succ]
  go_wp2_with fail
  refine he.mono ?_
  rintro e W2 ⟨rfl, m2, rfl⟩
  have HO2 : Hid (OneF (W1.drewN m2) g r (.slice (some ⟨gg, go, none⟩) 1 gc) R P M b pv key first last count sum least greatest n D) := HO1.out.kept ((Kept.refl _ W1).drewN m2) (HO1.out.sf.congr (by simp))
  have HK2 : Hid (Kept (fun k => k = g) w (W1.drewN m2)) := HK1.out.drewN m2
  have b2 : (W1.drewN m2).cell? ⟨B, 0, none⟩ = some (.pointer (some ⟨g, 0, none⟩)) := by simpa using b1
  have c2 : (W1.drewN m2).cell? ⟨g, 48, none⟩ = some (.slice (some ⟨gg, go, none⟩) 1 gc) := by simpa using c48
  have g2 : (W1.drewN m2).cell? ⟨gg, go, none⟩ = some (.pointer (some ⟨R, 0, none⟩)) := by simpa using g0
  generalize W1.drewN m2 = W2 at *
  clear b1 c48 g0 he
  have fz : ∀ j, W2.frozen? ⟨g, j, none⟩ = false := HO2.out.sf.frozen
  go_wp2
  rw [rounds_succ]
  go_wp2
  have O3 := HO2.out.kept (Kept.drew (Kept.refl _ W2)) (HO2.out.sf.congr (w' := W2.drew) rfl)
  have he3 := ended_any g B r _ R P M b pv key first last count sum least greatest n D W2.drew O3 b2 hw
  rw [hp] at he3
  have hd : Hid (Calls Tryz.prog 143 #[.slice (some ⟨gg, go, none⟩) 1 gc, .func (.func 142) #[] #[.pointer (some ⟨B, 0, none⟩)]] W2.drew fun e w' => e = .returned (.slice (some ⟨gg, go, none⟩) 1 gc) ∧ ∃ m, w' = W2.drew.drewN m) := deleteFunc_no B ⟨R, 0, none⟩ gg go gc W2.drew g2 he3
  clear he3 O3
  go_region_held3 (fun W => W.cell? ⟨B, 0, none⟩ = some (.pointer (some ⟨g, 0, none⟩)) ∧ W.cell? ⟨g, 48, none⟩ = some (.slice (some ⟨gg, go, none⟩) 1 gc)) (first | (refine ⟨?_, ?_⟩; go_keep; (first | (rw [World.cell?_drew]; exact World.cell?_setCell_same' _ _ _ (by simp [c2])) | (exact World.cell?_setCell_same' _ _ _ (by simp [c2])) | go_keep))) (first | (go_at_call 143; refine hd.out.mono ?_; rintro e w' ⟨rfl, m, rfl⟩))
  go_end0
  have k3 : Kept (fun k => k = g) W2 ((W2.drewN (1 + m)).setCell ⟨g, 48, none⟩ (.slice (some ⟨gg, go, none⟩) 1 gc)) := ((Kept.refl _ W2).drewN (1 + m)).setCell ⟨g, 48, none⟩ _ (fun _ => rfl)
  have hs3 : SF ((W2.drewN (1 + m)).setCell ⟨g, 48, none⟩ (.slice (some ⟨gg, go, none⟩) 1 gc)) g r := by
    have := (HO2.out.sf.congr (w' := W2.drewN (1 + m)) (by simp)).putGoing (.slice (some ⟨gg, go, none⟩) 1 gc)
    have e : r.setGoing (.slice (some ⟨gg, go, none⟩) 1 gc) = r := by rw [← hg]; rfl
    rw [e] at this; exact this
  exact ⟨rfl, HO2.out.kept k3 hs3, HK2.out.trans k3⟩

end Go.Proofs.YtcfngdnmpogaoaaGreat

/-
  endRuns where the one key that is going on ends.
-/
namespace Go.Proofs.YtcfngdnmpogaoaaGreat
open Go.RowKit Go.MuLone

theorem enterDel : ∀ (vs : Array Value) (w : World), (callFunc 143 vs).run Tryz.prog w = .ok (.enter 143 vs) w := enters_of Tryz.func143 (by kernel_rfl) rfl

def SCells.setEnded (r : SCells) (v : Value) : SCells := { r with ended := v }
theorem SF.putEnded {w : World} {g : Nat} {r : SCells} (h : SF w g r) (v : Value) : SF (w.setCell ⟨g, 49, none⟩ v) g (r.setEnded v) := h.putTail 3 v rfl rfl rfl

theorem Row.cutAll {w : World} {e : TypeId} {g off n cap : Nat} {xs : List Value} (h : Row w e 1 (.slice (some ⟨g, off, none⟩) n cap) xs) : Row w e 1 (.slice (some ⟨g, off, none⟩) 0 cap) [] := by
  rcases h with ⟨h, _⟩ | ⟨g', off', n', cap', cur, hv, hg, h1, h2, h3, h4, h5⟩
  · simp at h
  · simp only [Value.slice.injEq, Option.some.injEq, Addr.mk.injEq] at hv
    obtain ⟨⟨rfl, rfl, _⟩, rfl, rfl⟩ := hv
    exact .inr ⟨g, off, 0, cap, cur, rfl, hg, Nat.zero_le _, h2, h3, rfl, fun j hj => by simp at hj⟩
theorem Row.emptyPut {w : World} {e : TypeId} {g off cap : Nat} (h : Row w e 1 (.slice (some ⟨g, off, none⟩) 0 cap) []) (i : Nat) (v : Value) : Row (w.setCell ⟨g, i, none⟩ v) e 1 (.slice (some ⟨g, off, none⟩) 0 cap) [] := by
  rcases h with ⟨h, _⟩ | ⟨g', off', n', cap', cur, hv, hg, h1, h2, h3, h4, h5⟩
  · simp at h
  · simp only [Value.slice.injEq, Option.some.injEq, Addr.mk.injEq] at hv
    obtain ⟨⟨rfl, rfl, _⟩, rfl, rfl⟩ := hv
    exact .inr ⟨g, off, 0, cap, _, rfl, heap_setCell_same w g i cur e v hg, h1, h2, by simpa using h3, rfl, fun j hj => by simp at hj⟩

theorem OneF.apart2 {w : World} {g : Nat} {r : SCells} {gv : Value} {R P M b : Nat} {pv : Value} {key : ByteArray} {first last count sum least greatest : Int} {n : Nat} {D : DataW Unit} (h : OneF w g r gv R P M b pv key first last count sum least greatest n D) :
    ∀ k, (k = R ∨ k = P ∨ k = M ∨ (b ≤ k ∧ k ≤ b + 3) ∨ pv.ownBlock = some k) → gv.ownBlock ≠ some k := by
  have hne : ∀ (k : Nat) (cs : Array Value) (t : TypeId) (f : Nat × Nat), w.heap[k]? = some (.cells cs t f) → t ≠ 150 → gv.ownBlock ≠ some k := by
    intro k cs t f hk ht hv
    obtain ⟨_, c, hc⟩ := h.row.blk_lt hv
    rw [hc] at hk
    simp only [Option.some.injEq, Obj.cells.injEq] at hk
    exact ht hk.2.1.symm
  have hmap : ∀ (k : Nat) es c, w.heap[k]? = some (.map es c) → gv.ownBlock ≠ some k := by
    intro k es c hk hv
    obtain ⟨_, cc, hc⟩ := h.row.blk_lt hv
    rw [hc] at hk
    cases hk
  rintro k (rfl | rfl | rfl | ⟨h1, h2⟩ | h2)
  · exact hne _ _ _ _ h.one.run (by decide)
  · exact hne _ _ _ _ h.one.pane (by decide)
  · obtain ⟨es, c, hm, _⟩ := h.one.tags
    exact hmap _ _ _ hm
  · have : k = b ∨ k = b + 1 ∨ k = b + 2 ∨ k = b + 3 := by omega
    rcases this with rfl | rfl | rfl | rfl
    · exact hne _ _ _ _ h.one.parts.tot (by decide)
    · exact hne _ _ _ _ h.one.parts.bnd (by decide)
    · exact hmap _ _ _ h.one.parts.tag
    · exact hne _ _ _ _ h.one.parts.all (by decide)
  · obtain ⟨_, c, hc⟩ := h.one.panes.blk_lt h2
    exact hne _ _ _ _ hc (by decide)

set_option maxRecDepth 20000 in
set_option maxHeartbeats 3200000 in
theorem endRuns_yes (g : Nat) (r : SCells) (gv : Value) (R P M b : Nat) (pv : Value) (key : ByteArray) (first last count sum least greatest : Int) (n : Nat) (D : DataW Unit) (w : World)
    (h : OneF w g r gv R P M b pv key first last count sum least greatest n D) (hg : r.going = gv) (hen : r.ended = .slice none 0 0) (hw : IntKind.i64.wrap (last + r.size) = last + r.size) (hp : r.past last = true) :
    Calls Tryz.prog 112 #[.pointer (some ⟨g, 0, none⟩)] w fun e w' => e = .returned (.tuple #[]) ∧ ∃ ev gv', OneF w' g ((r.setEnded ev).setGoing gv') ev R P M b pv key first last count sum least greatest n D ∧ Row w' 150 1 gv' [] ∧ Kept (fun k => k = g ∨ gv.ownBlock = some k) w w' := by
  obtain ⟨i, hi, hz0, hz1, hz2⟩ := info_parts infoPR
  have hglt := h.sf.lt
  have K1 : Kept (fun k => k = g) w (w.alloc (.cells #[.pointer (some ⟨g, 0, none⟩)] 44)) := (Kept.refl _ w).alloc _
  have O1 := h.kept K1 (h.sf.congr (Below.heap_alloc _ _ _ hglt))
  have b1 : (w.alloc (.cells #[.pointer (some ⟨g, 0, none⟩)] 44)).cell? ⟨w.heap.size, 0, none⟩ = some (.pointer (some ⟨g, 0, none⟩)) := by simp
  obtain ⟨gg, go, gn, gc, hgv, hgn, hgc⟩ := h.row.shape (by simp)
  have hgn1 : gn = 1 := by simpa using hgn.symm
  subst hgn1
  subst hgv
  have hggw := (h.row.blk_lt (k := gg) rfl).1
  go_enter Tryz.func112, Tryz.ntmps112
  go_upto_region 1 with fail
  have hBg : ¬ w.heap.size = g := by omega
  have hBgg : gg ≠ w.heap.size := by omega
  have hgB : ¬ g = w.heap.size := by omega
  generalize w.heap.size = B at *
  generalize w.alloc (.cells #[.pointer (some ⟨g, 0, none⟩)] 44) = W1 at *
  have HO1 : Hid (OneF W1 g r (.slice (some ⟨gg, go, none⟩) 1 gc) R P M b pv key first last count sum least greatest n D) := O1
  have HK1 : Hid (Kept (fun k => k = g) w W1) := K1
  have c48 : W1.cell? ⟨g, 48, none⟩ = some (.slice (some ⟨gg, go, none⟩) 1 gc) := by rw [← hg]; exact O1.sf.tailAt 2 rfl
  have g0 : W1.cell? ⟨gg, go, none⟩ = some (.pointer (some ⟨R, 0, none⟩)) := by have := O1.row.cell 0 (by omega); simpa using this
  have he := ended_any g B r _ R P M b pv key first last count sum least greatest n D W1 O1 b1 hw
  rw [hp] at he
  clear O1 K1 h
  go_upto_block 0 with fail
  go_cut [11] from 11 to 28 (fun _ wx => ∃ ev, OneF wx g (r.setEnded ev) (.slice (some ⟨gg, go, none⟩) 1 gc) R P M b pv key first last count sum least greatest n D ∧ Row wx 150 1 ev [.pointer (some ⟨R, 0, none⟩)] ∧ (∀ k, ev.ownBlock = some k → B ≤ k) ∧ wx.cell? ⟨B, 0, none⟩ = some (.pointer (some ⟨g, 0, none⟩)) ∧ Kept (fun k => k = g) w wx)
  case first =>
    go_wp2_with fail
    refine wp_loop_rounds 2 ?_
    rw [rounds_succ]
    go_wp2_with fail
    refine he.mono ?_
    rintro e W2 ⟨rfl, m2, rfl⟩
    have HO2 : Hid (OneF (W1.drewN m2) g r (.slice (some ⟨gg, go, none⟩) 1 gc) R P M b pv key first last count sum least greatest n D) := HO1.out.kept ((Kept.refl _ W1).drewN m2) (HO1.out.sf.congr (by simp))
    have HK2 : Hid (Kept (fun k => k = g) w (W1.drewN m2)) := HK1.out.drewN m2
    have b2 : (W1.drewN m2).cell? ⟨B, 0, none⟩ = some (.pointer (some ⟨g, 0, none⟩)) := by simpa using b1
    have c2 : (W1.drewN m2).cell? ⟨g, 48, none⟩ = some (.slice (some ⟨gg, go, none⟩) 1 gc) := by simpa using c48
    have g2 : (W1.drewN m2).cell? ⟨gg, go, none⟩ = some (.pointer (some ⟨R, 0, none⟩)) := by simpa using g0
    generalize W1.drewN m2 = W2 at *
    clear b1 c48 g0 he
    have fz : ∀ j, W2.frozen? ⟨g, j, none⟩ = false := HO2.out.sf.frozen
    have c49 : W2.cell? ⟨g, 49, none⟩ = some (.slice none 0 0) := by rw [← hen]; exact HO2.out.sf.tailAt 3 rfl
    have c49A : ∀ o, (W2.alloc o).cell? ⟨g, 49, none⟩ = some (.slice none 0 0) := fun o => by rw [((Below.refl W2.heap.size W2).alloc (Nat.le_refl _) o).cell HO2.out.sf.lt]; exact c49
    have b2A : ∀ o, (W2.alloc o).cell? ⟨B, 0, none⟩ = some (.pointer (some ⟨g, 0, none⟩)) := fun o => by rw [((Below.refl W2.heap.size W2).alloc (Nat.le_refl _) o).cell (World.block_lt_of_cell? W2 ⟨B, 0, none⟩ b2)]; exact b2
    have hW2B : B < W2.heap.size := World.block_lt_of_cell? W2 ⟨B, 0, none⟩ b2
    go_wp2_with fail
    go_region_law (first
        | (refine step_append rfl _ _ _ _ rfl 150 i (.pointer none) 1 8 Tryz.underlying108 hi hz0 hz1 hz2 rfl Nat.one_pos (.slice none 0 0) [] rfl (Row.nil _ _ _) (.slice (some ⟨W2.heap.size, 0, none⟩) 1 1) 1 [.pointer (some ⟨R, 0, none⟩)] rfl ?_ Nat.one_pos ?_ ?_ ?_; exact Src.ofSlice _ Tryz.underlying108 ⟨W2.heap.size, 0, none⟩ 1 1 _ rfl (one_new W2 _ _) (by simp [Value.oneCell']); (simp only [maxLen, List.length_nil]; omega); (simp only [List.length_nil]; omega); intro ev w2 ha; have hb2 := (((Below.refl _ W2).alloc (Nat.le_refl _) _).drew).trans (ha.below (B := W2.heap.size) (by intro g hg; simp [Value.ownBlock] at hg) (by simp)); have hev := ha.blk (B := W2.heap.size) (by intro g hg; simp [Value.ownBlock] at hg) (by simp); have hrow := ha.row; obtain ⟨vg, vo, vn, vc, hgs, -, -⟩ := hrow.shape (by simp); subst hgs; have hs4 := HO2.out.sf.below hb2 HO2.out.sf.lt; have e49 : w2.cell? ⟨g, 49, none⟩ = some r.ended := hs4.tailAt 3 rfl; rw [hen] at e49; have ef : ∀ j, w2.frozen? ⟨g, j, none⟩ = false := hs4.frozen; have e0 : w2.cell? ⟨B, 0, none⟩ = some (.pointer (some ⟨g, 0, none⟩)) := (hb2.cell hW2B).trans b2))
    all_goals
      have k9 : Kept (fun k => k = g) W2 (w2.setCell ⟨g, 49, none⟩ (.slice (some ⟨vg, vo, none⟩) vn vc)) := (Kept.ofBelow hb2 (fun k => k = g)).setCell ⟨g, 49, none⟩ _ (fun _ => rfl)
      have o9 := HO2.out.kept k9 (hs4.putEnded (.slice (some ⟨vg, vo, none⟩) vn vc))
      have r9 := hrow.setCell ⟨g, 49, none⟩ (.slice (some ⟨vg, vo, none⟩) vn vc) (fun e => by have := hev g e; have := HO2.out.sf.lt; omega)
      have HO9 : Hid _ := o9
      have HR9 : Hid _ := r9
      have HK9 : Hid _ := k9
      have z9 : (w2.setCell ⟨g, 49, none⟩ (.slice (some ⟨vg, vo, none⟩) vn vc)).cell? ⟨B, 0, none⟩ = some (.pointer (some ⟨g, 0, none⟩)) := by rw [World.cell?_setCell_far _ _ _ _ (by simpa using hgB)]; exact e0
      clear k9 o9 r9
      go_wp2
      rw [rounds_succ]
      go_wp2
      go_meet
      exact ⟨.slice (some ⟨vg, vo, none⟩) vn vc, HO9.out, HR9.out, fun k hk => by have := hev k hk; omega, z9, HK2.out.trans HK9.out⟩
  case rest =>
    obtain ⟨ev, hO, hre, hve, hbx, k3⟩ := hcut
    have hgg := (hO.row.blk_lt (k := gg) rfl).1
    have he3 := ended_any g B (r.setEnded ev) _ R P M b pv key first last count sum least greatest n D wc.drew (hO.kept (Kept.drew (Kept.refl _ wc)) (hO.sf.congr (w' := wc.drew) rfl)) hbx hw
    have hp' : (r.setEnded ev).past last = true := hp
    rw [hp'] at he3
    have g0' : wc.drew.cell? ⟨gg, go, none⟩ = some (.pointer (some ⟨R, 0, none⟩)) := by have := hO.row.cell 0 (by omega); simpa using this
    have hd : Hid (Calls Tryz.prog 143 #[.slice (some ⟨gg, go, none⟩) 1 gc, .func (.func 142) #[] #[.pointer (some ⟨B, 0, none⟩)]] wc.drew fun e w' => e = .returned (.slice (some ⟨gg, go, none⟩) 0 gc) ∧ ∃ m, w' = (wc.drew.drewN m).setCell ⟨gg, go, none⟩ (.pointer none)) := deleteFunc_yes B ⟨R, 0, none⟩ gg go gc wc.drew g0' (hO.row.frozen go) (by omega) he3
    have c48' : wc.cell? ⟨g, 48, none⟩ = some (.slice (some ⟨gg, go, none⟩) 1 gc) := by rw [← hg]; exact hO.sf.tailAt 2 rfl
    have hgne : g ≠ gg := fun e => hO.apart.1 gg rfl e.symm
    have HO : Hid (OneF wc g (r.setEnded ev) (.slice (some ⟨gg, go, none⟩) 1 gc) R P M b pv key first last count sum least greatest n D) := hO
    have HRE : Hid (Row wc 150 1 ev [.pointer (some ⟨R, 0, none⟩)]) := hre
    have K3 : Hid (Kept (fun k => k = g) w wc) := k3
    have hbb : B < wc.heap.size := World.block_lt_of_cell? wc ⟨B, 0, none⟩ hbx
    have fz' : ∀ j, wc.frozen? ⟨g, j, none⟩ = false := hO.sf.frozen
    clear hO hre k3 he3 g0' c48 g0 b1
    go_wp2_with fail
    go_region_law (first
      | (refine step_call2 rfl 143 _ _ _ rfl enterDel (.slice (some ⟨gg, go, none⟩) 1 gc) (.func (.func 142) #[] #[.pointer (some ⟨B, 0, none⟩)]) rfl rfl _ hd.out ?_; rintro e w3 ⟨rfl, m, hw3⟩; refine ⟨_, rfl, ?_⟩; have hs5 : SF w3 g (r.setEnded ev) := HO.out.sf.congr ((by rw [hw3, heap_setCell_other _ _ _ _ hgne]; simp) : w3.heap[g]? = wc.heap[g]?); have c5 : w3.cell? ⟨g, 48, none⟩ = some r.going := hs5.tailAt 2 rfl; rw [hg] at c5; have f5 : ∀ j, w3.frozen? ⟨g, j, none⟩ = false := hs5.frozen; have x5 : w3.cell? ⟨B, 0, none⟩ = some (.pointer (some ⟨g, 0, none⟩)) := (by rw [hw3, World.cell?_setCell_far _ _ _ _ hBgg]; simpa using hbx)))
    all_goals
      go_end0
      have ha2 := HO.out.apart2
      have k9 : Kept (fun k => k = g ∨ k = gg) wc (((wc.drewN (1 + m)).setCell ⟨gg, go, none⟩ (.pointer none)).setCell ⟨g, 48, none⟩ (.slice (some ⟨gg, go, none⟩) 0 gc)) := (((Kept.refl _ wc).drewN (1 + m)).setCell ⟨gg, go, none⟩ _ (fun _ => .inr rfl)).setCell ⟨g, 48, none⟩ _ (fun _ => .inl rfl)
      have s9 : SF (((wc.drewN (1 + m)).setCell ⟨gg, go, none⟩ (.pointer none)).setCell ⟨g, 48, none⟩ (.slice (some ⟨gg, go, none⟩) 0 gc)) g ((r.setEnded ev).setGoing (.slice (some ⟨gg, go, none⟩) 0 gc)) := (HO.out.sf.congr (by rw [heap_setCell_other _ _ _ _ hgne]; simp)).putGoing _
      have r9 : Row ((wc.drewN (1 + m)).setCell ⟨gg, go, none⟩ (.pointer none)) 150 1 (.slice (some ⟨gg, go, none⟩) 0 gc) [] := ((HO.out.row.cutAll).congr (w' := wc.drewN (1 + m)) (fun k _ => by simp)).emptyPut _ _
      refine ⟨rfl, ev, .slice (some ⟨gg, go, none⟩) 0 gc, ⟨s9, ?_, ?_⟩, r9.setCell ⟨g, 48, none⟩ _ (fun e => by simp [Value.ownBlock] at e; omega), ?_⟩
      · refine HRE.out.congr (fun k hk => k9.block k (HRE.out.blk_lt hk).1 ?_)
        have := hve k hk
        rintro (e | e) <;> omega
      · refine HO.out.one.congr (fun k hk => k9.block k (HO.out.one.lt k hk) ?_)
        rintro (e | e)
        · exact HO.out.apart.2 k hk e
        · exact ha2 k hk (by rw [e]; rfl)
      · exact (K3.out.mono (fun k _ h => .inl h)).step k9 (fun i _ h => h.imp id (fun h => by rw [h]; rfl))
end Go.Proofs.YtcfngdnmpogaoaaGreat
