import Derived.Test.YtcfngdnmpogaoaaGreatLinesUptoT10
import Derived.BigRegion
import Derived.Deep.RegionLaw
import Derived.Shelf.Abstract

/-
  The first pane of a run.
-/
namespace Go.Proofs.YtcfngdnmpogaoaaGreat
open Go.RowKit Go.MuLone

set_option maxHeartbeats 1600000 in
theorem bsearch_nil (first last : Int) (f : Value) (w : World) :
    Calls Tryz.prog 164 #[.slice none 0 0, .agg #[.int .i64 first, .int .i64 last], f] w fun e w' => e = .returned (.tuple #[.int .i64 0, .bool false]) ∧ Below w.heap.size w w' := by
  go_enter Tryz.func164, Tryz.ntmps164
  go_wp2
  refine wp_loop_rounds 1 ?_
  rw [rounds_succ]
  go_wp2_with fail
  have hd : decide ((0 : Int) < 0) = false := by decide
  go_quiet (fail)
  go_wp2
  go_ret2
  exact ⟨rfl, below_drewN ((Below.refl _ w).alloc (Nat.le_refl _) _) nq⟩

theorem infoPP : (Tryz.prog.info? 208).map (fun i => (i.zero, i.size, i.bytes)) = some (some (.pointer none), 1, 8) := by kernel_rfl

set_option maxRecDepth 20000 in
set_option maxHeartbeats 1600000 in
theorem insert_nil (b : Nat) (x : Addr) (w : World) (hb : w.cell? ⟨b, 0, none⟩ = some (.pointer (some x))) :
    Calls Tryz.prog 167 #[.slice none 0 0, .int .i64 0, .slice (some ⟨b, 0, none⟩) 1 1] w fun e w' => ∃ v, e = .returned v ∧ Row w' 208 1 v [.pointer (some x)] ∧ (∀ k, v.ownBlock = some k → w.heap.size ≤ k) ∧ Below w.heap.size w w' := by
  obtain ⟨i, hi, hz0, hz1, hz2⟩ := info_parts infoPP
  go_enter Tryz.func167, Tryz.ntmps167
  go_wp2_with (at_builtin; go_must (refine wpList_append _ rfl _ _ _ _ rfl 208 i (.pointer none) 1 8 Tryz.underlying175 hi hz0 hz1 hz2 rfl Nat.one_pos (.slice none 0 0) [] rfl (Row.nil _ _ _) (.slice (some ⟨b, 0, none⟩) 1 1) 1 [.pointer (some x)] rfl ?hsrc Nat.one_pos ?h63 ?hby ?next))
  case hsrc => exact Src.ofSlice _ Tryz.underlying175 ⟨b, 0, none⟩ 1 1 _ rfl (fun j u hu => by cases j with | zero => (simp at hu; subst hu; exact hb) | succ j => simp at hu) (by simp [Value.oneCell'])
  case h63 => simp [maxLen]
  case hby => simp
  intro v w' ha
  have hb3 := ha.below (B := w.heap.size) (by intro g hg; simp [Value.ownBlock] at hg) (Nat.le_refl _)
  have hg3 := ha.blk (B := w.heap.size) (by intro g hg; simp [Value.ownBlock] at hg) (Nat.le_refl _)
  have hr3 := ha.row
  clear ha
  go_wp2
  go_ret
  exact ⟨v, rfl, hr3, hg3, hb3⟩
theorem insert_one (x : Addr) (w : World) :
    Calls Tryz.prog 167 #[.slice none 0 0, .int .i64 0, .slice (some ⟨w.heap.size, 0, none⟩) 1 1] (w.alloc (.cells #[.pointer (some x)] 208)) fun e w' => ∃ a c, e = .returned (.slice a 1 c) ∧ Row w' 208 1 (.slice a 1 c) [.pointer (some x)] ∧ (∀ k, (Value.slice a 1 c).ownBlock = some k → w.heap.size ≤ k) ∧ Below w.heap.size w w' := by
  refine (insert_nil w.heap.size x (w.alloc (.cells #[.pointer (some x)] 208)) (by simp)).mono ?_
  rintro e w' ⟨v, rfl, hr, hv, hb⟩
  obtain ⟨a, c, rfl, -⟩ := hr.slice
  exact ⟨a, c, rfl, hr, fun k hk => by have := hv k hk; simp at this; omega, ((Below.refl _ w).alloc (Nat.le_refl _) _).trans (hb.mono (by simp))⟩

/-- A run in memory: its cells. -/
def runCells (key : ByteArray) (pv : Value) (inside : Int) (next : Int) (qv : Value) : Array Value := #[.string key, pv, .int .i64 inside, .int .i64 next, qv]
theorem runAt {w : World} {R : Nat} {key : ByteArray} {pv qv : Value} {inside next : Int} (h : w.heap[R]? = some (.cells (runCells key pv inside next qv) 178 (0, 0))) :
    w.cell? ⟨R, 0, none⟩ = some (.string key) ∧ w.cell? ⟨R, 1, none⟩ = some pv ∧ w.cell? ⟨R, 2, none⟩ = some (.int .i64 inside) ∧ w.cell? ⟨R, 3, none⟩ = some (.int .i64 next) ∧ w.cell? ⟨R, 4, none⟩ = some qv ∧ (∀ j, w.frozen? ⟨R, j, none⟩ = false) :=
  ⟨blkCell h rfl, blkCell h rfl, blkCell h rfl, blkCell h rfl, blkCell h rfl, blkFrozen h⟩

set_option maxRecDepth 20000 in
set_option maxHeartbeats 6400000 in
theorem paneOf_new (R : Nat) (key : ByteArray) (qv : Value) (first last : Int) (w : World) (hR : w.heap[R]? = some (.cells (runCells key (.slice none 0 0) 0 0 qv) 178 (0, 0))) :
    Calls Tryz.prog 147 #[.pointer (some ⟨R, 0, none⟩), .agg #[.int .i64 first, .int .i64 last]] w fun e w' => ∃ P M pv, e = .returned (.pointer (some ⟨P, 0, none⟩)) ∧ w.heap.size ≤ P ∧ w.heap.size ≤ M ∧ P ≠ M ∧
      w'.heap[P]? = some (.cells (paneCells first last 0 0 9223372036854775807 (-9223372036854775808) M) 207 (0, 0)) ∧ w'.heap[M]? = some (.map #[] 0) ∧
      w'.heap[R]? = some (.cells (runCells key pv 0 0 qv) 178 (0, 0)) ∧ Row w' 208 1 pv [.pointer (some ⟨P, 0, none⟩)] ∧ (∀ k, pv.ownBlock = some k → w.heap.size ≤ k) ∧ Kept (fun k => k = R) w w' := by
  have hRs := blkLt hR
  have hR1 := blkAlloc hR (.cells #[.int .i64 first, .int .i64 last] 202)
  have hx1 := heap_alloc_new w (.cells #[.int .i64 first, .int .i64 last] 202)
  have K1 : Hid (Kept (fun k => k = R) w (w.alloc (.cells #[.int .i64 first, .int .i64 last] 202))) := (Kept.refl _ w).alloc _
  go_enter Tryz.func147, Tryz.ntmps147
  go_upto_region 1 with fail
  have hRB : ¬ R = w.heap.size := by omega
  have hsz1 : w.heap.size < (w.alloc (.cells #[.int .i64 first, .int .i64 last] 202)).heap.size := by simp
  generalize hBB : w.heap.size = B at *
  generalize w.alloc (.cells #[.int .i64 first, .int .i64 last] 202) = W1 at *
  go_cut [5, 6] from 7 to 15 (fun s5 s6 wx => s5 = .int .i64 0 ∧ s6 = .bool false ∧ wx.heap[R]? = some (.cells (runCells key (.slice none 0 0) 0 0 qv) 178 (0, 0)) ∧ wx.heap[B]? = some (.cells #[.int .i64 first, .int .i64 last] 202 (0, 0)) ∧ Kept (fun k => k = R) w wx)
  case first =>
    obtain ⟨-, r1, -, -, -, fz⟩ := runAt hR1
    obtain ⟨x0, x1, -, -⟩ := cells2At hx1
    have HR1 : Hid (W1.heap[R]? = some (.cells (runCells key (.slice none 0 0) 0 0 qv) 178 (0, 0))) := hR1
    have HX1 : Hid (W1.heap[B]? = some (.cells #[.int .i64 first, .int .i64 last] 202 (0, 0))) := hx1
    have hRs1 := blkLt hR1
    clear hR1 hx1
    go_region_with (go_at_call 164; refine (bsearch_nil _ _ _ _).mono ?_; rintro e w' ⟨rfl, hb⟩)
    all_goals
      go_wp2
      go_meet
      refine ⟨rfl, rfl, ?_, ?_, K1.out.trans (Kept.step (Kept.drew (Kept.refl _ W1)) (Kept.ofBelow hb (fun _ => False)) (fun _ _ h => h.elim))⟩
      · rw [hb.block R (by simpa using hRs1)]; exact HR1.out
      · rw [hb.block B (by simpa using hsz1)]; exact HX1.out
  case rest =>
    obtain ⟨rfl, rfl, hR2, hx2, k2⟩ := hcut
    have K2 : Hid (Kept (fun k => k = R) w wc) := k2
    clear hR1 hx1 k2
    go_upto_region 3 with fail
    go_cut [27] from 18 to 29 (fun _ wx => ∃ P M pv, B ≤ P ∧ B ≤ M ∧ P ≠ M ∧ wx.heap[P]? = some (.cells (paneCells first last 0 0 9223372036854775807 (-9223372036854775808) M) 207 (0, 0)) ∧ wx.heap[M]? = some (.map #[] 0) ∧
      wx.heap[R]? = some (.cells (runCells key pv 0 0 qv) 178 (0, 0)) ∧ Row wx 208 1 pv [.pointer (some ⟨P, 0, none⟩)] ∧ (∀ k, pv.ownBlock = some k → B ≤ k) ∧ Kept (fun k => k = R) w wx)
    case first =>
      obtain ⟨-, r1, -, -, -, fz⟩ := runAt hR2
      obtain ⟨x0, x1, -, -⟩ := cells2At hx2
      have HR2 : Hid (wc.heap[R]? = some (.cells (runCells key (.slice none 0 0) 0 0 qv) 178 (0, 0))) := hR2
      have hRs2 := blkLt hR2
      have hBs2 := blkLt hx2
      clear hR2 hx2
      go_region_with (first
        | (go_at_call 168; refine (newPane_any _ _ _).mono ?_; rintro e w1 ⟨P, M, rfl, hP, hM, hPM, hpc, hmc, hb1⟩; have q1 : w1.cell? ⟨R, 1, none⟩ = some (.slice none 0 0) := (hb1.cell (by simpa using hRs2)).trans (by simp [*]); have qf : ∀ j, w1.frozen? ⟨R, j, none⟩ = false := fun j => ((bcell hb1).2 R j (by simpa using hRs2)).trans (by simp [*]); have hRs3 : R < w1.heap.size := Nat.lt_of_lt_of_le (by simpa using hRs2) hb1.size)
        | (go_at_call 167; refine (insert_one _ _).mono ?_; rintro e w2 ⟨va, vc, rfl, hrow, hv, hb2⟩; have s1 : w2.cell? ⟨R, 1, none⟩ = some (.slice none 0 0) := (hb2.cell hRs3).trans (by simp [*]); have sf : ∀ j, w2.frozen? ⟨R, j, none⟩ = false := fun j => ((bcell hb2).2 R j hRs3).trans (by simp [*])))
      all_goals
        go_wp2
        go_meet
        have hP' : wc.heap.size ≤ P := by simpa using hP
        have hM' : wc.heap.size ≤ M := by simpa using hM
        have hR3 : w2.heap[R]? = some (.cells (runCells key (.slice none 0 0) 0 0 qv) 178 (0, 0)) := by
          rw [hb2.block R hRs3, hb1.block R (by simpa using hRs2)]; exact HR2.out
        refine ⟨P, M, .slice va 1 vc, by omega, by omega, hPM, blkOther (blkBelow hpc hb2) R 1 _ (by omega), blkOther (blkBelow hmc hb2) R 1 _ (by omega), blkPut hR3 1 _, hrow.setCell ⟨R, 1, none⟩ _ (fun e => ?_), fun k hk => ?_, ?_⟩
        · have := hv R e; omega
        · have := hv k hk; have := hb1.size; have : wc.heap.size ≤ w1.heap.size := by simpa using this
          omega
        · refine Kept.setCell ?_ ⟨R, _, none⟩ _ (fun _ => rfl)
          exact (K2.out.trans (Kept.step (Kept.drew (Kept.refl _ wc)) (Kept.ofBelow hb1 (fun _ => False)) (fun _ _ h => h.elim))).trans (Kept.ofBelow hb2 _)
    case rest =>
      obtain ⟨P, M, pv, h1, h2, h3, h4, h5, h6, h7, h8, h9⟩ := hcut
      have HH : Hid (B ≤ P ∧ B ≤ M ∧ P ≠ M ∧ wc.heap[P]? = some (.cells (paneCells first last 0 0 9223372036854775807 (-9223372036854775808) M) 207 (0, 0)) ∧ wc.heap[M]? = some (.map #[] 0) ∧
        wc.heap[R]? = some (.cells (runCells key pv 0 0 qv) 178 (0, 0)) ∧ Row wc 208 1 pv [.pointer (some ⟨P, 0, none⟩)] ∧ (∀ k, pv.ownBlock = some k → B ≤ k) ∧ Kept (fun k => k = R) w wc) := ⟨h1, h2, h3, h4, h5, h6, h7, h8, h9⟩
      obtain ⟨-, r1, -, -, -, -⟩ := runAt h6
      obtain ⟨pg, po, pn, pc, hpv, hpn, -⟩ := h7.shape (by simp)
      subst hpv
      have hpn1 : pn = 1 := by simpa using hpn.symm
      subst hpn1
      have p0 : wc.cell? ⟨pg, po, none⟩ = some (.pointer (some ⟨P, 0, none⟩)) := by have := h7.cell 0 (by omega); simpa using this
      clear h1 h2 h3 h4 h5 h6 h7 h8 h9 hR2 hx2 hpn
      go_wp2
      go_ret
      obtain ⟨h1, h2, h3, h4, h5, h6, h7, h8, h9⟩ := HH.out
      rw [← hBB] at h1 h2 h8
      exact ⟨P, M, _, rfl, h1, h2, h3, h4, h5, h6, h7, h8, h9⟩
end Go.Proofs.YtcfngdnmpogaoaaGreat

/-
  The first run of a flow.
-/
namespace Go.Proofs.YtcfngdnmpogaoaaGreat
open Go.RowKit Go.MuLone

/-- A call of a Go function, as one step of a region that draws its order. -/
theorem step_enter {P : Program} {ops : Array Oper} {o : Oper} {a : Act} {w : World} {K : Act → World → Prop} {Q : Exit → Act → World → Prop} {E : Prop} (hg : o.guard = none) (f : FuncId) (args : Array Value)
    (hrun : (execOp a.eval o).run P w = .ok (.enter f args) w) (R : Ending → World → Prop) (hc : Calls P f args w R) (h : ∀ e w', R e w' → ∃ v, e = .returned v ∧ K (a.put o.dst v) w') :
    if Region.wanted o (yielded ops a.tmps) = true then Oper.wp P o a w K Q else E := by
  have hw : Region.wanted o (yielded ops a.tmps) = true := by simp [Region.wanted, hg]
  rw [if_pos hw]
  unfold Oper.wp
  rw [hrun, Oper.upon_enter]
  refine hc.mono fun e w' hr => ?_
  obtain ⟨v, rfl, hk⟩ := h e w' hr
  exact hk
theorem step_call0 {P : Program} {ops : Array Oper} {o : Oper} {a : Act} {w : World} {K : Act → World → Prop} {Q : Exit → Act → World → Prop} {E : Prop} (hg : o.guard = none) (f : FuncId) (ts : Array TypeId)
    (hop : o.op = .call { callee := .value (.func f), args := #[], argTypes := ts }) (he : ∀ (vs : Array Value) (w : World), (callFunc f vs).run P w = .ok (.enter f vs) w) (R : Ending → World → Prop) (hc : Calls P f #[] w R) (h : ∀ e w', R e w' → ∃ v, e = .returned v ∧ K (a.put o.dst v) w') :
    if Region.wanted o (yielded ops a.tmps) = true then Oper.wp P o a w K Q else E :=
  step_enter hg f #[] (by simp [execOp, hop, resolve, invoke, Deferred.ofValue, Act.eval, he]) R hc h
theorem step_call1 {P : Program} {ops : Array Oper} {o : Oper} {a : Act} {w : World} {K : Act → World → Prop} {Q : Exit → Act → World → Prop} {E : Prop} (hg : o.guard = none) (f : FuncId) (x : Operand) (ts : Array TypeId)
    (hop : o.op = .call { callee := .value (.func f), args := #[x], argTypes := ts }) (he : ∀ (vs : Array Value) (w : World), (callFunc f vs).run P w = .ok (.enter f vs) w) (v : Value) (hv : a.eval x = v) (R : Ending → World → Prop) (hc : Calls P f #[v] w R) (h : ∀ e w', R e w' → ∃ v, e = .returned v ∧ K (a.put o.dst v) w') :
    if Region.wanted o (yielded ops a.tmps) = true then Oper.wp P o a w K Q else E :=
  step_enter hg f #[v] (by subst hv; simp [execOp, hop, resolve, invoke, Deferred.ofValue, he, Act.eval]) R hc h
theorem enterParts : ∀ (vs : Array Value) (w : World), (callFunc 163 vs).run Tryz.prog w = .ok (.enter 163 vs) w := enters_of Tryz.func163 (by kernel_rfl) rfl

theorem infoPR : (Tryz.prog.info? 150).map (fun i => (i.zero, i.size, i.bytes)) = some (some (.pointer none), 1, 8) := by kernel_rfl

/-- The list of keys that are going on turned. -/
def SCells.setGoing (r : SCells) (v : Value) : SCells := { r with going := v }
theorem SF.putGoing {w : World} {g : Nat} {r : SCells} (h : SF w g r) (v : Value) : SF (w.setCell ⟨g, 48, none⟩ v) g (r.setGoing v) := h.putTail 2 v rfl rfl rfl

set_option maxRecDepth 20000 in
set_option maxHeartbeats 6400000 in
theorem runOf_new (g : Nat) (r : SCells) (key : ByteArray) (w : World) (h : SF w g r) (hg : r.going = .slice none 0 0) :
    Calls Tryz.prog 146 #[.pointer (some ⟨g, 0, none⟩), .string key] w fun e w' => ∃ R b gv, e = .returned (.pointer (some ⟨R, 0, none⟩)) ∧ w.heap.size ≤ R ∧ w.heap.size ≤ b ∧ SF w' g (r.setGoing gv) ∧ PartsNew w' b ∧
      w'.heap[R]? = some (.cells (runCells key (.slice none 0 0) 0 0 (.slice (some ⟨b + 3, 0, none⟩) 3 3)) 178 (0, 0)) ∧ Row w' 150 1 gv [.pointer (some ⟨R, 0, none⟩)] ∧ (∀ k, gv.ownBlock = some k → w.heap.size ≤ k) ∧ Kept (fun k => k = g) w w' := by
  obtain ⟨i, hi, hz0, hz1, hz2⟩ := info_parts infoPR
  have hglt := h.lt
  have HP := fun W h => placeOf_nil g r key W h hg
  have H : Hid (SF w g r) := h
  clear h
  go_enter Tryz.func146, Tryz.ntmps146
  go_wp2_with fail
  refine (HP _ H.out).mono ?_
  rintro e W1 ⟨rfl, hb0⟩
  have H1 : Hid (SF W1 g r) := H.out.below hb0 hglt
  have K1 : Hid (Kept (fun k => k = g) w W1) := Kept.ofBelow hb0 _
  have hs1 := hb0.size
  have c48 : W1.cell? ⟨g, 48, none⟩ = some (.slice none 0 0) := by rw [← hg]; exact H1.out.tailAt 2 rfl
  have fz : ∀ j, W1.frozen? ⟨g, j, none⟩ = false := H1.out.frozen
  have hglt1 := H1.out.lt
  clear hb0 HP
  go_upto_region 4 with fail
  go_cut [26] from 16 to 28 (fun _ wx => ∃ R b gv, W1.heap.size ≤ R ∧ W1.heap.size ≤ b ∧ SF wx g (r.setGoing gv) ∧ PartsNew wx b ∧
      wx.heap[R]? = some (.cells (runCells key (.slice none 0 0) 0 0 (.slice (some ⟨b + 3, 0, none⟩) 3 3)) 178 (0, 0)) ∧ Row wx 150 1 gv [.pointer (some ⟨R, 0, none⟩)] ∧ (∀ k, gv.ownBlock = some k → W1.heap.size ≤ k) ∧ Kept (fun k => k = g) w wx)
  case first =>
    go_region_law (first
      | (refine step_call0 rfl 163 _ rfl enterParts _ (newParts_any _) ?_; rintro e w1 ⟨rfl, hparts, hb1⟩; refine ⟨_, rfl, ?_⟩; have d48 : w1.cell? ⟨g, 48, none⟩ = some (.slice none 0 0) := (hb1.cell (by simpa using hglt1)).trans (by simp [*]); have df : ∀ j, w1.frozen? ⟨g, j, none⟩ = false := fun j => ((bcell hb1).2 g j (by simpa using hglt1)).trans (by simp [*]); have hgw1 : g < w1.heap.size := Nat.lt_of_lt_of_le (by simpa using hglt1) hb1.size)
      | (refine step_append rfl _ _ _ _ rfl 150 i (.pointer none) 1 8 Tryz.underlying108 hi hz0 hz1 hz2 rfl Nat.one_pos (.slice none 0 0) [] rfl (Row.nil _ _ _) (.slice (some ⟨w1.heap.size + 1, 0, none⟩) 1 1) 1 [.pointer (some ⟨w1.heap.size, 0, none⟩)] rfl ?_ Nat.one_pos ?_ ?_ ?_; exact Src.ofSlice _ Tryz.underlying108 ⟨w1.heap.size + 1, 0, none⟩ 1 1 _ rfl (fun j u hu => by cases j with | zero => (simp only [List.getElem?_cons_zero, Option.some.injEq] at hu; subst hu; exact blkCell (two_new w1 _ _).2 rfl) | succ j => simp at hu) (by simp [Value.oneCell']); (simp only [maxLen, List.length_nil]; omega); (simp only [List.length_nil]; omega); intro gv w2 ha; have hb2 := (((Below.refl _ w1).alloc (Nat.le_refl _) _).alloc (by simp) _).trans (ha.below (B := w1.heap.size) (by intro g hg; simp [Value.ownBlock] at hg) (by simp; omega)); have hgv := ha.blk (B := w1.heap.size) (by intro g hg; simp [Value.ownBlock] at hg) (by simp; omega); have hrow := ha.row; obtain ⟨vg, vo, vn, vc, hgs, -, -⟩ := hrow.shape (by simp); subst hgs; have e48 : w2.cell? ⟨g, 48, none⟩ = some (.slice none 0 0) := (hb2.cell hgw1).trans d48; have ef : ∀ j, w2.frozen? ⟨g, j, none⟩ = false := fun j => ((bcell hb2).2 g j hgw1).trans (df j)))
    all_goals
      go_wp2
      go_meet
      have hw1 : W1.heap.size ≤ w1.heap.size := by simpa using hb1.size
      have hpp : PartsNew w2 W1.drew.heap.size := hparts.congr (fun k _ hk => hb2.block k (by have := blkLt hparts.all; omega))
      have hgp : ∀ k, W1.drew.heap.size ≤ k → k ≤ W1.drew.heap.size + 3 → k ≠ g := fun k hk _ e => by subst e; simp at hk; omega
      have hrr : w2.heap[w1.heap.size]? = some (.cells (runCells key (.slice none 0 0) 0 0 (.slice (some ⟨W1.drew.heap.size + 3, 0, none⟩) 3 3)) 178 (0, 0)) := (ha.grown.block _ (by simp; omega) (by simp [Value.ownBlock])).trans (two_new w1 _ _).1
      refine ⟨w1.heap.size, W1.drew.heap.size, .slice (some ⟨vg, vo, none⟩) vn vc, hw1, by simp, ?_, hpp.congr (fun k h1 h2 => heap_setCell_other _ _ _ _ (hgp k h1 h2)), blkOther hrr g 48 _ (by omega), hrow.setCell ⟨g, 48, none⟩ _ (fun e => ?_), fun k hk => ?_, ?_⟩
      · exact (((H1.out.congr (w' := W1.drew) rfl).below hb1 (by simpa using hglt1)).below hb2 hgw1).putGoing _
      · have := hgv g e; omega
      · have := hgv k hk; omega
      · refine Kept.setCell ?_ ⟨g, _, none⟩ _ (fun _ => rfl)
        exact (K1.out.trans (Kept.step (Kept.drew (Kept.refl _ W1)) (Kept.ofBelow hb1 (fun _ => False)) (fun _ _ h => h.elim))).trans (Kept.ofBelow hb2 _)
  case rest =>
    obtain ⟨R, b, gv, h1, h2, h3, h4, h5, h6, h7, h8⟩ := hcut
    have HH : Hid (W1.heap.size ≤ R ∧ W1.heap.size ≤ b ∧ SF wc g (r.setGoing gv) ∧ PartsNew wc b ∧
      wc.heap[R]? = some (.cells (runCells key (.slice none 0 0) 0 0 (.slice (some ⟨b + 3, 0, none⟩) 3 3)) 178 (0, 0)) ∧ Row wc 150 1 gv [.pointer (some ⟨R, 0, none⟩)] ∧ (∀ k, gv.ownBlock = some k → W1.heap.size ≤ k) ∧ Kept (fun k => k = g) w wc) := ⟨h1, h2, h3, h4, h5, h6, h7, h8⟩
    have q48 : wc.cell? ⟨g, 48, none⟩ = some gv := h3.tailAt 2 rfl
    obtain ⟨pg, po, pn, pc, hpv, hpn, -⟩ := h6.shape (by simp)
    subst hpv
    have hpn1 : pn = 1 := by simpa using hpn.symm
    subst hpn1
    have p0 : wc.cell? ⟨pg, po, none⟩ = some (.pointer (some ⟨R, 0, none⟩)) := by have := h6.cell 0 (by omega); simpa using this
    clear h1 h2 h3 h4 h5 h6 h7 h8 c48 fz hpn
    go_wp2
    go_ret
    obtain ⟨h1, h2, h3, h4, h5, h6, h7, h8⟩ := HH.out
    exact ⟨R, b, _, rfl, by omega, by omega, h3, h4, h5, h6, fun k hk => by have := h7 k hk; omega, h8⟩
end Go.Proofs.YtcfngdnmpogaoaaGreat

/-
  The first event that a flow keeps.
-/
namespace Go.Proofs.YtcfngdnmpogaoaaGreat
open Go.RowKit Go.MuLone

theorem step_call2 {P : Program} {ops : Array Oper} {o : Oper} {a : Act} {w : World} {K : Act → World → Prop} {Q : Exit → Act → World → Prop} {E : Prop} (hg : o.guard = none) (f : FuncId) (x y : Operand) (ts : Array TypeId)
    (hop : o.op = .call { callee := .value (.func f), args := #[x, y], argTypes := ts }) (he : ∀ (vs : Array Value) (w : World), (callFunc f vs).run P w = .ok (.enter f vs) w) (v u : Value) (hv : a.eval x = v) (hu : a.eval y = u) (R : Ending → World → Prop) (hc : Calls P f #[v, u] w R) (h : ∀ e w', R e w' → ∃ v, e = .returned v ∧ K (a.put o.dst v) w') :
    if Region.wanted o (yielded ops a.tmps) = true then Oper.wp P o a w K Q else E :=
  step_enter hg f #[v, u] (by subst hv hu; simp [execOp, hop, resolve, invoke, Deferred.ofValue, he, Act.eval]) R hc h
theorem enterRunOf : ∀ (vs : Array Value) (w : World), (callFunc 146 vs).run Tryz.prog w = .ok (.enter 146 vs) w := enters_of Tryz.func146 (by kernel_rfl) rfl
theorem enterWindowsOf : ∀ (vs : Array Value) (w : World), (callFunc 148 vs).run Tryz.prog w = .ok (.enter 148 vs) w := enters_of Tryz.func148 (by kernel_rfl) rfl
theorem enterPaneOf : ∀ (vs : Array Value) (w : World), (callFunc 147 vs).run Tryz.prog w = .ok (.enter 147 vs) w := enters_of Tryz.func147 (by kernel_rfl) rfl
theorem enterAdd : ∀ (vs : Array Value) (w : World), (callFunc 149 vs).run Tryz.prog w = .ok (.enter 149 vs) w := enters_of Tryz.func149 (by kernel_rfl) rfl

/-- One run with one pane, as memory has them; nothing of it has been told. -/
structure One (w : World) (R P M b : Nat) (pv : Value) (key : ByteArray) (first last count sum least greatest : Int) (n : Nat) (D : DataW Unit) : Prop where
  run : w.heap[R]? = some (.cells (runCells key pv 0 0 (.slice (some ⟨b + 3, 0, none⟩) 3 3)) 178 (0, 0))
  panes : Row w 208 1 pv [.pointer (some ⟨P, 0, none⟩)]
  pane : w.heap[P]? = some (.cells (paneCells first last count sum least greatest M) 207 (0, 0))
  tags : w.ownsMap Tryz.prog 26 (unitElem (H := Unit)) M n D
  parts : PartsNew w b
  ne : M ≠ b + 2

theorem One.congr {w w' : World} {R P M b : Nat} {pv : Value} {key : ByteArray} {first last count sum least greatest : Int} {n : Nat} {D : DataW Unit} (h : One w R P M b pv key first last count sum least greatest n D)
    (hb : ∀ k, (k = R ∨ k = P ∨ k = M ∨ (b ≤ k ∧ k ≤ b + 3) ∨ pv.ownBlock = some k) → w'.heap[k]? = w.heap[k]?) : One w' R P M b pv key first last count sum least greatest n D :=
  ⟨by rw [hb R (.inl rfl)]; exact h.run, h.panes.congr (fun k hk => hb k (.inr (.inr (.inr (.inr hk))))), by rw [hb P (.inr (.inl rfl))]; exact h.pane, mapBlock h.tags (hb M (.inr (.inr (.inl rfl)))), h.parts.congr (fun k h1 h2 => hb k (.inr (.inr (.inr (.inl ⟨h1, h2⟩))))), h.ne⟩

theorem One.lt {w : World} {R P M b : Nat} {pv : Value} {key : ByteArray} {first last count sum least greatest : Int} {n : Nat} {D : DataW Unit} (h : One w R P M b pv key first last count sum least greatest n D) :
    ∀ k, (k = R ∨ k = P ∨ k = M ∨ (b ≤ k ∧ k ≤ b + 3) ∨ pv.ownBlock = some k) → k < w.heap.size := by
  rintro k (rfl | rfl | rfl | ⟨_, h2⟩ | h2)
  · exact blkLt h.run
  · exact blkLt h.pane
  · exact mapLt h.tags
  · have := blkLt h.parts.all; omega
  · exact (h.panes.blk_lt h2).1

theorem PartsNew.ne {w : World} {b R : Nat} {cs : Array Value} {f : Nat × Nat} (h : PartsNew w b) (hr : w.heap[R]? = some (.cells cs 178 f)) : ∀ k, b ≤ k → k ≤ b + 3 → k ≠ R := by
  rintro k h1 h2 rfl
  have : k = b ∨ k = b + 1 ∨ k = b + 2 ∨ k = b + 3 := by omega
  rcases this with rfl | rfl | rfl | rfl
  · have := h.tot; rw [hr] at this; simp only [Option.some.injEq, Obj.cells.injEq] at this; exact absurd this.2.1 (by decide)
  · have := h.bnd; rw [hr] at this; simp only [Option.some.injEq, Obj.cells.injEq] at this; exact absurd this.2.1 (by decide)
  · have := h.tag; rw [hr] at this; cases this
  · have := h.all; rw [hr] at this; simp only [Option.some.injEq, Obj.cells.injEq] at this; exact absurd this.2.1 (by decide)

theorem mapMade {H : Type} {w : World} {P : Program} {k : TypeId} {R : Value → Option (DataW H × List MemPlace)} {b : Nat} (h : w.heap[b]? = some (.map #[] 0)) : w.ownsMap P k R b 0 (.map []) :=
  ⟨#[], 0, h, ⟨by simp, MapKept.stamped_empty 0, by simp⟩, Nat.le_refl _, rfl⟩

/-- A run, its parts and its list of panes lie behind B. -/
def NewAt (B R b : Nat) (pv gv : Value) : Prop := B ≤ R ∧ B ≤ b ∧ (∀ k, pv.ownBlock = some k → B ≤ k) ∧ ∀ k, gv.ownBlock = some k → B ≤ k
theorem NewAt.mono {A B R b : Nat} {pv gv : Value} (h : NewAt B R b pv gv) (hab : A ≤ B) : NewAt A R b pv gv := ⟨Nat.le_trans hab h.1, Nat.le_trans hab h.2.1, fun k hk => Nat.le_trans hab (h.2.2.1 k hk), fun k hk => Nat.le_trans hab (h.2.2.2 k hk)⟩

set_option maxRecDepth 20000 in
set_option maxHeartbeats 12800000 in
theorem keep_first (g : Nat) (r : SCells) (key : ByteArray) (t v : Int) (tag : Nat) (w : World) (h : SF w g r) (hg : r.going = .slice none 0 0) (ht : tag < 4294967296)
    (h1 : 1 ≤ r.slide) (h2 : r.slide ≤ r.size) (h3 : r.size ≤ 1099511627776) (t1 : -2305843009213693952 ≤ t - r.size) (t2 : t ≤ 2305843009213693952) :
    Calls Tryz.prog 127 #[.pointer (some ⟨g, 0, none⟩), itemV 1 key t v tag] w fun e w' => e = .returned (.tuple #[]) ∧ ∃ R P M b pv gv, SF w' g (r.setGoing gv) ∧ Row w' 150 1 gv [.pointer (some ⟨R, 0, none⟩)] ∧
      One w' R P M b pv key (winFirst r.size r.slide t) (winLast r.slide t) (wrap64 (0 + 1)) (wrap64 (0 + v)) (minV 9223372036854775807 v) (maxV (-9223372036854775808) v) 1 ((DataW.map []).put (.int .u32 tag) (.agg [])) ∧ Kept (fun k => k = g) w w' ∧ NewAt w.heap.size R b pv gv := by
  unfold itemV
  have hglt := h.lt
  have hi1 := heap_alloc_new w (.cells #[.int .i64 1, .string key, .int .i64 t, .int .i64 v, .int .u32 (tag : Int)] 28)
  have H1 : Hid (SF (w.alloc (.cells #[.int .i64 1, .string key, .int .i64 t, .int .i64 v, .int .u32 (tag : Int)] 28)) g r) := h.congr (Below.heap_alloc _ _ _ hglt)
  have K1 : Hid (Kept (fun k => k = g) w (w.alloc (.cells #[.int .i64 1, .string key, .int .i64 t, .int .i64 v, .int .u32 (tag : Int)] 28))) := (Kept.refl _ w).alloc _
  have hBs : w.heap.size < (w.alloc (.cells #[.int .i64 1, .string key, .int .i64 t, .int .i64 v, .int .u32 (tag : Int)] 28)).heap.size := by simp
  clear h
  go_enter Tryz.func127, Tryz.ntmps127
  go_upto_region 1 with fail
  have hgB : w.heap.size ≠ g := by omega
  generalize w.heap.size = B at *
  generalize w.alloc (.cells #[.int .i64 1, .string key, .int .i64 t, .int .i64 v, .int .u32 (tag : Int)] 28) = W1 at *
  obtain ⟨d0, d1, d2, d3, d4⟩ := itemAt hi1
  have q2 : W1.cell? ⟨g, 2, none⟩ = some (.int .i64 r.size) := H1.out.headAt 2 rfl
  have q3 : W1.cell? ⟨g, 3, none⟩ = some (.int .i64 r.slide) := H1.out.headAt 3 rfl
  have q4 : W1.cell? ⟨g, 4, none⟩ = some (.int .i64 r.late) := H1.out.headAt 4 rfl
  have q5 : W1.cell? ⟨g, 5, none⟩ = some (.int .i64 r.keys) := H1.out.headAt 5 rfl
  have HI1 : Hid (W1.heap[B]? = some (.cells #[.int .i64 1, .string key, .int .i64 t, .int .i64 v, .int .u32 (tag : Int)] 28 (0, 0))) := hi1
  clear hi1
  go_region_held3 (fun W => W.cell? ⟨B, 0, none⟩ = some (.int .i64 1) ∧ W.cell? ⟨B, 1, none⟩ = some (.string key) ∧ W.cell? ⟨B, 2, none⟩ = some (.int .i64 t) ∧ W.cell? ⟨B, 3, none⟩ = some (.int .i64 v) ∧ W.cell? ⟨B, 4, none⟩ = some (.int .u32 (tag : Int)) ∧ W.cell? ⟨g, 2, none⟩ = some (.int .i64 r.size) ∧ W.cell? ⟨g, 3, none⟩ = some (.int .i64 r.slide) ∧ W.cell? ⟨g, 4, none⟩ = some (.int .i64 r.late) ∧ W.cell? ⟨g, 5, none⟩ = some (.int .i64 r.keys)) (go_keep) (first
    | (go_at_call 146; refine (runOf_new g r key W1.drew (H1.out.congr (w' := W1.drew) rfl) hg).mono ?_; rintro e w1 ⟨R, b, gv, rfl, hR1, hb1, hsf1, hpt1, hrun1, hgr1, hgb1, k1⟩; have hB1 : w1.heap[B]? = some (.cells #[.int .i64 1, .string key, .int .i64 t, .int .i64 v, .int .u32 (tag : Int)] 28 (0, 0)) := (k1.block B (by simpa using hBs) hgB).trans HI1.out; obtain ⟨i0, i1, i2, i3, i4⟩ := itemAt hB1; have z2 : w1.cell? ⟨g, 2, none⟩ = some (.int .i64 r.size) := hsf1.headAt 2 rfl; have z3 : w1.cell? ⟨g, 3, none⟩ = some (.int .i64 r.slide) := hsf1.headAt 3 rfl; have z4 : w1.cell? ⟨g, 4, none⟩ = some (.int .i64 r.late) := hsf1.headAt 4 rfl; have z5 : w1.cell? ⟨g, 5, none⟩ = some (.int .i64 r.keys) := hsf1.headAt 5 rfl)
    | (go_at_call 148; refine (windowsOf_any r.size r.slide r.late r.keys t _ h1 h2 h3 t1 t2).mono ?_; rintro e w2 ⟨rfl, hbw⟩; have hB2 := blkBelow hB1 hbw; obtain ⟨j0, j1, j2, j3, j4⟩ := itemAt hB2; have hsf2 := hsf1.below hbw hsf1.lt; have y2 : w2.cell? ⟨g, 2, none⟩ = some (.int .i64 r.size) := hsf2.headAt 2 rfl; have y3 : w2.cell? ⟨g, 3, none⟩ = some (.int .i64 r.slide) := hsf2.headAt 3 rfl; have y4 : w2.cell? ⟨g, 4, none⟩ = some (.int .i64 r.late) := hsf2.headAt 4 rfl; have y5 : w2.cell? ⟨g, 5, none⟩ = some (.int .i64 r.keys) := hsf2.headAt 5 rfl)
    | (go_at_call 147; refine (paneOf_new R key (.slice (some ⟨b + 3, 0, none⟩) 3 3) _ _ w2 (blkBelow hrun1 hbw)).mono ?_; rintro e w3 ⟨P, M, pv, rfl, hP, hM, hPM, hpane3, hmap3, hrun3, hpr3, hpb3, k3⟩; have hBR : B ≠ R := (fun e => by subst e; simp at hR1; omega); have hgR : g ≠ R := (fun e => by subst e; simp at hR1; have := H1.out.lt; omega); have hB3 : w3.heap[B]? = some (.cells #[.int .i64 1, .string key, .int .i64 t, .int .i64 v, .int .u32 (tag : Int)] 28 (0, 0)) := (k3.block B (blkLt hB2) hBR).trans hB2; have hsf3 : SF w3 g (r.setGoing gv) := hsf2.congr (k3.block g hsf2.lt hgR); obtain ⟨l0, l1, l2, l3, l4⟩ := itemAt hB3; have x2 : w3.cell? ⟨g, 2, none⟩ = some (.int .i64 r.size) := hsf3.headAt 2 rfl; have x3 : w3.cell? ⟨g, 3, none⟩ = some (.int .i64 r.slide) := hsf3.headAt 3 rfl; have x4 : w3.cell? ⟨g, 4, none⟩ = some (.int .i64 r.late) := hsf3.headAt 4 rfl; have x5 : w3.cell? ⟨g, 5, none⟩ = some (.int .i64 r.keys) := hsf3.headAt 5 rfl)
    | (go_at_call 149; refine (add_pane P M _ _ 0 0 _ _ key t v tag 0 (.map []) w3 ht hpane3 (mapMade hmap3) (by omega) hPM).mono ?_; rintro e w4 ⟨rfl, hpane4, hmap4, k4⟩; have hB4 : w4.heap[B]? = some (.cells #[.int .i64 1, .string key, .int .i64 t, .int .i64 v, .int .u32 (tag : Int)] 28 (0, 0)) := (k4.block B (blkLt hB3) (fun e => by have := blkLt hB2; omega)).trans hB3; have hsf4 : SF w4 g (r.setGoing gv) := hsf3.congr (k4.block g hsf3.lt (fun e => by have := hsf2.lt; omega)); obtain ⟨m0, m1, m2, m3, m4⟩ := itemAt hB4; have u2 : w4.cell? ⟨g, 2, none⟩ = some (.int .i64 r.size) := hsf4.headAt 2 rfl; have u3 : w4.cell? ⟨g, 3, none⟩ = some (.int .i64 r.slide) := hsf4.headAt 3 rfl; have u4 : w4.cell? ⟨g, 4, none⟩ = some (.int .i64 r.late) := hsf4.headAt 4 rfl; have u5 : w4.cell? ⟨g, 5, none⟩ = some (.int .i64 r.keys) := hsf4.headAt 5 rfl))
  go_end0
  have hw1 : W1.heap.size ≤ w1.heap.size := by simpa using k1.size
  have hw2 := hbw.size
  have hR1' : W1.heap.size ≤ R := by simpa using hR1
  have hb1' : W1.heap.size ≤ b := by simpa using hb1
  have hb3s := blkLt hpt1.all
  have hPb : ∀ k, k < w2.heap.size → k ≠ R → w4.heap[k]? = w2.heap[k]? := fun k hk hkR => (k4.block k (Nat.lt_of_lt_of_le hk k3.size) (fun e => by omega)).trans (k3.block k hk hkR)
  have hMb : M ≠ b + 2 := by omega
  refine ⟨rfl, R, P, M, b, pv, gv, hsf4, ?_, ⟨?_, ?_, hpane4, hmap4, ?_, hMb⟩, ?_, ?_⟩
  · refine (hgr1.below hbw (fun k hk => (hgr1.blk_lt hk).1)).congr (fun k hk => hPb k (by have := (hgr1.blk_lt hk).1; omega) (fun e => ?_))
    subst e
    exact hgr1.ne_block hrun1 (by decide) hk
  · rw [k4.block R (blkLt hrun3) (fun e => by have := blkLt hrun1; omega)]; exact hrun3
  · refine hpr3.congr (fun k hk => k4.block k (hpr3.blk_lt hk).1 ?_)
    rintro (e | e)
    · subst e; exact hpr3.ne_block hpane3 (by decide) hk
    · subst e
      obtain ⟨_, c, hc⟩ := hpr3.blk_lt hk
      rw [hmap3] at hc; cases hc
  · refine hpt1.congr (fun k hk1 hk2 => (hPb k (by omega) (fun e => ?_)).trans (hbw.block k (by omega)))
    exact hpt1.ne hrun1 k hk1 hk2 e
  · have s1 := K1.out.size
    have e1 : Kept (fun k => k = g) w w1 := K1.out.trans (Kept.step (Kept.drew (Kept.refl _ W1)) k1 (fun _ _ h => h))
    have e2 : Kept (fun k => k = g) w w2 := e1.trans (Kept.ofBelow hbw _)
    exact (e2.step k3 (fun i hi h => by subst h; omega)).step k4 (fun i hi h => by omega)
  · have s1 := K1.out.size
    exact ⟨by omega, by omega, fun k hk => by have := hpb3 k hk; omega, fun k hk => by have := hgb1 k hk; simp at this; omega⟩
end Go.Proofs.YtcfngdnmpogaoaaGreat
