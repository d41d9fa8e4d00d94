/- Slices in memory: what a slice holds, what an append leaves. Nothing here speaks of one program. -/
import Derived.WalkKit
import Derived.Deep.AppendSrc
namespace Go.Proofs.Ytcfngdnmpogaoaa
open Go.RowKit

/-- Where in its block a slice begins. -/
def offOf : Value → Nat
  | .slice (some a) _ _ => a.off
  | _ => 0

/-- A slice whose cells (sz of them for each element) are xs; it lies in a block of elements of type e that is not frozen. -/
def Row (w : World) (e : TypeId) (sz : Nat) (v : Value) (xs : List Value) : Prop :=
  (v = .slice none 0 0 ∧ xs = []) ∨
  ∃ g off n cap cur, v = .slice (some ⟨g, off, none⟩) n cap ∧ w.heap[g]? = some (.cells cur e (0, 0)) ∧ n ≤ cap ∧ cap ≤ maxLen ∧ off + cap * sz ≤ cur.size ∧ xs.length = n * sz ∧ ∀ j, j < n * sz → cur[off + j]? = xs[j]?

theorem Row.nil (w : World) (e : TypeId) (sz : Nat) : Row w e sz (.slice none 0 0) [] := .inl ⟨rfl, rfl⟩

theorem Row.ofOwns {w : World} {base : Nat} {e : TypeId} {sz : Nat} {v : Value} {n : Nat} {xs : List Value} (h : w.ownsRow base e sz v n xs) : Row w e sz v xs := by
  obtain ⟨hl, h⟩ := h
  rcases h with ⟨rfl, rfl⟩ | ⟨g, cap, cur, rfl, _, hg, hnc, hcm, hs, ht⟩
  · exact .inl ⟨rfl, List.eq_nil_of_length_eq_zero (by simpa using hl)⟩
  · refine .inr ⟨g, 0, n, cap, cur, rfl, hg, hnc, hcm, by omega, hl, fun j hj => ?_⟩
    rw [← ht, List.getElem?_take, if_pos hj, Nat.zero_add]; simp

theorem Row.blk_lt {w : World} {e : TypeId} {sz : Nat} {v : Value} {xs : List Value} (h : Row w e sz v xs) {k : Nat} (hk : v.ownBlock = some k) : k < w.heap.size ∧ ∃ cur, w.heap[k]? = some (.cells cur e (0, 0)) := by
  rcases h with ⟨rfl, _⟩ | ⟨g, off, n, cap, cur, rfl, hg, _⟩
  · simp [Value.ownBlock] at hk
  · simp only [Value.ownBlock, Option.some.injEq] at hk
    subst hk
    exact ⟨(Array.getElem?_eq_some_iff.1 hg).1, cur, hg⟩

theorem Row.congr {w w' : World} {e : TypeId} {sz : Nat} {v : Value} {xs : List Value} (h : Row w e sz v xs) (hb : ∀ k, v.ownBlock = some k → w'.heap[k]? = w.heap[k]?) : Row w' e sz v xs := by
  rcases h with h | ⟨g, off, n, cap, cur, rfl, hg, r⟩
  · exact .inl h
  · exact .inr ⟨g, off, n, cap, cur, rfl, by rw [hb g rfl]; exact hg, r⟩

theorem Row.grown {w w' : World} {row : Option Nat} {e : TypeId} {sz : Nat} {v : Value} {xs : List Value} (h : Row w e sz v xs) (hg : w.grownBy w' row) (hne : ∀ k, v.ownBlock = some k → row ≠ some k) : Row w' e sz v xs :=
  h.congr fun k hk => hg.block k (h.blk_lt hk).1 (fun e => hne k hk e.symm)

theorem Row.below {w w' : World} {B : Nat} {e : TypeId} {sz : Nat} {v : Value} {xs : List Value} (h : Row w e sz v xs) (hg : Below B w w') (hne : ∀ k, v.ownBlock = some k → k < B) : Row w' e sz v xs :=
  h.congr fun k hk => hg.block k (hne k hk)

theorem Row.alloc {w : World} {e : TypeId} {sz : Nat} {v : Value} {xs : List Value} (h : Row w e sz v xs) (o : Obj) : Row (w.alloc o) e sz v xs :=
  h.congr fun k hk => Below.heap_alloc w o k (h.blk_lt hk).1

theorem Row.drew {w : World} {e : TypeId} {sz : Nat} {v : Value} {xs : List Value} (h : Row w e sz v xs) : Row w.drew e sz v xs := h

/-- Blocks of elements of two types are two blocks. -/
theorem Row.apart {w : World} {e e' : TypeId} {sz sz' : Nat} {v v' : Value} {xs xs' : List Value} (h : Row w e sz v xs) (h' : Row w e' sz' v' xs') (hne : e ≠ e') {k : Nat} (hk : v.ownBlock = some k) : v'.ownBlock ≠ some k := by
  intro hk'
  obtain ⟨_, c, hc⟩ := h.blk_lt hk
  obtain ⟨_, c', hc'⟩ := h'.blk_lt hk'
  rw [hc] at hc'
  simp only [Option.some.injEq, Obj.cells.injEq] at hc'
  exact hne hc'.2.1

/-- Reading a cell of a slice. -/
theorem Row.cell {w : World} {e : TypeId} {sz : Nat} {g off n cap : Nat} {xs : List Value} (h : Row w e sz (.slice (some ⟨g, off, none⟩) n cap) xs) (j : Nat) (hj : j < n * sz) : w.cell? ⟨g, off + j, none⟩ = xs[j]? := by
  rcases h with ⟨h, _⟩ | ⟨g', off', n', cap', cur, hv, hg, _, _, _, _, hc⟩
  · simp at h
  · simp only [Value.slice.injEq, Option.some.injEq, Addr.mk.injEq] at hv
    obtain ⟨⟨rfl, rfl, _⟩, rfl, rfl⟩ := hv
    rw [cell_of_row w _ _ cur e (0, 0) hg]
    exact hc j hj
theorem Row.frozen {w : World} {e : TypeId} {sz : Nat} {g off n cap : Nat} {xs : List Value} (h : Row w e sz (.slice (some ⟨g, off, none⟩) n cap) xs) (j : Nat) : w.frozen? ⟨g, j, none⟩ = false := by
  rcases h with ⟨h, _⟩ | ⟨g', off', n', cap', cur, hv, hg, _⟩
  · simp at h
  · simp only [Value.slice.injEq, Option.some.injEq, Addr.mk.injEq] at hv
    obtain ⟨⟨rfl, rfl, _⟩, rfl, rfl⟩ := hv
    exact frozen_of_row w _ j cur e hg
/-- The shape of a slice. -/
theorem Row.shape {w : World} {e : TypeId} {sz : Nat} {v : Value} {xs : List Value} (h : Row w e sz v xs) (hx : xs ≠ []) : ∃ g off n cap, v = .slice (some ⟨g, off, none⟩) n cap ∧ xs.length = n * sz ∧ n ≤ cap := by
  rcases h with ⟨_, h⟩ | ⟨g, off, n, cap, cur, rfl, _, hn, _, _, hl, _⟩
  · exact absurd h hx
  · exact ⟨g, off, n, cap, rfl, hl, hn⟩

theorem setCells_streams (g : Nat) : ∀ (vs : List Value) (o : Nat) (w : World), (w.setCells g o vs).os = w.os ∧ (w.setCells g o vs).tape = w.tape ∧ (w.setCells g o vs).output = w.output ∧ (w.setCells g o vs).heap.size = w.heap.size
  | [], _, _ => ⟨rfl, rfl, rfl, rfl⟩
  | v :: vs, o, w => by
    obtain ⟨a, b, c, d⟩ := setCells_streams g vs (o + 1) (w.setCell ⟨g, o, none⟩ v)
    exact ⟨a, b, c, d.trans (by simp [World.setCell])⟩

theorem setCells_other (g : Nat) : ∀ (vs : List Value) (o : Nat) (w : World) (k : Nat), k ≠ g → (w.setCells g o vs).heap[k]? = w.heap[k]?
  | [], _, _, _, _ => rfl
  | v :: vs, o, w, k, h => (setCells_other g vs (o + 1) (w.setCell ⟨g, o, none⟩ v) k h).trans (heap_setCell_other w ⟨g, o, none⟩ k v h)

theorem setCells_same (g : Nat) (e : TypeId) : ∀ (vs : List Value) (o : Nat) (w : World) (cur : Array Value), w.heap[g]? = some (.cells cur e (0, 0)) →
    ∃ cur' : Array Value, (w.setCells g o vs).heap[g]? = some (.cells cur' e (0, 0)) ∧ cur'.size = cur.size ∧ (∀ j, (j < o ∨ o + vs.length ≤ j) → cur'[j]? = cur[j]?) ∧ (o + vs.length ≤ cur.size → ∀ j, j < vs.length → cur'[o + j]? = vs[j]?)
  | [], _, _, cur, h => ⟨cur, h, rfl, fun _ _ => rfl, fun _ j hj => by simp at hj⟩
  | v :: vs, o, w, cur, h => by
    obtain ⟨cur', h1, h2, h3, h4⟩ := setCells_same g e vs (o + 1) (w.setCell ⟨g, o, none⟩ v) (cur.setIfInBounds o v) (heap_setCell_same w g o cur e v h)
    refine ⟨cur', h1, by simpa using h2, fun j hj => ?_, fun hb j hj => ?_⟩
    · simp only [List.length_cons] at hj
      rw [h3 j (by omega), Array.getElem?_setIfInBounds]
      rw [if_neg (by omega)]
    · simp only [List.length_cons] at hb hj
      cases j with
      | zero =>
        rw [h3 (o + 0) (by omega), Array.getElem?_setIfInBounds]
        simp; omega
      | succ j =>
        have := h4 (by simpa using by omega) j (by omega)
        rw [show o + (j + 1) = o + 1 + j from by omega, this]; simp

/-- What an append leaves: v the slice that was, v' the one that is. -/
structure App (w w' : World) (e : TypeId) (sz : Nat) (v v' : Value) (xs news : List Value) : Prop where
  row : Row w' e sz v' (xs ++ news)
  grown : w.grownBy w' v.ownBlock
  step : (v'.ownBlock = v.ownBlock ∧ offOf v' = offOf v) ∨ (v'.ownBlock = some w.heap.size ∧ w.grownBy w' none)
  old : ∀ u ys, Row w e sz u ys → (u.ownBlock = v.ownBlock → offOf u = offOf v ∧ ys.length ≤ xs.length) → Row w' e sz u ys

theorem App.kept {w w' : World} {e : TypeId} {sz : Nat} {v v' : Value} {xs news : List Value} (h : App w w' e sz v v' xs news) (hv : Row w e sz v xs) : Row w' e sz v xs :=
  h.old v xs hv fun _ => ⟨rfl, Nat.le_refl _⟩

theorem App.below {w w' : World} {e : TypeId} {sz B : Nat} {v v' : Value} {xs news : List Value} (h : App w w' e sz v v' xs news) (hB : ∀ g, v.ownBlock = some g → B ≤ g) (hBw : B ≤ w.heap.size) : Below B w w' :=
  (Below.refl B w).grown h.grown hBw hB
theorem App.blk {w w' : World} {e : TypeId} {sz B : Nat} {v v' : Value} {xs news : List Value} (h : App w w' e sz v v' xs news) (hB : ∀ g, v.ownBlock = some g → B ≤ g) (hBw : B ≤ w.heap.size) : ∀ g, v'.ownBlock = some g → B ≤ g := by
  intro g hg
  rcases h.step with ⟨h1, _⟩ | ⟨h1, _⟩
  · exact hB g (h1 ▸ hg)
  · rw [h1] at hg
    simp only [Option.some.injEq] at hg
    omega

section
variable {P : Program} (w : World)

theorem append_row (t tx ty e : TypeId) (i : TypeInfo) (z : Value) (sz bytes : Nat) (ht : P.underlying t = some (.slice e)) (hi : P.info? e = some i) (hz : i.zero = some z)
    (hsize : i.size = sz) (hby : i.bytes = bytes) (hzs : z.cells.size = sz) (hsz : 0 < sz)
    (v : Value) (xs : List Value) (hrow : Row w e sz v xs) (x : Value) (m : Nat) (news : List Value) (hs : Src P sz tx x m news w) (hm : 0 < m)
    (h63 : xs.length + m ≤ maxLen) (hbytes : (xs.length + m * sz) * bytes ≤ 140737488355328 * sz) :
    ∃ v' w', (Builtin.append_ #[t, tx] ty #[v, x]).run P w = .ok v' w' ∧ App w w' e sz v v' xs news := by
  subst hsize
  subst hby
  have hnl := hs.newsLen
  -- the arm that grows
  have grow : ∀ (base : Option Addr) (n cap : Nat), v = .slice base n cap → xs.length = n * i.size → cap < n + m →
      (Builtin.firstCells i.size n (.slice base n cap)).run P w.drew = .ok xs.toArray w.drew →
      ∃ v' w', (Builtin.append_ #[t, tx] ty #[v, x]).run P w = .ok v' w' ∧ App w w' e i.size v v' xs news := by
    intro base n cap hv hl hc hold
    subst hv
    have hb : (n + m) * i.bytes ≤ 140737488355328 := by
      rw [hl, ← Nat.add_mul, Nat.mul_right_comm] at hbytes
      exact Nat.le_of_mul_le_mul_right hbytes hsz
    have hn1 : n ≤ xs.length := by rw [hl]; exact Nat.le_mul_of_pos_right _ hsz
    have hnm : n + m ≤ maxLen := by omega
    have hr := run_append_grow_src (P := P) w t tx ty e i z ht hi hz base n cap xs hold x m news hs hc (by simp only [maxLen] at hnm; omega) (growslice_fits hc hb)
    have hge := grownCap_ge w (n + m) cap e
    have hcm := grownCap_le_maxLen w (n + m) cap e hnm
    have hlen : (xs ++ news).length = (n + m) * i.size := by rw [List.length_append, hl, hnl, Nat.add_mul]
    have hgr : ∀ row, w.grownBy (w.drew.alloc (.cells ((xs ++ news).toArray ++ Builtin.zeroCells z.cells (grownCap w (n + m) cap e - (n + m))) e)) row := fun row =>
      ⟨rfl, rfl, rfl, by simp, fun k hk _ => Below.heap_alloc w.drew _ k hk⟩
    refine ⟨_, _, hr, ⟨.inr ⟨w.heap.size, 0, n + m, _, _, rfl, heap_alloc_new w.drew _, hge, hcm, ?_, hlen, fun j hj => ?_⟩, hgr _, .inr ⟨rfl, hgr _⟩, fun u ys hu _ => hu.grown (hgr none) (fun _ _ => by simp)⟩⟩
    · simp only [Array.size_append, List.size_toArray, size_zeroCells, hzs, hlen, ← Nat.add_mul, Nat.zero_add]
      exact Nat.le_of_eq (by congr 1; omega)
    · rw [Nat.zero_add, Array.getElem?_append_left (by simpa [hlen] using hj)]
      simp
  rcases hrow with ⟨rfl, rfl⟩ | ⟨g, off, n, cap, cur, rfl, hg, hnc, hcm, hcs, hl, hcell⟩
  · exact grow none 0 0 rfl (by simp) (by omega) (by simp [Builtin.firstCells])
  · by_cases hroom : n + m ≤ cap
    · have hfit : off + n * i.size + news.length ≤ cur.size := by
        rw [hnl]
        have := Nat.mul_le_mul_right i.size hroom
        rw [Nat.add_mul] at this
        omega
      have hr := run_append_room_src (P := P) w t tx ty e i ht hi g off n cap x m news hs hroom
        (fun j hj => by rw [cell_of_row w _ _ cur e (0, 0) hg]; simp; omega) (fun j _ => frozen_of_row w _ _ cur e hg)
      obtain ⟨cur', h1, h2, h3, h4⟩ := setCells_same g e news (off + n * i.size) w cur hg
      obtain ⟨s1, s2, s3, s4⟩ := setCells_streams g news (off + n * i.size) w
      refine ⟨_, _, hr, ⟨.inr ⟨g, off, n + m, cap, cur', rfl, h1, hroom, hcm, by omega, by rw [List.length_append, hl, hnl, Nat.add_mul], fun j hj => ?_⟩,
        ⟨s1, s2, s3, Nat.le_of_eq s4.symm, fun k _ hk => setCells_other g news _ w k (fun e => hk (by simp [Value.ownBlock, e]))⟩, .inl ⟨rfl, rfl⟩, fun u ys hu hp => ?_⟩⟩
      · by_cases hj' : j < n * i.size
        · rw [h3 _ (by omega), hcell j hj', List.getElem?_append_left (by omega)]
        · have hj2 : j - n * i.size < news.length := by rw [hnl]; rw [Nat.add_mul] at hj; omega
          have := h4 (by omega) (j - n * i.size) hj2
          rw [show off + n * i.size + (j - n * i.size) = off + j from by omega] at this
          rw [this, List.getElem?_append_right (by omega), hl]
      · rcases hu with hu | ⟨g', off', n', cap', curu, rfl, hgu, r1, r2, r3, r4, r5⟩
        · exact .inl hu
        · by_cases hgg : g' = g
          · subst hgg
            obtain ⟨ho, hle⟩ := hp rfl
            simp only [offOf] at ho
            subst ho
            rw [hg] at hgu
            simp only [Option.some.injEq, Obj.cells.injEq] at hgu
            obtain ⟨rfl, _⟩ := hgu
            refine .inr ⟨g', off', n', cap', cur', rfl, h1, r1, r2, by omega, r4, fun j hj => ?_⟩
            rw [h3 _ (by omega)]
            exact r5 j hj
          · exact .inr ⟨g', off', n', cap', curu, rfl, by rw [setCells_other g news _ w g' hgg]; exact hgu, r1, r2, r3, r4, r5⟩
    · refine grow (some ⟨g, off, none⟩) n cap rfl hl (by omega) ?_
      exact run_firstCells_some (P := P) w.drew i.size n ⟨g, off, none⟩ n cap xs hl (fun j u hu => by
        rw [Addr.add_lit, World.cell?_drew, cell_of_row w _ _ cur e (0, 0) hg, hcell j (by have := (List.getElem?_eq_some_iff.1 hu).1; omega)]; exact hu)

theorem wp_append {o : Oper} {a : Act} {K : Act → World → Prop} {Q : Exit → Act → World → Prop} (s x : Operand) (t tx : TypeId)
    (ho : o.op = .call { callee := .builtin .append, args := #[s, x], argTypes := #[t, tx] })
    (e : TypeId) (i : TypeInfo) (z : Value) (sz bytes : Nat) (ht : P.underlying t = some (.slice e)) (hi : P.info? e = some i) (hz : i.zero = some z)
    (hsize : i.size = sz) (hby : i.bytes = bytes) (hzs : z.cells.size = sz) (hsz : 0 < sz)
    (v : Value) (xs : List Value) (hev : a.eval s = v) (hrow : Row w e sz v xs) (xv : Value) (m : Nat) (news : List Value) (hx : a.eval x = xv) (hs : Src P sz tx xv m news w) (hm : 0 < m)
    (h63 : xs.length + m ≤ maxLen) (hbytes : (xs.length + m * sz) * bytes ≤ 140737488355328 * sz)
    (h : ∀ v' w', App w w' e sz v v' xs news → K (a.put o.dst v') w') : o.wp P a w K Q := by
  obtain ⟨v', w', hr, h2⟩ := append_row (P := P) w t tx o.type e i z sz bytes ht hi hz hsize hby hzs hsz v xs hrow xv m news hs hm h63 hbytes
  unfold Oper.wp execOp
  simp only [ho, resolve, invoke, builtin, Sem.run_bind, Sem.run_pure, Result.andThen_ok, List.map_toArray, List.map_cons, List.map_nil, hev, hx, hr]
  exact h v' w' h2

theorem wpList_append {ops : Array Oper} {rest : List Oper} {o : Oper} {a : Act} {Q : Exit → Act → World → Prop} (hgd : o.guard = none) (s x : Operand) (t tx : TypeId)
    (ho : o.op = .call { callee := .builtin .append, args := #[s, x], argTypes := #[t, tx] })
    (e : TypeId) (i : TypeInfo) (z : Value) (sz bytes : Nat) (ht : P.underlying t = some (.slice e)) (hi : P.info? e = some i) (hz : i.zero = some z)
    (hsize : i.size = sz) (hby : i.bytes = bytes) (hzs : z.cells.size = sz) (hsz : 0 < sz)
    (v : Value) (xs : List Value) (hev : a.eval s = v) (hrow : Row w e sz v xs) (xv : Value) (m : Nat) (news : List Value) (hx : a.eval x = xv) (hs : Src P sz tx xv m news w) (hm : 0 < m)
    (h63 : xs.length + m ≤ maxLen) (hbytes : (xs.length + m * sz) * bytes ≤ 140737488355328 * sz)
    (h : ∀ v' w', App w w' e sz v v' xs news → wpList P ops Q rest (a.put o.dst v') w') : wpList P ops Q (o :: rest) a w :=
  wpList_plain hgd fun _ hK => wp_append w s x t tx ho e i z sz bytes ht hi hz hsize hby hzs hsz v xs hev hrow xv m news hx hs hm h63 hbytes fun v' w' h2 => hK _ _ (h v' w' h2)
end

end Go.Proofs.Ytcfngdnmpogaoaa
