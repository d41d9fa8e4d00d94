/- Appends of nothing, and of fresh zeros to a nil slice. Nothing here speaks of one program. -/
import Derived.Test.YtcfngdnmpogaoaaMem
namespace Go.Proofs.Ytcfngdnmpogaoaa
open Go.RowKit

section
variable {P : Program} (w : World)

theorem run_append_none (t tx ty e : TypeId) (i : TypeInfo) (ht : P.underlying t = some (.slice e)) (hi : P.info? e = some i) (base : Option Addr) (n cap : Nat) (hn : n ≤ cap) (x : Value) (hs : Src P i.size tx x 0 [] w) :
    (Builtin.append_ #[t, tx] ty #[.slice base n cap, x]).run P w = .ok (.slice base n cap) w := by
  rcases hs.kind with ⟨e', hk⟩ | hk <;> cases base <;> simp [Builtin.append_, run_underlying ht, run_underlying hk, sizeOf, typeInfo, hi, hs.len, hn, hs.cells, storeCells]

theorem wpList_append_none {ops : Array Oper} {rest : List Oper} {o : Oper} {a : Act} {Q : Exit → Act → World → Prop} (hgd : o.guard = none) (s x : Operand) (t tx : TypeId)
    (ho : o.op = .call { callee := .builtin .append, args := #[s, x], argTypes := #[t, tx] })
    (e : TypeId) (i : TypeInfo) (sz : Nat) (ht : P.underlying t = some (.slice e)) (hi : P.info? e = some i) (hsize : i.size = sz)
    (base : Option Addr) (n cap : Nat) (hev : a.eval s = .slice base n cap) (hn : n ≤ cap) (xv : Value) (hx : a.eval x = xv) (hs : Src P sz tx xv 0 [] w)
    (h : wpList P ops Q rest (a.put o.dst (.slice base n cap)) w) : wpList P ops Q (o :: rest) a w :=
  wpList_plain hgd fun _ hK => by
    subst hsize
    have hr := run_append_none (P := P) w t tx o.type e i ht hi base n cap hn xv hs
    unfold Oper.wp execOp
    simp only [ho, resolve, invoke, builtin, Sem.run_bind, Sem.run_pure, Result.andThen_ok, List.map_toArray, List.map_cons, List.map_nil, hev, hx, hr]
    exact hK _ _ h

theorem run_append_make (t tx ty e : TypeId) (i : TypeInfo) (z : Value) (ht : P.underlying t = some (.slice e)) (htx : P.underlying tx = some (.int .i64)) (hi : P.info? e = some i) (hz : i.zero = some z)
    (_hzs : z.cells.size = i.size) (hsz : 0 < i.size) (n : Nat) (hn : 0 < n) (hm : n ≤ maxLen) (hb : n * i.bytes ≤ 140737488355328) :
    (Builtin.append_ #[t, tx] ty #[.slice none 0 0, .int .i64 n]).run P w =
      .ok (.slice (some ⟨w.heap.size, 0, none⟩) n (grownCap w n 0 e)) (w.drew.alloc (.cells (Builtin.zeroCells z.cells n ++ Builtin.zeroCells z.cells (grownCap w n 0 e - n)) e)) := by
  have hm' := hm
  simp only [maxLen] at hm'
  have hwr : IntKind.i64.wrap (n : Int) = n := by rw [IntKind.wrap_i64]; omega
  have h0 : ¬ ((n : Int) < 0) := by omega
  have h63' : ¬ (9223372036854775807 < (n : Int)) := by omega
  have hfit : Builtin.nextslicecap (0 + n) 0 * i.bytes ≤ 281474976710656 := growslice_fits (by omega) (by simpa using hb)
  rw [Nat.zero_add] at hfit
  have h48' : ¬ (281474976710656 < Builtin.nextslicecap n 0 * i.bytes) := by omega
  have hbi : ¬ (281474976710656 < (n : Int) * i.bytes) := by have : (n : Int) * i.bytes = ((n * i.bytes : Nat) : Int) := by simp
                                                             omega
  have hne : ¬ (n = 0) := by omega
  simp [Builtin.append_, run_underlying ht, run_underlying htx, sizeOf, typeInfo, zeroValue, hi, hz, h0, hwr, h63', h48', hbi, hne, Question.forced, newRow, grownCap, Builtin.firstCells, asInt, asIntOf]
  intro hh
  exact absurd hh (by have := Nat.mul_pos hn hsz; omega)

theorem wpList_append_make {ops : Array Oper} {rest : List Oper} {o : Oper} {a : Act} {Q : Exit → Act → World → Prop} (hgd : o.guard = none) (s x : Operand) (t tx : TypeId)
    (ho : o.op = .call { callee := .builtin .append, args := #[s, x], argTypes := #[t, tx] })
    (e : TypeId) (i : TypeInfo) (z : Value) (sz bytes : Nat) (ht : P.underlying t = some (.slice e)) (htx : P.underlying tx = some (.int .i64)) (hi : P.info? e = some i) (hz : i.zero = some z)
    (hsize : i.size = sz) (hby : i.bytes = bytes) (hzs : z.cells.size = sz) (hsz : 0 < sz)
    (n : Nat) (hev : a.eval s = .slice none 0 0) (hx : a.eval x = .int .i64 n) (hn : 0 < n) (hm : n ≤ maxLen) (hb : n * bytes ≤ 140737488355328)
    (h : ∀ cap w', n ≤ cap → (∀ k, k < w.heap.size → w'.heap[k]? = w.heap[k]?) → Below w.heap.size w w' → w.heap.size < w'.heap.size → Row w' e sz (.slice (some ⟨w.heap.size, 0, none⟩) 0 cap) [] → wpList P ops Q rest (a.put o.dst (.slice (some ⟨w.heap.size, 0, none⟩) n cap)) w') : wpList P ops Q (o :: rest) a w :=
  wpList_plain hgd fun _ hK => by
    subst hsize
    subst hby
    have hr := run_append_make (P := P) w t tx o.type e i z ht htx hi hz hzs hsz n hn hm hb
    have hge := grownCap_ge w n 0 e
    have hcm := grownCap_le_maxLen w n 0 e hm
    unfold Oper.wp execOp
    simp only [ho, resolve, invoke, builtin, Sem.run_bind, Sem.run_pure, Result.andThen_ok, List.map_toArray, List.map_cons, List.map_nil, hev, hx, hr]
    refine hK _ _ (h _ _ hge (fun k hk => Below.heap_alloc w.drew _ k hk) (((Below.refl _ w).drew).alloc (by simp) _) (by simp) (.inr ⟨w.heap.size, 0, 0, _, _, rfl, heap_alloc_new w.drew _, Nat.zero_le _, hcm, ?_, by simp, fun j hj => by simp at hj⟩))
    simp only [Array.size_append, size_zeroCells, hzs, ← Nat.add_mul, Nat.zero_add]
    exact Nat.le_of_eq (by congr 1; omega)

/-- append, of nothing too. -/
theorem append_row_any (t tx ty e : TypeId) (i : TypeInfo) (z : Value) (sz bytes : Nat) (ht : P.underlying t = some (.slice e)) (hi : P.info? e = some i) (hz : i.zero = some z)
    (hsize : i.size = sz) (hby : i.bytes = bytes) (hzs : z.cells.size = sz) (hsz : 0 < sz)
    (v : Value) (xs : List Value) (hrow : Row w e sz v xs) (x : Value) (m : Nat) (news : List Value) (hs : Src P sz tx x m news w)
    (h63 : xs.length + m ≤ maxLen) (hbytes : (xs.length + m * sz) * bytes ≤ 140737488355328 * sz) :
    ∃ v' w', (Builtin.append_ #[t, tx] ty #[v, x]).run P w = .ok v' w' ∧ App w w' e sz v v' xs news ∧ (m = 0 → v' = v) := by
  by_cases hm : 0 < m
  · obtain ⟨v', w', h1, h2⟩ := append_row w t tx ty e i z sz bytes ht hi hz hsize hby hzs hsz v xs hrow x m news hs hm h63 hbytes
    exact ⟨v', w', h1, h2, fun h => by omega⟩
  · have hm0 : m = 0 := by omega
    subst hm0
    have hn : news = [] := List.eq_nil_of_length_eq_zero (by rw [hs.newsLen]; omega)
    subst hn
    obtain ⟨base, n, cap, rfl, hnc⟩ : ∃ base n cap, v = .slice base n cap ∧ n ≤ cap := by
      rcases hrow with ⟨rfl, _⟩ | ⟨g, off, n, cap, cur, rfl, _, hn, _⟩
      · exact ⟨_, _, _, rfl, Nat.le_refl _⟩
      · exact ⟨_, _, _, rfl, hn⟩
    subst hsize
    exact ⟨_, _, run_append_none w t tx ty e i ht hi base n cap hnc x hs, ⟨by rw [List.append_nil]; exact hrow, ⟨rfl, rfl, rfl, Nat.le_refl _, fun _ _ _ => rfl⟩, .inl ⟨rfl, rfl⟩, fun _ _ hu _ => hu⟩, fun _ => rfl⟩

theorem wpList_append_any {ops : Array Oper} {rest : List Oper} {o : Oper} {a : Act} {Q : Exit → Act → World → Prop} (hgd : o.guard = none) (s x : Operand) (t tx : TypeId)
    (ho : o.op = .call { callee := .builtin .append, args := #[s, x], argTypes := #[t, tx] })
    (e : TypeId) (i : TypeInfo) (z : Value) (sz bytes : Nat) (ht : P.underlying t = some (.slice e)) (hi : P.info? e = some i) (hz : i.zero = some z)
    (hsize : i.size = sz) (hby : i.bytes = bytes) (hzs : z.cells.size = sz) (hsz : 0 < sz)
    (v : Value) (xs : List Value) (hev : a.eval s = v) (hrow : Row w e sz v xs) (xv : Value) (m : Nat) (news : List Value) (hx : a.eval x = xv) (hs : Src P sz tx xv m news w)
    (h63 : xs.length + m ≤ maxLen) (hbytes : (xs.length + m * sz) * bytes ≤ 140737488355328 * sz)
    (h : ∀ v' w', App w w' e sz v v' xs news → (m = 0 → v' = v) → wpList P ops Q rest (a.put o.dst v') w') : wpList P ops Q (o :: rest) a w :=
  wpList_plain hgd fun _ hK => by
    obtain ⟨v', w', hr, h2, h3⟩ := append_row_any (P := P) w t tx o.type e i z sz bytes ht hi hz hsize hby hzs hsz v xs hrow xv m news hs h63 hbytes
    unfold Oper.wp execOp
    simp only [ho, resolve, invoke, builtin, Sem.run_bind, Sem.run_pure, Result.andThen_ok, List.map_toArray, List.map_cons, List.map_nil, hev, hx, hr]
    exact hK _ _ (h v' w' h2 h3)

/-- A slice as what is appended. -/
theorem Row.src {e e' tx : TypeId} {v : Value} {xs : List Value} (h : Row w e 1 v xs) (h1 : ∀ u ∈ xs, u.oneCell' = true) (hk : P.underlying tx = some (.slice e')) : Src P 1 tx v xs.length xs w := by
  by_cases hx : xs = []
  · subst hx
    rcases h with ⟨rfl, _⟩ | ⟨g, off, n, cap, cur, rfl, _, _, _, _, hl, _⟩
    · exact Src.ofNil w hk 0
    · have : n = 0 := by simpa using hl.symm
      subst this
      exact Src.ofSlice w hk ⟨g, off, none⟩ 0 cap [] (by simp) (fun j u hu => by simp at hu) (fun u hu => by simp at hu)
  · obtain ⟨g, off, n, cap, rfl, hl, _⟩ := h.shape hx
    have hl' : xs.length = n := by simpa using hl
    rw [hl']
    refine Src.ofSlice w hk ⟨g, off, none⟩ n cap xs hl (fun j u hu => ?_) h1
    rw [Addr.add_lit, h.cell j (by have := (List.getElem?_eq_some_iff.1 hu).1; omega)]; exact hu

end
end Go.Proofs.Ytcfngdnmpogaoaa
